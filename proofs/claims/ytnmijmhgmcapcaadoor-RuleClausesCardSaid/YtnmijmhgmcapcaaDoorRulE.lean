/-
  rule: ends.
-/
import Derived.Test.YtnmijmhgmcapcaaDoorRulD
namespace Go.Proofs.YtnmijmhgmcapcaaDoor.Rul
open Go.RowKit Go.Shelf Ucd

attribute [local go_sem] Oper.semAt_some

theorem lb_app (p t : List (Nat × Int)) : lb (p ++ t) = if lb p = 8 then lb t else lb p := by
  induction p with
  | nil => rfl
  | cons a p ih =>
    rw [List.cons_append, lb, lb, ih]
    split
    · rfl
    · rfl
theorem lb_snoc (p : List (Nat × Int)) (x : Nat × Int) (h : lb p = 8) : lb (p ++ [x]) = bc x.2 := by
  rw [lb_app, if_pos h, lb, lb]
  split
  · rename_i e; exact e.symm
  · rfl
theorem mark_hb (r : Int) : hb 256 r = decide (bc r = 8) := by
  unfold hb
  rw [(hs_all (bc_bd r)).2.2.2.2.2.1]
  simp [S]
theorem keeps_below {W W' : World} (h : Below W.heap.size W W') : KeepsOthers W W' := ⟨h.size, fun k _ hk _ => (h.block k (Array.getElem?_eq_some_iff.1 hk).1).trans hk⟩
def EndI (w : World) (fv sv : Value) (pre : List (Nat × Int)) (W : World) : Prop :=
  (((lb pre = 8 ∧ Boxed W w.heap.size 40 fv) ∧ Boxed W (w.heap.size + 1) 4 (.bool false)) ∧ Boxed W (w.heap.size + 2) 22 sv) ∧ Below w.heap.size w W
def EndX (w : World) (s : Int) (c : Code) (pre : List (Nat × Int)) (W : World) : Prop :=
  ((c = .ret ∧ lb pre ≠ 8) ∧ Boxed W (w.heap.size + 1) 4 (.bool (hs s (lb pre)))) ∧ Below w.heap.size w W

set_option maxRecDepth 100000 in
set_option maxHeartbeats 2000000 in
theorem ends_in (n : Nat) (hn : 3 ≤ n) (s : Int) (hs0 : 0 ≤ s) (hs1 : s < 4294967296) (h8 : hs s 8 = false) (l : List Int) (A : Option Addr) (len cap : Nat) (w : World) (hlen : l.length = len) (hm : len ≤ 1000000) (hr : Row w w.heap.size A (cl .i32 l)) :
    CallsIn Fence.wide n Tryd.prog 36 #[.slice A len cap, .func (.func 17) #[.int .u32 s] #[]] w (IsB (hs s (lastC (l.map bc))) w) := by
  have h1 : 1 ≤ n := by omega
  have HL := Lib.hid hlen
  have HE : Hid (lb (back l len) = lastC (l.map bc)) := Lib.hid (by rw [lb_back l len (by omega), List.take_of_length_le (by omega)])
  have HS8 := Lib.hid h8
  have HM := Lib.hid (fun r w => has_any 256 r (by decide) (by decide) w)
  have HF := Lib.hid (fun r w => has_any s r hs0 hs1 w)
  clear hlen h8 hs0 hs1
  refine callsIn_of_wp_marks Tryd.func36 rfl trivial ?_ rfl
  simp only [Tryd.ntmps36, List.size_toArray, List.length_cons, List.length_nil, Nat.reduceAdd, Nat.reduceSub, Array.replicate_succ, Array.replicate_zero, List.push_toArray, List.append_toArray, List.nil_append, List.cons_append]
  gi_wp2_with (refine ⟨trivial, ?_⟩; gi_at_call 46; refine (Backward_any _ _ _ _ _).mono ?_; rintro e w' ⟨rfl, rfl⟩)
  have bF := ((Boxed.new w 40 (.func (.func 17) #[.int .u32 s] #[])).alloc (.cells #[.bool false] 4)).alloc (.cells #[.slice A len cap] 22)
  have bO := (Boxed.new (w.alloc (.cells #[(.func (.func 17) #[.int .u32 s] #[])] 40)) 4 (.bool false)).alloc (.cells #[.slice A len cap] 22)
  have bN := Boxed.new ((w.alloc (.cells #[(.func (.func 17) #[.int .u32 s] #[])] 40)).alloc (.cells #[.bool false] 4)) 22 (.slice A len cap)
  rw [World.size_alloc] at bO
  rw [World.size_alloc, World.size_alloc] at bN
  have hB0 : Below w.heap.size w (((w.alloc (.cells #[(.func (.func 17) #[.int .u32 s] #[])] 40)).alloc (.cells #[.bool false] 4)).alloc (.cells #[.slice A len cap] 22)) := (((Below.refl _ w).alloc (Nat.le_refl _) _).alloc (by simp) _).alloc (by simp; omega) _
  have hsz : (((w.alloc (.cells #[(.func (.func 17) #[.int .u32 s] #[])] 40)).alloc (.cells #[.bool false] 4)).alloc (.cells #[.slice A len cap] 22)).heap.size = w.heap.size + 3 := by simp
  obtain ⟨W0, hW0⟩ : ∃ W0, ((w.alloc (.cells #[(.func (.func 17) #[.int .u32 s] #[])] 40)).alloc (.cells #[.bool false] 4)).alloc (.cells #[.slice A len cap] 22) = W0 := ⟨_, rfl⟩
  rw [hW0] at bF bO bN hB0 hsz ⊢
  clear hW0
  refine wpIn_rangeFunc_ownH (F := Fence.wide) rfl h1 (gf := 53) (lb := #[.pointer (some ⟨w.heap.size + 2, 0, none⟩)]) rfl trivial (enters_of Tryd.func53 (by kernel_rfl) rfl)
    (back_stops (n - 1) (by omega) (w.heap.size + 2) w.heap.size A len cap l HL.out hm W0 bN (hr.below hB0) hB0.size) KpB.t (KpB.b (by omega) (by omega)) (Below.refl _ _) (fun _ => rfl)
    (EndI w (.func (.func 17) #[.int .u32 s] #[]) (.slice A len cap))
    (EndX w s)
    (OwnFrom.and (OwnFrom.and (OwnFrom.and (OwnFrom.and (ownFrom_pure _ _) (Own.from (boxed_own _ _ _) _)) (Own.from (boxed_own _ _ _) _)) (Own.from (boxed_own _ _ _) _)) (ownFrom_below (Nat.le_refl _) (by omega)))
    (fun c => OwnFrom.and (OwnFrom.and (ownFrom_pure _ _) (Own.from (boxed_own _ _ (fun pre => Value.bool (hs s (lb pre)))) _)) (ownFrom_below (Nat.le_refl _) (by omega)))
    ⟨⟨⟨⟨rfl, bF⟩, bO⟩, bN⟩, hB0⟩
    (fun x a' _ => a' = { tmps := #[.slice A len cap, (.func (.func 17) #[.int .u32 s] #[]), undef, .pointer (some ⟨w.heap.size, 0, none⟩), .pointer (some ⟨w.heap.size + 1, 0, none⟩), undef, .int .i32 x.2, .slice A len cap, .func (.func 53) #[] #[.pointer (some ⟨w.heap.size + 2, 0, none⟩)], .int .i64 (x.1 : Int), .int .i32 x.2, undef, undef, undef, undef, undef, undef], defers := [] })
    (fun _ _ _ _ _ _ hs _ _ => hs)
    ?assign ?body ?done ?stop
  case assign =>
    rintro l' pre x W K hI hK
    simp only [encB]
    gi_wp2
    exact hK _ _ (KeepsFrom.refl _ _) ⟨Below.refl _ _, rfl⟩ hI rfl
  case body =>
    rintro l' pre ⟨k, r⟩ a' W hl ⟨r', hr'⟩ ⟨⟨⟨⟨hall, bF1⟩, bO1⟩, bN1⟩, hB1⟩ rfl hlt
    have HA := Lib.hid (lb_snoc pre (k, r) hall)
    have HM1 := Lib.hid (HM.out r)
    rw [mark_hb] at HM1
    have HF1 := Lib.hid (HF.out r)
    have HQ : Hid (hb s r = hs s (bc r)) := Lib.hid rfl
    have hsW := hB1.size
    clear hall
    by_cases h8 : bc r = 8
    · rw [decide_eq_true h8] at HM1
      have H8 := Lib.hid h8
      clear h8
      gi_wp2_with fail
      refine ⟨trivial, (fun h => by cases h), (CallsIn.inRound l' (callsIn_wide.2 (HM1.out _))).mono ?_⟩
      rintro e w1 ⟨rfl, hb1⟩
      gi_wp2
      exact ⟨(keeps_below hb1).from _, ⟨hb1.mono hsW, hb1.block _ bN1.lt⟩, ⟨⟨⟨⟨HA.out.trans H8.out, box_go bF1 hb1⟩, box_go bO1 hb1⟩, box_go bN1 hb1⟩, upB hB1 hb1⟩⟩
    · rw [decide_eq_false h8] at HM1
      have H8 := Lib.hid h8
      clear h8
      gi_wp2_with fail
      refine ⟨trivial, (fun h => by cases h), (CallsIn.inRound l' (callsIn_wide.2 (HM1.out _))).mono ?_⟩
      rintro e w1 ⟨rfl, hb1⟩
      have bF2 := box_go bF1 hb1
      have bO2 := box_go bO1 hb1
      have hB2 := upB hB1 hb1
      have hcF := bF2.cell
      gi_wp2_with fail
      refine ⟨trivial, (fun h => by cases h), (CallsIn.inRound l' (callsIn_wide.2 (HF1.out _))).mono ?_⟩
      rintro e w2 ⟨rfl, hb2⟩
      have bO3 := box_go bO2 hb2
      have hB3 := upB hB2 hb2
      have hc := bO3.cell
      have hf := bO3.frozen
      rw [HQ.out]
      gi_wp2
      refine ⟨(((keeps_below hb1).trans (keeps_below hb2)).trans (KeepsOthers.setCell _ _ _)).from _, ⟨⟨rfl, by rw [HA.out]; exact H8.out⟩, ?_⟩, hB3.setCell (p := ⟨w.heap.size + 1, 0, none⟩) (Nat.le_succ _) _⟩
      rw [HA.out]
      exact bO3.set _
  case done =>
    rintro D ys W hD rfl ⟨⟨⟨⟨hall, bF1⟩, bO1⟩, bN1⟩, hB1⟩ hK
    have hc := bO1.cell
    have hf := bO1.frozen
    have HA := Lib.hid hall
    clear hall
    gi_wp2
    have hK' := (KeepsOthers.setCell W ⟨w.heap.size + 1, 0, none⟩ (.bool false)).same D _ hK rfl
    refine ⟨by simp, .inl ⟨_, _, rfl, run_takeDeferred hK', ?_⟩⟩
    have hb5 := cell_kept (bO1.set (.bool false)).cell (grownBy_putObj' _ D (.deferred none)) (fun r e => by cases e; exact ⟨_, hK', rfl⟩)
    refine ⟨.bool false, by simp [results, Tryd.f36, go_sem, hb5], ⟨by rw [← HE.out, HA.out, HS8.out], ?_⟩⟩
    exact (hB1.setCell (p := ⟨w.heap.size + 1, 0, none⟩) (Nat.le_succ _) _).trans (belowK_b (w := w) (Nat.le_refl _) _ D _ _ (by omega) hK' rfl rfl)
  case stop =>
    rintro D c pre W hD hpre ⟨⟨⟨rfl, hx⟩, hv⟩, hB1⟩ hK
    have hc := hv.cell
    gi_wp2
    refine ⟨by simp, .inl ⟨_, _, rfl, run_takeDeferred hK, ?_⟩⟩
    have hb5 := cell_kept hv.cell (grownBy_putObj' _ D (.deferred none)) (fun r e => by cases e; exact ⟨_, hK, rfl⟩)
    obtain ⟨t, ht⟩ := hpre
    refine ⟨.bool (hs s (lb pre)), by simp [results, Tryd.f36, go_sem, hb5], ⟨by rw [← HE.out, ← ht, lb_app, if_neg hx], ?_⟩⟩
    exact hB1.trans (belowK_b (w := w) (Nat.le_refl _) W D _ _ (by omega) hK rfl rfl)

theorem ends_any (s : Int) (hs0 : 0 ≤ s) (hs1 : s < 4294967296) (h8 : hs s 8 = false) (l : List Int) (A : Option Addr) (len cap : Nat) (w : World) (hlen : l.length = len) (hm : len ≤ 1000000) (hr : Row w w.heap.size A (cl .i32 l)) :
    Calls Tryd.prog 36 #[.slice A len cap, .func (.func 17) #[.int .u32 s] #[]] w (IsB (hs s (lastC (l.map bc))) w) := callsIn_wide.1 (ends_in 3 (by omega) s hs0 hs1 h8 l A len cap w hlen hm hr)
end Go.Proofs.YtnmijmhgmcapcaaDoor.Rul
