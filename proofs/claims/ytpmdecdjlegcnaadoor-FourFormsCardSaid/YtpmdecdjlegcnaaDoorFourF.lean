/-
  four: lastPart, Ends.
-/
import Derived.Test.YtpmdecdjlegcnaaDoorFourE
namespace Go.Proofs.YtpmdecdjlegcnaaDoor.Fou
open Go.RowKit Go.Shelf

attribute [local go_sem] Oper.semAt_some

theorem box_go {W W' : World} {B : Nat} {t : TypeId} {v : Value} (h : Boxed W B t v) (hb : Below W.heap.size W W') : Boxed W' B t v := (hb.block B h.lt).trans h
theorem upB {w w1 w2 : World} (h : Below w.heap.size w w1) (k : Below w1.heap.size w1 w2) : Below w.heap.size w w2 := h.trans (k.mono h.size)
theorem upA (w : World) (o : Obj) : Below w.heap.size w (w.alloc o) := (Below.refl _ w).alloc (Nat.le_refl _) o
theorem keeps_below {W W' : World} (h : Below W.heap.size W W') : KeepsOthers W W' := ⟨h.size, fun k _ hk _ => (h.block k (Array.getElem?_eq_some_iff.1 hk).1).trans hk⟩

def LpI (w : World) (s : ByteArray) (pre : List Pt) (W : World) : Prop :=
  ((pre = [] ∧ Boxed W w.heap.size 9 (.string ByteArray.empty)) ∧ Boxed W (w.heap.size + 1) 9 (.string s)) ∧ Below w.heap.size w W
def LpX (w : World) (c : Code) (pre : List Pt) (W : World) : Prop :=
  ((c = .ret ∧ pre.length = 1) ∧ Boxed W w.heap.size 9 (.string ((pre.map (·.1)).headD ByteArray.empty))) ∧ Below w.heap.size w W
/-- the last part -/
def LastP (l : List UInt8) (w : World) (e : Ending) (w' : World) : Prop := ∃ t : ByteArray, e = .returned (.string t) ∧ dl t = lst l ∧ Below w.heap.size w w'

set_option maxRecDepth 100000 in
set_option maxHeartbeats 2000000 in
theorem lastPart_in (n : Nat) (hn : 3 ≤ n) (s : ByteArray) (hs : s.size ≤ 1000000) (w : World) :
    CallsIn Fence.wide n Tryd.prog 34 #[.string s] w (LastP (dl s) w) := by
  have h1 : 1 ≤ n := by omega
  refine callsIn_of_wp_marks Tryd.func34 rfl trivial ?_ rfl
  simp only [Tryd.ntmps34, List.size_toArray, List.length_cons, List.length_nil, Nat.reduceAdd, Nat.reduceSub, Array.replicate_succ, Array.replicate_zero, List.push_toArray, List.append_toArray, List.nil_append, List.cons_append]
  gi_wp2_with (refine ⟨trivial, ?_⟩; gi_at_call 32; refine (parts_any _ _ _).mono ?_; rintro e w' ⟨rfl, rfl⟩)
  have bO := (Boxed.new w 9 (.string ByteArray.empty)).alloc (.cells #[.string s] 9)
  have bN := Boxed.new (w.alloc (.cells #[.string ByteArray.empty] 9)) 9 (.string s)
  rw [World.size_alloc] at bN
  have hB0 : Below w.heap.size w ((w.alloc (.cells #[.string ByteArray.empty] 9)).alloc (.cells #[.string s] 9)) := ((Below.refl _ w).alloc (Nat.le_refl _) _).alloc (by simp) _
  have hsz : ((w.alloc (.cells #[.string ByteArray.empty] 9)).alloc (.cells #[.string s] 9)).heap.size = w.heap.size + 2 := by simp
  obtain ⟨W0, hW0⟩ : ∃ W0, (w.alloc (.cells #[.string ByteArray.empty] 9)).alloc (.cells #[.string s] 9) = W0 := ⟨_, rfl⟩
  have hW1 : (w.alloc (.cells #[.string ⟨#[]⟩] 9)).alloc (.cells #[.string s] 9) = W0 := hW0
  rw [hW0] at bO bN hB0 hsz
  first | rw [hW0] | rw [hW1] | trace_state
  clear hW0 hW1
  refine wpIn_rangeFunc_ownH (F := Fence.wide) rfl h1 (gf := 54) (lb := #[.pointer (some ⟨w.heap.size + 1, 0, none⟩)]) rfl trivial (enters_of Tryd.func54 (by kernel_rfl) rfl)
    (parts_stops (n - 1) (by omega) (w.heap.size + 1) w.heap.size s hs W0 bN hB0.size) KpB.t (KpB.b (by omega) (by omega)) (Below.refl _ _) (fun _ => rfl)
    (LpI w s)
    (LpX w)
    (OwnFrom.and (OwnFrom.and (OwnFrom.and (ownFrom_pure _ _) (Own.from (boxed_own _ _ _) _)) (Own.from (boxed_own _ _ _) _)) (ownFrom_below (Nat.le_refl _) (by omega)))
    (fun c => OwnFrom.and (OwnFrom.and (ownFrom_pure _ _) (Own.from (boxed_own _ _ (fun pre : List Pt => Value.string ((pre.map (·.1)).headD ByteArray.empty))) _)) (ownFrom_below (Nat.le_refl _) (by omega)))
    ⟨⟨⟨rfl, bO⟩, bN⟩, hB0⟩
    (fun x a' _ => a' = { tmps := #[.string s, undef, .pointer (some ⟨w.heap.size, 0, none⟩), .string x.1, .string s, .func (.func 54) #[] #[.pointer (some ⟨w.heap.size + 1, 0, none⟩)], .string x.1, undef], defers := [] })
    (fun _ _ _ _ _ _ hs _ _ => hs)
    ?assign ?body ?done ?stop
  case assign =>
    rintro l' pre x W K hI hK
    simp only [encS]
    gi_wp2
    exact hK _ _ (KeepsFrom.refl _ _) ⟨Below.refl _ _, rfl⟩ hI rfl
  case body =>
    rintro l' pre x a' W hl ⟨r', hr'⟩ ⟨⟨⟨rfl, bO1⟩, bN1⟩, hB1⟩ rfl hlt
    have hc := bO1.cell
    have hf := bO1.frozen
    gi_wp2
    refine ⟨(KeepsOthers.setCell _ _ _).from _, ⟨⟨rfl, rfl⟩, ?_⟩, hB1.setCell (p := ⟨w.heap.size, 0, none⟩) (Nat.le_refl _) _⟩
    exact bO1.set _
  case done =>
    rintro D ys W hD hys ⟨⟨⟨rfl, bO1⟩, bN1⟩, hB1⟩ hK
    exact absurd hys.symm (rpt_ne _)
  case stop =>
    rintro D c pre W hD ⟨hpre, hpn⟩ ⟨⟨⟨rfl, hx⟩, hv⟩, hB1⟩ hK
    obtain ⟨x, rfl⟩ := List.length_eq_one_iff.1 hx
    have hc := hv.cell
    gi_wp2
    refine ⟨by simp, .inl ⟨_, _, rfl, run_takeDeferred hK, ?_⟩⟩
    have hb5 := cell_kept hv.cell (grownBy_putObj' _ D (.deferred none)) (fun r e => by cases e; exact ⟨_, hK, rfl⟩)
    obtain ⟨t, ht⟩ := hpre
    refine ⟨.string x.1, by simp [results, Tryd.f34, go_sem, hb5], x.1, rfl, ?_, ?_⟩
    · exact (lst_of ht.symm).symm
    · exact hB1.trans (belowK_b (w := w) (Nat.le_refl _) W D _ _ (by omega) hK rfl rfl)
theorem lastPart_any (s : ByteArray) (hs : s.size ≤ 1000000) (w : World) : Calls Tryd.prog 34 #[.string s] w (LastP (dl s) w) := callsIn_wide.1 (lastPart_in 3 (by omega) s hs w)

theorem lst_size (l : List UInt8) : (lst l).length ≤ l.length := by
  have h1 : lst l ∈ rpt (trm l) := List.head_mem _
  have h2 := spl_size (trm l) _ (List.mem_reverse.1 h1)
  exact Nat.le_trans h2 (trm_size l)
/-- it answers a truth value -/
def Says (q : Bool) (w : World) (e : Ending) (w' : World) : Prop := e = .returned (.bool q) ∧ Below w.heap.size w w'
theorem says_mk {q q' : Bool} {w w' : World} (h : q = q') (hB : Below w.heap.size w w') : Says q w (.returned (.bool q')) w' := ⟨by rw [h], hB⟩
set_option maxHeartbeats 1000000 in
theorem Ends_any (s : ByteArray) (hs : s.size ≤ 1000000) (w : World) : Calls Tryd.prog 13 #[.string s] w (Says (ends (dl s)) w) := by
  have hsz := lst_size (dl s)
  have hz : (dl s).length ≤ 1000000 := by rw [← Lib.size_eq]; exact hs
  have HL := Lib.hid (lastPart_any s hs w)
  unfold LastP at HL
  unfold ends
  generalize lst (dl s) = q at HL hsz ⊢
  clear hs
  go_enter Tryd.func13, Tryd.ntmps13
  go_wp2_with fail
  refine HL.out.mono ?_
  rintro e w1 ⟨t, rfl, ht, hB1⟩
  have htz : t.size ≤ 1000000 := by rw [Lib.size_eq]; show (dl t).length ≤ _; rw [ht]; omega
  by_cases h0 : q = []
  · have e1 : t.toList = [] := by rw [ByteArray.toList_eq]; exact ht.trans h0
    have e2 : t.toList.isEmpty = true := by rw [e1]; rfl
    have HQ : Hid ((!q.isEmpty && ((val 10 q).isSome || (num q).isSome)) = false) := Lib.hid (by rw [h0]; rfl)
    clear ht h0 hsz hz HL
    go_wp2
    go_ret
    exact says_mk HQ.out hB1
  · have e1 : t.toList ≠ [] := by rw [ByteArray.toList_eq]; exact fun e => h0 (ht.symm.trans e)
    have e2 : t.toList.isEmpty = false := by rw [List.isEmpty_eq_false_iff]; exact e1
    have HV := Lib.hid (value_any t 10 w1 htz (by decide))
    rw [ht] at HV
    have HT := Lib.hid ht
    obtain ⟨o, ho⟩ : ∃ o, val 10 q = o := ⟨_, rfl⟩
    obtain ⟨p, hp⟩ : ∃ p, num q = p := ⟨_, rfl⟩
    rw [ho] at HV
    have HQ : Hid ((!q.isEmpty && ((val 10 q).isSome || (num q).isSome)) = (o.isSome || p.isSome)) := Lib.hid (by
      rw [List.isEmpty_eq_false_iff.2 h0, ho, hp]; rfl)
    have HP := Lib.hid hp
    clear ht h0 hsz hz HL ho hp e1
    cases o with
    | none =>
      go_wp2_with fail
      refine HV.out.mono ?_
      rintro e w2 ⟨rfl, hB2⟩
      have HN := Lib.hid (Number_any t w2 htz)
      rw [HT.out, HP.out] at HN
      cases p with
      | none =>
        go_wp2_with fail
        refine HN.out.mono ?_
        rintro e w3 ⟨rfl, hB3⟩
        go_wp2
        go_ret
        exact says_mk HQ.out (upB (upB hB1 hB2) hB3)
      | some m =>
        go_wp2_with fail
        refine HN.out.mono ?_
        rintro e w3 ⟨rfl, hB3⟩
        go_wp2
        go_ret
        exact says_mk HQ.out (upB (upB hB1 hB2) hB3)
    | some m0 =>
      go_wp2_with fail
      refine HV.out.mono ?_
      rintro e w2 ⟨rfl, hB2⟩
      have HN := Lib.hid (Number_any t w2 htz)
      rw [HT.out, HP.out] at HN
      cases p with
      | none =>
        go_wp2_with fail
        refine HN.out.mono ?_
        rintro e w3 ⟨rfl, hB3⟩
        go_wp2
        go_ret
        exact says_mk HQ.out (upB (upB hB1 hB2) hB3)
      | some m =>
        go_wp2_with fail
        refine HN.out.mono ?_
        rintro e w3 ⟨rfl, hB3⟩
        go_wp2
        go_ret
        exact says_mk HQ.out (upB (upB hB1 hB2) hB3)
end Go.Proofs.YtpmdecdjlegcnaaDoor.Fou
