/-
  mixed: count, Scripts, Level, Digits, Check.
-/
import Derived.Test.YtjpmecdjlodaoaaDoorMixC
import Derived.Deep.LoopGhost
namespace Go.Proofs.YtjpmecdjlodaoaaDoor.Mix
open Go.RowKit Ucd Rul

theorem fldS (p : List Int) (w : World) : (Instr.field 35 (pv p) 4).run Tryd.prog w = .ok (.int .u8 (g p 4)) w := by kernel_rfl
theorem fldD (p : List Int) (w : World) : (Instr.field 35 (pv p) 5).run Tryd.prog w = .ok (.int .u8 (g p 5)) w := by kernel_rfl
abbrev ZB (w : World) (t : TypeId) : World := w.alloc (.cells #[.int .i64 0, .int .i64 0, .int .i64 0, .int .i64 0, .int .i64 0, .int .i64 0, .int .i64 0, .int .i64 0, .int .i64 0, .int .i64 0, .int .i64 0, .int .i64 0] t)
theorem Cb.zero (w : World) : Cb (ZB w 43) w.heap.size z12 := World.alloc_heap_new w _
set_option maxRecDepth 100000 in
set_option maxHeartbeats 1000000 in
theorem count_any (l : List Int) (A : Option Addr) (n c : Nat) (w : World) (hn : l.length = n) (hn1 : n ≤ 1000000) (hr : Row w w.heap.size A (cl .i32 l)) : Calls Tryd.prog 20 #[.slice A n c] w (Tells (cv (cn l)) w) := by
  have HN := Lib.hid hn
  clear hn
  have h0 := (Cb.zero w).go (b := ZB (ZB w 43) 43) ((Below.refl _ _).alloc (Nat.le_refl _) _)
  have h1 := Cb.zero (ZB w 43)
  have hB0 : Below w.heap.size w (ZB (ZB w 43) 43) := ((Below.refl _ w).alloc (Nat.le_refl _) _).alloc (by simp) _
  rw [World.size_alloc] at h1
  go_enter Tryd.func20, Tryd.ntmps20
  go_wp2_with fail
  unfold ZB at h0 h1 hB0
  generalize (w.alloc (.cells #[.int .i64 0, .int .i64 0, .int .i64 0, .int .i64 0, .int .i64 0, .int .i64 0, .int .i64 0, .int .i64 0, .int .i64 0, .int .i64 0, .int .i64 0, .int .i64 0] 43)).alloc (.cells #[.int .i64 0, .int .i64 0, .int .i64 0, .int .i64 0, .int .i64 0, .int .i64 0, .int .i64 0, .int .i64 0, .int .i64 0, .int .i64 0, .int .i64 0, .int .i64 0] 43) = w1 at h0 h1 hB0 ⊢
  go_loopg [8] n (fun m s8 wr => ∃ k : Nat, s8 = .int .i64 (k : Int) ∧ m = n - k ∧ k ≤ n ∧ Cb wr w.heap.size z12 ∧ Cb wr (w.heap.size + 1) (raw (l.take k)) ∧ Below w.heap.size w wr)
  case atStart => exact ⟨0, rfl, rfl, Nat.zero_le _, h0, by rw [List.take_zero, raw_nil]; exact h1, hB0⟩
  case round =>
    clear h0 h1 hB0
    obtain ⟨k, rfl, rfl, hk, h0, h1, hB⟩ := hrel
    by_cases hlt : k < n
    · have hltz : (k : Int) < (n : Int) := by omega
      obtain ⟨b, o, rfl, hb', hcc⟩ := (hr.below hB).at_ (by have := HN.out; rw [List.length_map]; omega)
      have c0 := row_cell hcc k (by rw [HN.out]; exact hlt)
      have HT := Lib.hid (take_snoc l k (by rw [HN.out]; exact hlt))
      have hll : (l.take k).length ≤ 1000000 := by rw [List.length_take]; omega
      obtain ⟨r, hr0⟩ : ∃ r, l[k]! = r := ⟨_, rfl⟩
      rw [hr0] at c0 HT
      have hyb := sc_bd r
      have HO := Lib.hid (fun w => Of_any r w)
      have HF := fldS (of r)
      have HST := Lib.hid (raw_step (l.take k) r)
      rw [show sc r = g (of r) 4 from rfl] at hyb HST
      generalize of r = p at HO HF hyb HST
      generalize g p 4 = z at HF hyb HST
      have hx := raw_nn _ hll _ (mems (l := raw (l.take k)) (i := z.toNat) (by rw [raw_len]; omega))
      have hlen := raw_len (l.take k)
      have HTT : Hid (raw (l.take (k + 1)) = (raw (l.take k)).set z.toNat ((raw (l.take k))[z.toNat]! + 1)) := Lib.hid (by rw [HT.out, HST.out])
      generalize raw (l.take k) = L at h1 hx hlen HTT
      clear hcc hr0 HT HST hll
      go_upto_region 5 with fail
      go_wp2_with (first | (go_at_call 28; refine (HO.out _).mono ?_; rintro e w2 ⟨rfl, hB2⟩; have h02 := h0.go hB2; have h12 := h1.go hB2; have c1 := h12.cell (k := z.toNat) (by omega); have f1 := h12.frozen z.toNat; have h13 := h12.set z.toNat (L[z.toNat]! + 1); generalize L[z.toNat]! = x at c1 h13 hx HTT; have hwx : IntKind.i64.wrap (x + 1) = x + 1 := by simp [IntKind.wrap, IntKind.bits, IntKind.signed]; omega) | fail)
      go_roundg (n - (k + 1))
      case measure => omega
      case rel =>
        refine ⟨k + 1, by go_num, rfl, by omega, ?_, ?_, ?_⟩
        · exact (Below.heap_setCell _ _ _ _ (by simp)).trans h02
        · rw [HTT.out]; exact h13
        · exact (upB hB hB2).setCell (Nat.le_succ _) _
    · obtain rfl : k = n := by omega
      have hltz : ¬ ((k : Nat) : Int) < (k : Int) := by omega
      rw [List.take_of_length_le (by rw [HN.out]; exact Nat.le_refl _)] at h1
      have HW : Hid (∀ W, Calls Tryd.prog 35 #[cv (raw l), .slice (some ⟨W.heap.size, 0, none⟩) 2 2] (W.alloc (.cells #[.int .u8 0, .int .u8 1] 5)) (Tells (cv (cn l)) W)) := Lib.hid (fun W => without_lit (raw l) [0, 1] (raw_len l) (by decide) (by decide) W)
      have hcl := cn_len l
      have HL := Lib.hid (raw_len l)
      obtain ⟨M, hM⟩ : ∃ M, cn l = M := ⟨_, rfl⟩
      have HM := Lib.hid hM
      rw [hM] at HW hcl
      generalize raw l = L at h1 HW HL
      have hI := info_ofA M hcl
      have hO := one12 M
      clear hM
      go_wp2_with (first
        | (refine load_cnt _ rfl _ rfl L h1 HL.out rfl ?_)
        | (go_at_call 35; refine (HW.out _).mono ?_; rintro e w3 ⟨rfl, hB3⟩; have h03 := h0.go hB3; have hT := h03.thereA z12_len hcl)
        | (refine wpList_store_mid rfl 43 _ _ rfl _ 0 (cl .i64 M).toArray rfl rfl hT hI hO ?_) | fail)
      have HV := Lib.hid (load_set h03 z12_len hcl)
      refine bodyPost_ret (v := cv M) ?_ rfl ⟨by rw [HM.out], below_setCells (Nat.le_refl _) _ _ _ (upB hB hB3)⟩
      exact results_cell Tryd.results20 rfl HV.out
set_option maxRecDepth 100000 in
set_option maxHeartbeats 1000000 in
theorem Scripts_any (l : List Int) (A : Option Addr) (n c : Nat) (w : World) (hn : l.length = n) (hn1 : n ≤ 1000000) (hr : Row w w.heap.size A (cl .i32 l)) : Calls Tryd.prog 8 #[.slice A n c] w (Row8 (scripts l) w) := by
  have HC := Lib.hid (count_any l A n c w hn hn1 hr)
  have HS := Lib.hid (fun W => scripts_any (cn l) (cn_len l) (cn_nn l (by omega)) W)
  rw [scr_cn] at HS
  generalize scripts l = xs at HS ⊢
  generalize cn l = L at HC HS
  clear hn hr
  go_enter Tryd.func8, Tryd.ntmps8
  go_wp2_with (first | (go_at_call 20; refine HC.out.mono ?_; rintro e w1 ⟨rfl, hB1⟩) | (go_at_call 21; refine (HS.out _).mono ?_; rintro e w2 ⟨A2, c2, rfl, hr2, hB2⟩) | fail)
  go_ret
  exact ⟨A2, c2, rfl, hr2, upB hB1 hB2⟩
/-- beyond ASCII? -/
def bey (r : Int) : Bool := !(decide (0 ≤ r) && decide (r < 128))
set_option maxRecDepth 100000 in
set_option maxHeartbeats 1000000 in
theorem beyond_any (r : Int) (w : World) : Calls Tryd.prog 24 #[.int .i32 r] w (IsB (bey r) w) := by
  by_cases h0 : r < 0
  · have hq : bey r = true := by unfold bey; rw [decide_eq_false (show ¬ 0 ≤ r by omega)]; rfl
    go_enter Tryd.func24, Tryd.ntmps24
    go_wp2_with fail
    go_ret
    exact ⟨by rw [hq]; simp, Below.refl _ _⟩
  · have hz : decide (r < 0) = false := decide_eq_false h0
    have hq : bey r = decide (128 ≤ r) := by
      unfold bey; rw [decide_eq_true (show 0 ≤ r by omega), Bool.true_and, ← decide_not]
      exact decide_eq_decide.2 (by omega)
    clear h0
    go_enter Tryd.func24, Tryd.ntmps24
    go_wp2_with fail
    go_ret
    exact ⟨by rw [hq]; rfl, Below.refl _ _⟩
end Go.Proofs.YtjpmecdjlodaoaaDoor.Mix
