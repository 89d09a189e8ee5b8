/-
  fascialaw13: says, none, awake.
-/
import Derived.Test.YtcoppicieicikaaDoorSixG
namespace Go.Proofs.YtcoppicieicikaaDoor.Sx
open Go.RowKit Go.Shelf

theorem says_mk {q q' : Bool} {w w' : World} (h : q = q') (hB : Below w.heap.size w w') : Says q w (.returned (.bool q')) w' := ⟨by rw [h], hB⟩
set_option maxHeartbeats 2000000 in
theorem says_any (s : ByteArray) (x : List Nat) (hx8 : x.length = 8) (hs : s.size ≤ 1000000) (w : World) (hE : Env w) : Calls Tryd.prog 15 #[.string s, av x] w (Says (decide (prs (dl s) = some x)) w) := by
  have hx0 := Hx.new w x
  have hB0 := upA w (.cells (cu x).toArray 23)
  have HP := Lib.hid (Parse_any s hs (w.alloc (.cells (cu x).toArray 23)) (hE.go hB0))
  have HX8 := Lib.hid hx8
  have HL : Hid (∀ y, prs (dl s) = some y → y.length = 8) := Lib.hid (fun y h => (prs_some h).1)
  obtain ⟨w1, hw1⟩ : ∃ w1, w.alloc (.cells (cu x).toArray 23) = w1 := ⟨_, rfl⟩
  rw [hw1] at hx0 hB0 HP
  have HB0 := Lib.hid hB0
  have HX0 := Lib.hid hx0
  obtain ⟨o, ho⟩ : ∃ o, prs (dl s) = o := ⟨_, rfl⟩
  rw [ho] at HP HL ⊢
  clear hx8 hs hE hB0 hx0 ho
  go_enter Tryd.func15, Tryd.ntmps15
  go_upto_region 1 with fail
  clear hw1
  go_wp2_with fail
  refine HP.out.mono ?_
  rintro e w2 ⟨h1, hB2⟩
  have HX2 := Lib.hid (HX0.out.go hB2)
  have HB2 := Lib.hid (upB HB0.out hB2)
  have HSZ := Lib.hid hB2.size
  clear hB2 HX0
  cases o with
  | none =>
    obtain rfl := h1
    have HX3 := Lib.hid (Hx.new w2 z8)
    have hx3 : Hx (w2.alloc (.cells #[.int .u16 0, .int .u16 0, .int .u16 0, .int .u16 0, .int .u16 0, .int .u16 0, .int .u16 0, .int .u16 0] 23)) w2.heap.size z8 := HX3.out
    clear HX3
    go_wp2_with (first | (refine store8 rfl _ _ rfl _ z8 z8 rfl rfl hx3 rfl rfl ?_; intro wX hld hbX; clear hld) | fail)
    go_ret
    exact says_mk (by simp) (HB2.out.trans (((upA w2 _).trans hbX).mono (HB2.out.size)))
  | some y =>
    obtain rfl := h1
    have HY := Lib.hid (HL.out y rfl)
    have hx3 : Hx (w2.alloc (.cells #[.int .u16 0, .int .u16 0, .int .u16 0, .int .u16 0, .int .u16 0, .int .u16 0, .int .u16 0, .int .u16 0] 23)) w2.heap.size z8 := Hx.new w2 z8
    have hx2 := HX2.out.go (upA w2 (.cells #[.int .u16 0, .int .u16 0, .int .u16 0, .int .u16 0, .int .u16 0, .int .u16 0, .int .u16 0, .int .u16 0] 23))
    have heq : ∀ W, (Op.equalIn 10000 23 (.agg (cu y).toArray) (.agg (cu x).toArray)).run Tryd.prog W = .ok (decide (y = x)) W := fun W => equal8 y x HY.out HX8.out W
    have HD : Hid (decide (some y = some x) = decide (y = x)) := Lib.hid (decide_eq_decide.2 (by simp))
    obtain ⟨q, hq⟩ : ∃ q, decide (y = x) = q := ⟨_, rfl⟩
    rw [hq] at heq HD
    clear hq HL
    go_wp2_with (first
      | (refine store8x rfl _ _ rfl _ z8 y rfl rfl hx3 rfl HY.out ?_; intro wX hy4 hbX; have hx4 := hx2.gob (Nat.lt_of_lt_of_le HX2.out.lt (Nat.le_refl _)) hbX; clear hx2 hx3)
      | (refine load8 _ rfl _ rfl y hy4 HY.out rfl ?_)
      | (refine load8 _ rfl _ rfl x hx4 HX8.out rfl ?_)
      | fail)
    go_ret
    exact says_mk HD.out (HB2.out.trans (((upA w2 _).trans hbX).mono (HB2.out.size)))
set_option maxHeartbeats 2000000 in
theorem none_any (s : ByteArray) (hs : s.size ≤ 1000000) (w : World) (hE : Env w) : Calls Tryd.prog 24 #[.string s] w (Says (decide (prs (dl s) = none)) w) := by
  have HP := Lib.hid (Parse_any s hs w hE)
  have HL : Hid (∀ y, prs (dl s) = some y → y.length = 8) := Lib.hid (fun y h => (prs_some h).1)
  obtain ⟨o, ho⟩ : ∃ o, prs (dl s) = o := ⟨_, rfl⟩
  rw [ho] at HP HL ⊢
  clear hs hE ho
  go_enter Tryd.func24, Tryd.ntmps24
  go_wp2_with fail
  refine HP.out.mono ?_
  rintro e w2 ⟨h1, hB2⟩
  have HB2 := Lib.hid hB2
  clear hB2
  have hx3 : Hx (w2.alloc (.cells #[.int .u16 0, .int .u16 0, .int .u16 0, .int .u16 0, .int .u16 0, .int .u16 0, .int .u16 0, .int .u16 0] 23)) w2.heap.size z8 := Hx.new w2 z8
  cases o with
  | none =>
    obtain rfl := h1
    have heq : ∀ W, (Op.equalIn 10000 23 (.agg (cu z8).toArray) (.agg #[.int .u16 0, .int .u16 0, .int .u16 0, .int .u16 0, .int .u16 0, .int .u16 0, .int .u16 0, .int .u16 0])).run Tryd.prog W = .ok true W := fun W => equal8 z8 z8 rfl rfl W
    go_wp2_with (first
      | (refine store8x rfl _ _ rfl _ z8 z8 rfl rfl hx3 rfl rfl ?_; intro wX hy4 hbX; clear hx3)
      | (refine load8 _ rfl _ rfl z8 hy4 rfl rfl ?_)
      | fail)
    go_ret
    exact says_mk (by simp) (HB2.out.trans (((upA w2 _).trans hbX).mono (HB2.out.size)))
  | some y =>
    obtain rfl := h1
    have HY := Lib.hid (HL.out y rfl)
    clear HL
    go_wp2_with (first
      | (refine store8x rfl _ _ rfl _ z8 y rfl rfl hx3 rfl HY.out ?_; intro wX hy4 hbX; clear hx3)
      | fail)
    go_ret
    exact says_mk (by simp) (HB2.out.trans (((upA w2 _).trans hbX).mono (HB2.out.size)))
theorem none_yes (s : ByteArray) (hs : s.size ≤ 1000000) (w : World) (hE : Env w) (h : prs (dl s) = none) : Calls Tryd.prog 24 #[.string s] w (Says true w) := by
  have := none_any s hs w hE
  rwa [decide_eq_true h] at this
theorem says_yes (s : ByteArray) (x : List Nat) (hx8 : x.length = 8) (hs : s.size ≤ 1000000) (w : World) (hE : Env w) (h : prs (dl s) = some x) : Calls Tryd.prog 15 #[.string s, av x] w (Says true w) := by
  have := says_any s x hx8 hs w hE
  rwa [decide_eq_true h] at this

/-! The run of an address that is written out. -/
def zb (x : List Nat) (k n : Nat) : Bool := (List.range n).all fun j => nth x (k + j) == 0
theorem zb_zr {x : List Nat} {k n : Nat} : zb x k n = true ↔ zr x k n := by
  unfold zb
  rw [List.all_eq_true, zr_nth]
  constructor
  · intro h i hi hk
    have := h (i - k) (List.mem_range.2 (by omega))
    rw [show k + (i - k) = i by omega] at this
    exact eq_of_beq this
  · intro h j hj
    rw [beq_iff_eq]
    exact h (k + j) (by omega) (by have := List.mem_range.1 hj; omega)
def runB (x : List Nat) (k n : Nat) : Bool := (decide (2 ≤ n) && decide (k + n ≤ 8)) && (zb x k n && (List.range 9).all fun k' => (List.range 9).all fun n' => !((decide (2 ≤ n') && decide (k' + n' ≤ 8)) && ((decide (n < n') || (decide (n' = n) && decide (k' < k))) && zb x k' n')))
theorem run_of {x : List Nat} {k n : Nat} (h : runB x k n = true) : IsRun x k n := by
  unfold runB at h
  simp only [Bool.and_eq_true, decide_eq_true_eq, List.all_eq_true, Bool.not_eq_true', Bool.and_eq_false_imp] at h
  obtain ⟨⟨h1, h2⟩, h3, h4⟩ := h
  refine .inr ⟨h1, h2, zb_zr.1 h3, fun k' n' g1 g2 g3 g4 => ?_⟩
  have := h4 k' (List.mem_range.2 (by omega)) n' (List.mem_range.2 (by omega)) ⟨g1, g2⟩ (by
    rw [Bool.or_eq_true, Bool.and_eq_true, decide_eq_true_eq, decide_eq_true_eq, decide_eq_true_eq]
    exact g3)
  rw [zb_zr.2 g4] at this
  cases this
theorem none_run {x : List Nat} (h : (List.range 9).all (fun k' => (List.range 9).all fun n' => !((decide (2 ≤ n') && decide (k' + n' ≤ 8)) && zb x k' n')) = true) : IsRun x 0 0 := by
  simp only [List.all_eq_true, Bool.not_eq_true', Bool.and_eq_false_imp, Bool.and_eq_true, decide_eq_true_eq] at h
  refine .inl ⟨rfl, rfl, fun k' n' g1 g2 g4 => ?_⟩
  have := h k' (List.mem_range.2 (by omega)) n' (List.mem_range.2 (by omega)) ⟨g1, g2⟩
  rw [zb_zr.2 g4] at this
  cases this
theorem digs_small {n : Nat} (h : n < 10) : digs 16 n = [UInt8.ofNat (48 + n)] := by rw [digs_lt (by omega), dgB, if_pos h]
theorem show_lit1 (w : World) (hE : Env w) : Calls Tryd.prog 13 #[.agg #[.int .u16 1, .int .u16 0, .int .u16 0, .int .u16 2, .int .u16 0, .int .u16 0, .int .u16 0, .int .u16 3]] w (fun e w' => e = .returned (.string ⟨#[49, 58, 48, 58, 48, 58, 50, 58, 58, 51]⟩) ∧ Below w.heap.size w w') := by
  have := Show_any [1, 0, 0, 2, 0, 0, 0, 3] rfl (by decide) 4 3 (run_of (by decide)) w hE
  unfold Texts at this
  have e : shw [1, 0, 0, 2, 0, 0, 0, 3] 4 3 = [49, 58, 48, 58, 48, 58, 50, 58, 58, 51] := by
    simp [shw, hx, digs_small, jn, Lib.join, List.intercalate, List.intersperse]
  rw [e] at this
  exact this
theorem show_lit2 (w : World) (hE : Env w) : Calls Tryd.prog 13 #[.agg #[.int .u16 1, .int .u16 0, .int .u16 2, .int .u16 3, .int .u16 4, .int .u16 5, .int .u16 6, .int .u16 7]] w (fun e w' => e = .returned (.string ⟨#[49, 58, 48, 58, 50, 58, 51, 58, 52, 58, 53, 58, 54, 58, 55]⟩) ∧ Below w.heap.size w w') := by
  have := Show_any [1, 0, 2, 3, 4, 5, 6, 7] rfl (by decide) 0 0 (none_run (by decide)) w hE
  unfold Texts at this
  have e : shw [1, 0, 2, 3, 4, 5, 6, 7] 0 0 = [49, 58, 48, 58, 50, 58, 51, 58, 52, 58, 53, 58, 54, 58, 55] := by
    simp [shw, hx, digs_small, jn, Lib.join, List.intercalate, List.intersperse]
  rw [e] at this
  exact this
def odds : List ByteArray := [⟨#[58, 49]⟩, ⟨#[49, 58, 50]⟩, ⟨#[49, 58, 58, 50, 58, 58, 51]⟩, ⟨#[58, 58, 49, 46, 50, 46, 51]⟩, ⟨#[58, 58, 48, 49, 46, 50, 46, 51, 46, 52]⟩, ⟨#[49, 50, 51, 52, 53, 58, 58]⟩, ⟨#[49, 46, 50, 46, 51, 46, 52, 58, 58]⟩]
def odd (k : Nat) : ByteArray := odds.getD k ⟨#[]⟩
theorem odd_no : ∀ k : Fin 7, prs (dl (odd k.1)) = none ∧ (odd k.1).size ≤ 1000000 := by decide +kernel
theorem odd_cell (w : World) (T : TypeId) : ∀ k, k < 7 → (w.alloc (.cells #[.string ⟨#[58, 49]⟩, .string ⟨#[49, 58, 50]⟩, .string ⟨#[49, 58, 58, 50, 58, 58, 51]⟩, .string ⟨#[58, 58, 49, 46, 50, 46, 51]⟩, .string ⟨#[58, 58, 48, 49, 46, 50, 46, 51, 46, 52]⟩, .string ⟨#[49, 50, 51, 52, 53, 58, 58]⟩, .string ⟨#[49, 46, 50, 46, 51, 46, 52, 58, 58]⟩] T)).cell? ⟨w.heap.size, k, none⟩ = some (.string (odd k)) := by
  intro k hk
  rw [World.cell?_alloc_new]
  have : k = 0 ∨ k = 1 ∨ k = 2 ∨ k = 3 ∨ k = 4 ∨ k = 5 ∨ k = 6 := by omega
  rcases this with rfl | rfl | rfl | rfl | rfl | rfl | rfl <;> rfl
set_option maxRecDepth 100000 in
set_option maxHeartbeats 4000000 in
theorem awake_any (w : World) (hE : Env w) : Calls Tryd.prog 8 #[] w (Says true w) := by
  have HE := Lib.hid (fun w' (hB : Below w.heap.size w w') => hE.go hB)
  clear hE
  have H0 : Hid (∀ W, Env W → Calls Tryd.prog 15 #[.string ⟨#[58, 58, 49]⟩, .agg #[.int .u16 0, .int .u16 0, .int .u16 0, .int .u16 0, .int .u16 0, .int .u16 0, .int .u16 0, .int .u16 1]] W (Says true W)) := Lib.hid (fun W h => says_yes ⟨#[58, 58, 49]⟩ [0, 0, 0, 0, 0, 0, 0, 1] rfl (by decide) W h (by decide +kernel))
  have H1 : Hid (∀ W, Env W → Calls Tryd.prog 15 #[.string ⟨#[49, 58, 50, 58, 51, 58, 52, 58, 53, 58, 54, 58, 55, 58, 56]⟩, .agg #[.int .u16 1, .int .u16 2, .int .u16 3, .int .u16 4, .int .u16 5, .int .u16 6, .int .u16 7, .int .u16 8]] W (Says true W)) := Lib.hid (fun W h => says_yes ⟨#[49, 58, 50, 58, 51, 58, 52, 58, 53, 58, 54, 58, 55, 58, 56]⟩ [1, 2, 3, 4, 5, 6, 7, 8] rfl (by decide) W h (by decide +kernel))
  have H2 : Hid (∀ W, Env W → Calls Tryd.prog 15 #[.string ⟨#[58, 58, 102, 102, 102, 102, 58, 49, 46, 50, 46, 51, 46, 52]⟩, .agg #[.int .u16 0, .int .u16 0, .int .u16 0, .int .u16 0, .int .u16 0, .int .u16 65535, .int .u16 258, .int .u16 772]] W (Says true W)) := Lib.hid (fun W h => says_yes ⟨#[58, 58, 102, 102, 102, 102, 58, 49, 46, 50, 46, 51, 46, 52]⟩ [0, 0, 0, 0, 0, 65535, 258, 772] rfl (by decide) W h (by decide +kernel))
  have H3 : Hid (∀ W, Env W → Calls Tryd.prog 15 #[.string ⟨#[49, 58, 58]⟩, .agg #[.int .u16 1, .int .u16 0, .int .u16 0, .int .u16 0, .int .u16 0, .int .u16 0, .int .u16 0, .int .u16 0]] W (Says true W)) := Lib.hid (fun W h => says_yes ⟨#[49, 58, 58]⟩ [1, 0, 0, 0, 0, 0, 0, 0] rfl (by decide) W h (by decide +kernel))
  have H4 : Hid (∀ W, Env W → Calls Tryd.prog 15 #[.string ⟨#[49, 58, 50, 58, 51, 58, 52, 58, 53, 58, 54, 58, 55, 58, 58]⟩, .agg #[.int .u16 1, .int .u16 2, .int .u16 3, .int .u16 4, .int .u16 5, .int .u16 6, .int .u16 7, .int .u16 0]] W (Says true W)) := Lib.hid (fun W h => says_yes ⟨#[49, 58, 50, 58, 51, 58, 52, 58, 53, 58, 54, 58, 55, 58, 58]⟩ [1, 2, 3, 4, 5, 6, 7, 0] rfl (by decide) W h (by decide +kernel))
  go_enter Tryd.func8, Tryd.ntmps8
  have hB0 := Below.refl w.heap.size w
  go_wp2_with fail
  refine (H0.out _ (HE.out _ hB0)).mono ?_
  rintro e w1 ⟨rfl, hb1⟩
  have hB1 := hB0.trans (hb1.mono hB0.size)
  go_wp2_with fail
  refine (H1.out _ (HE.out _ hB1)).mono ?_
  rintro e w2 ⟨rfl, hb2⟩
  have hB2 := hB1.trans (hb2.mono hB1.size)
  go_wp2_with fail
  refine (H2.out _ (HE.out _ hB2)).mono ?_
  rintro e w3 ⟨rfl, hb3⟩
  have hB3 := hB2.trans (hb3.mono hB2.size)
  go_wp2_with fail
  refine (H3.out _ (HE.out _ hB3)).mono ?_
  rintro e w4 ⟨rfl, hb4⟩
  have hB4 := hB3.trans (hb4.mono hB3.size)
  go_wp2_with fail
  refine (H4.out _ (HE.out _ hB4)).mono ?_
  rintro e w5 ⟨rfl, hb5⟩
  have hB5 := hB4.trans (hb5.mono hB4.size)
  go_wp2_with fail
  have hc0 := odd_cell w5 9
  have hB6 := hB5.trans ((upA w5 (.cells #[.string ⟨#[58, 49]⟩, .string ⟨#[49, 58, 50]⟩, .string ⟨#[49, 58, 58, 50, 58, 58, 51]⟩, .string ⟨#[58, 58, 49, 46, 50, 46, 51]⟩, .string ⟨#[58, 58, 48, 49, 46, 50, 46, 51, 46, 52]⟩, .string ⟨#[49, 50, 51, 52, 53, 58, 58]⟩, .string ⟨#[49, 46, 50, 46, 51, 46, 52, 58, 58]⟩] 9)).mono hB5.size)
  have hlt : w5.heap.size < (w5.alloc (.cells #[.string ⟨#[58, 49]⟩, .string ⟨#[49, 58, 50]⟩, .string ⟨#[49, 58, 58, 50, 58, 58, 51]⟩, .string ⟨#[58, 58, 49, 46, 50, 46, 51]⟩, .string ⟨#[58, 58, 48, 49, 46, 50, 46, 51, 46, 52]⟩, .string ⟨#[49, 50, 51, 52, 53, 58, 58]⟩, .string ⟨#[49, 46, 50, 46, 51, 46, 52, 58, 58]⟩] 9)).heap.size := by simp
  generalize w5.alloc (.cells #[.string ⟨#[58, 49]⟩, .string ⟨#[49, 58, 50]⟩, .string ⟨#[49, 58, 58, 50, 58, 58, 51]⟩, .string ⟨#[58, 58, 49, 46, 50, 46, 51]⟩, .string ⟨#[58, 58, 48, 49, 46, 50, 46, 51, 46, 52]⟩, .string ⟨#[49, 50, 51, 52, 53, 58, 58]⟩, .string ⟨#[49, 46, 50, 46, 51, 46, 52, 58, 58]⟩] 9) = w6 at hc0 hB6 hlt ⊢
  have HC := Lib.hid hc0
  have HB6 := Lib.hid hB6
  have HLT := Lib.hid hlt
  clear hc0 hB6 hlt hB0 hB1 hB2 hB3 hB4 hB5 hb1 hb2 hb3 hb4 hb5 H0 H1 H2 H3 H4
  go_loopg [1, 24] 7 (fun g s1 s24 wr => ∃ k : Nat, s1 = .bool true ∧ s24 = .int .i64 (k : Int) ∧ 7 - k = g ∧ k ≤ 7 ∧ Hid (Below w6.heap.size w6 wr))
  case atStart => exact ⟨0, rfl, rfl, rfl, Nat.zero_le _, Lib.hid (Below.refl _ _)⟩
  case round =>
    obtain ⟨k, rfl, rfl, rfl, hk, HB⟩ := hrel
    have HBw := Lib.hid (HB6.out.trans (HB.out.mono HB6.out.size))
    by_cases hlt : k < 7
    · have hltz : (k : Int) < 7 := by omega
      have hc := (HB.out.cell (p := ⟨w5.heap.size, k, none⟩) HLT.out).trans (HC.out k hlt)
      have ho := odd_no ⟨k, hlt⟩
      have HN := Lib.hid (none_yes (odd k) ho.2 wr (HE.out _ HBw.out) ho.1)
      generalize odd k = t at hc HN
      clear ho
      go_wp2_with fail
      refine HN.out.mono ?_
      rintro e w7 ⟨rfl, hB7⟩
      go_wp2_with fail
      go_roundg (7 - (k + 1))
      case measure => omega
      case rel => exact ⟨k + 1, rfl, by go_num, rfl, by omega, Lib.hid (HB.out.trans (hB7.mono HB.out.size))⟩
    · obtain rfl : k = 7 := by omega
      go_wp2_with fail
      refine (show_lit1 _ (HE.out _ HBw.out)).mono ?_
      rintro e w7 ⟨rfl, hb7⟩
      have hB7 := HBw.out.trans (hb7.mono HBw.out.size)
      go_wp2_with fail
      refine (show_lit2 _ (HE.out _ hB7)).mono ?_
      rintro e w8 ⟨rfl, hb8⟩
      have hB8 := hB7.trans (hb8.mono hB7.size)
      go_wp2_with fail
      go_ret
      exact says_mk rfl hB8
end Go.Proofs.YtcoppicieicikaaDoor.Sx
