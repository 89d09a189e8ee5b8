/-
  label: Check.
-/
import Derived.Test.YtenfdnnagijfnaaGreatDoorLabelA
import Derived.Laws.EntriesVeiled
namespace Go.Proofs.YtenfdnnagijfnaaGreatDoor
open Go.RowKit Norm Remap

def num : Nat → Int
  | 0 => 15
  | 1 => 1
  | 2 => 2
  | 3 => 3
  | 4 => 6
  | 5 => 4
  | _ => 5
def edg (k : Nat) : Bool := decide (k = 2) || decide (k = 3)
def app (l : List Int) (ed : Bool) (k : Nat) : Bool := (ed || !(edg k)) && vio l k
def chkF (l : List Int) (ed : Bool) : Nat → Nat → Int
  | 0, _ => 0
  | f + 1, k => if app l ed k = true then num k else chkF l ed f (k + 1)
/-- the first clause that is violated -/
def chk (l : List Int) (ed : Bool) : Int := chkF l ed 7 0
theorem chk_from {l : List Int} {ed : Bool} : ∀ k, k ≤ 7 → (∀ j, j < k → app l ed j = false) → chk l ed = chkF l ed (7 - k) k
  | 0, _, _ => rfl
  | k + 1, hk, h => by
    rw [chk_from k (by omega) (fun j hj => h j (by omega)), show 7 - k = (7 - (k + 1)) + 1 from by omega, chkF, if_neg (by rw [h k (by omega)]; simp)]
theorem chk_at {l : List Int} {ed : Bool} {k : Nat} (hk : k < 7) (h : app l ed k = true) (hn : ∀ j, j < k → app l ed j = false) : chk l ed = num k := by
  rw [chk_from k (by omega) hn, show 7 - k = (6 - k) + 1 from by omega, chkF, if_pos h]
theorem chk_none {l : List Int} {ed : Bool} (hn : ∀ j, j < 7 → app l ed j = false) : chk l ed = 0 := by rw [chk_from 7 (Nat.le_refl _) hn]; rfl
theorem up_more {l : List Int} {ed : Bool} {k : Nat} (hn : ∀ j, j < k → app l ed j = false) (h : app l ed k = false) : ∀ j, j < k + 1 → app l ed j = false := fun j hj => by
  by_cases e : j = k
  · rw [e]; exact h
  · exact hn j (by omega)
theorem pos_of {l : List Int} {ed : Bool} {k : Nat} (hk : 0 < k) (hn : ∀ j, j < k → app l ed j = false) : 0 < l.length := by
  have h := hn 0 hk
  have e : app l ed 0 = vio l 0 := by unfold app edg; cases ed <;> rfl
  rw [e, show vio l 0 = decide (l.length = 0) from rfl] at h
  have := of_decide_eq_false h
  omega
def clC : List Value := [Value.int .u8 15, Value.bool false, Value.func (.func 76) #[] #[], Value.int .u8 1, Value.bool false, Value.func (.func 77) #[] #[], Value.int .u8 2, Value.bool true, Value.func (.func 78) #[] #[], Value.int .u8 3, Value.bool true, Value.func (.func 79) #[] #[], Value.int .u8 6, Value.bool false, Value.func (.func 80) #[] #[], Value.int .u8 4, Value.bool false, Value.func (.func 81) #[] #[], Value.int .u8 5, Value.bool false, Value.func (.func 82) #[] #[]]
set_option maxRecDepth 100000 in
set_option maxHeartbeats 1000000 in
theorem clauses_any (w : World) : Calls Tryz.prog 51 #[] w (TabW w 7 clC 74) := by
  go_enter Tryz.func51, Tryz.ntmps51
  go_wp2
  go_ret
  exact ⟨rfl, rfl⟩
theorem clause_cell {w W : World} {k : Nat} {v : Value} (hv : clC[k]? = some v) (hB : Below (w.alloc (.cells clC.toArray 74)).heap.size (w.alloc (.cells clC.toArray 74)) W) : W.cell? ⟨w.heap.size, k, none⟩ = some v := by
  rw [hB.cell (p := ⟨w.heap.size, k, none⟩) (by simp), tab_cell, hv]
set_option maxRecDepth 100000 in
set_option maxHeartbeats 4000000 in
theorem Check_true (l : List Int) (A : Option Addr) (n c : Nat) (w : World) (hn : l.length = n) (hl : n ≤ 4000) (hC : C32 l) (hr : Row w w.heap.size A (cl .i32 l)) : Calls Tryz.prog 27 #[.slice A n c, .bool true] w (Tells (.int .u8 (chk l true)) w) := by
  have HN := Lib.hid hn
  have HC := Lib.hid hC
  have HT := Lib.hid (clauses_any w)
  clear hn hC
  go_enter Tryz.func27, Tryz.ntmps27
  go_wp2_with (first | (go_at_call 51; refine HT.out.mono ?_; rintro e w1 ⟨rfl, rfl⟩) | fail)
  go_loopg [9] 7 (fun m s9 wr => ∃ k : Nat, s9 = .int .i64 (k : Int) ∧ m = 7 - k ∧ k ≤ 7 ∧ Hid (∀ j, j < k → app l true j = false) ∧ Below (w.alloc (.cells clC.toArray 74)).heap.size (w.alloc (.cells clC.toArray 74)) wr)
  case atStart => exact ⟨0, rfl, rfl, Nat.zero_le _, Lib.hid (fun j hj => by omega), Below.refl _ _⟩
  case round =>
    clear HT
    obtain ⟨k, rfl, rfl, hk, HNo, hB⟩ := hrel
    have hk8 : k = 0 ∨ k = 1 ∨ k = 2 ∨ k = 3 ∨ k = 4 ∨ k = 5 ∨ k = 6 ∨ k = 7 := by omega
    rcases hk8 with rfl | rfl | rfl | rfl | rfl | rfl | rfl | rfl
    · have HAK : Hid (∀ q, vio l 0 = q → app l true 0 = q) := Lib.hid (fun q h => by unfold app; rw [h]; rfl)
      have c0 := clause_cell (k := 0) (v := .int .u8 15) rfl hB
      have c1 := clause_cell (k := 1) (v := .bool false) rfl hB
      have c2 := clause_cell (k := 2) (v := .func (.func 76) #[] #[]) rfl hB
      go_upto_region 4 with fail
      have hX := alloc_heap_new' wr (.cells #[.int .u8 15, .bool false, .func (.func 76) #[] #[]] 74)
      have hB1 := hB.alloc hB.size (.cells #[.int .u8 15, .bool false, .func (.func 76) #[] #[]] 74)
      generalize wr.alloc (.cells #[.int .u8 15, .bool false, .func (.func 76) #[] #[]] 74) = W1 at hX hB1 ⊢
      generalize wr.heap.size = X at hX ⊢
      obtain ⟨x0, x1, x2, _⟩ := Z3.cells hX
      have HX := Lib.hid hX
      clear hX hB c0 c1 c2
      have hK : Below w.heap.size w W1 := upB (upA w _) hB1
      have HF := Lib.hid (empty_any l A n c W1 HN.out)
      clear hK
      obtain ⟨v, hv⟩ : ∃ v, vio l 0 = v := ⟨_, rfl⟩
      rw [hv] at HF
      have HV := Lib.hid hv
      clear hv
      cases v with
      | true =>
        go_upto_region 5 with (first | (go_at_call 76; refine HF.out.mono ?_; rintro e w2 ⟨rfl, hB2⟩) | fail)
        have y0 := (hB2.cell (p := ⟨X, 0, none⟩) (Array.getElem?_eq_some_iff.1 HX.out).1).trans x0
        have HCH : Hid (chk l true = 15) := Lib.hid (chk_at (k := 0) (by omega) (HAK.out _ HV.out) HNo.out)
        have hB3 := hB1.trans (hB2.mono hB1.size)
        clear x0 x1 x2 hB1 hB2
        go_wp2_with fail
        go_ret
        exact ⟨by rw [HCH.out]; rfl, upB (upA w _) hB3⟩
      | false =>
        go_upto_region 6 with (first | (go_at_call 76; refine HF.out.mono ?_; rintro e w2 ⟨rfl, hB2⟩) | fail)
        have hB3 := hB1.trans (hB2.mono hB1.size)
        clear x0 x1 x2 hB1 hB2
        go_wp2_with fail
        go_roundg (7 - (0 + 1))
        case measure => omega
        case rel => exact ⟨1, rfl, rfl, by omega, Lib.hid (up_more HNo.out (HAK.out _ HV.out)), hB3⟩
    · have HAK : Hid (∀ q, vio l 1 = q → app l true 1 = q) := Lib.hid (fun q h => by unfold app; rw [h]; rfl)
      have c0 := clause_cell (k := 3) (v := .int .u8 1) rfl hB
      have c1 := clause_cell (k := 4) (v := .bool false) rfl hB
      have c2 := clause_cell (k := 5) (v := .func (.func 77) #[] #[]) rfl hB
      go_upto_region 4 with fail
      have hX := alloc_heap_new' wr (.cells #[.int .u8 1, .bool false, .func (.func 77) #[] #[]] 74)
      have hB1 := hB.alloc hB.size (.cells #[.int .u8 1, .bool false, .func (.func 77) #[] #[]] 74)
      generalize wr.alloc (.cells #[.int .u8 1, .bool false, .func (.func 77) #[] #[]] 74) = W1 at hX hB1 ⊢
      generalize wr.heap.size = X at hX ⊢
      obtain ⟨x0, x1, x2, _⟩ := Z3.cells hX
      have HX := Lib.hid hX
      clear hX hB c0 c1 c2
      have hK : Below w.heap.size w W1 := upB (upA w _) hB1
      have HF := Lib.hid (unnorm_any l A n c W1 HN.out hl HC.out (hr.up hK))
      clear hK
      obtain ⟨v, hv⟩ : ∃ v, vio l 1 = v := ⟨_, rfl⟩
      rw [hv] at HF
      have HV := Lib.hid hv
      clear hv
      cases v with
      | true =>
        go_upto_region 5 with (first | (go_at_call 77; refine HF.out.mono ?_; rintro e w2 ⟨rfl, hB2⟩) | fail)
        have y0 := (hB2.cell (p := ⟨X, 0, none⟩) (Array.getElem?_eq_some_iff.1 HX.out).1).trans x0
        have HCH : Hid (chk l true = 1) := Lib.hid (chk_at (k := 1) (by omega) (HAK.out _ HV.out) HNo.out)
        have hB3 := hB1.trans (hB2.mono hB1.size)
        clear x0 x1 x2 hB1 hB2
        go_wp2_with fail
        go_ret
        exact ⟨by rw [HCH.out]; rfl, upB (upA w _) hB3⟩
      | false =>
        go_upto_region 6 with (first | (go_at_call 77; refine HF.out.mono ?_; rintro e w2 ⟨rfl, hB2⟩) | fail)
        have hB3 := hB1.trans (hB2.mono hB1.size)
        clear x0 x1 x2 hB1 hB2
        go_wp2_with fail
        go_roundg (7 - (1 + 1))
        case measure => omega
        case rel => exact ⟨2, rfl, rfl, by omega, Lib.hid (up_more HNo.out (HAK.out _ HV.out)), hB3⟩
    · have HAK : Hid (∀ q, vio l 2 = q → app l true 2 = q) := Lib.hid (fun q h => by unfold app; rw [h]; rfl)
      have c0 := clause_cell (k := 6) (v := .int .u8 2) rfl hB
      have c1 := clause_cell (k := 7) (v := .bool true) rfl hB
      have c2 := clause_cell (k := 8) (v := .func (.func 78) #[] #[]) rfl hB
      go_upto_region 4 with fail
      have hX := alloc_heap_new' wr (.cells #[.int .u8 2, .bool true, .func (.func 78) #[] #[]] 74)
      have hB1 := hB.alloc hB.size (.cells #[.int .u8 2, .bool true, .func (.func 78) #[] #[]] 74)
      generalize wr.alloc (.cells #[.int .u8 2, .bool true, .func (.func 78) #[] #[]] 74) = W1 at hX hB1 ⊢
      generalize wr.heap.size = X at hX ⊢
      obtain ⟨x0, x1, x2, _⟩ := Z3.cells hX
      have HX := Lib.hid hX
      clear hX hB c0 c1 c2
      have hK : Below w.heap.size w W1 := upB (upA w _) hB1
      have HF := Lib.hid (inside_any l A n c W1 HN.out (hr.up hK))
      clear hK
      obtain ⟨v, hv⟩ : ∃ v, vio l 2 = v := ⟨_, rfl⟩
      rw [hv] at HF
      have HV := Lib.hid hv
      clear hv
      cases v with
      | true =>
        go_upto_region 5 with (first | (go_at_call 78; refine HF.out.mono ?_; rintro e w2 ⟨rfl, hB2⟩) | fail)
        have y0 := (hB2.cell (p := ⟨X, 0, none⟩) (Array.getElem?_eq_some_iff.1 HX.out).1).trans x0
        have HCH : Hid (chk l true = 2) := Lib.hid (chk_at (k := 2) (by omega) (HAK.out _ HV.out) HNo.out)
        have hB3 := hB1.trans (hB2.mono hB1.size)
        clear x0 x1 x2 hB1 hB2
        go_wp2_with fail
        go_ret
        exact ⟨by rw [HCH.out]; rfl, upB (upA w _) hB3⟩
      | false =>
        go_upto_region 6 with (first | (go_at_call 78; refine HF.out.mono ?_; rintro e w2 ⟨rfl, hB2⟩) | fail)
        have hB3 := hB1.trans (hB2.mono hB1.size)
        clear x0 x1 x2 hB1 hB2
        go_wp2_with fail
        go_roundg (7 - (2 + 1))
        case measure => omega
        case rel => exact ⟨3, rfl, rfl, by omega, Lib.hid (up_more HNo.out (HAK.out _ HV.out)), hB3⟩
    · have HAK : Hid (∀ q, vio l 3 = q → app l true 3 = q) := Lib.hid (fun q h => by unfold app; rw [h]; rfl)
      have c0 := clause_cell (k := 9) (v := .int .u8 3) rfl hB
      have c1 := clause_cell (k := 10) (v := .bool true) rfl hB
      have c2 := clause_cell (k := 11) (v := .func (.func 79) #[] #[]) rfl hB
      have hn0 : 0 < n := by have := pos_of (by omega) HNo.out; rw [HN.out] at this; exact this
      go_upto_region 4 with fail
      have hX := alloc_heap_new' wr (.cells #[.int .u8 3, .bool true, .func (.func 79) #[] #[]] 74)
      have hB1 := hB.alloc hB.size (.cells #[.int .u8 3, .bool true, .func (.func 79) #[] #[]] 74)
      generalize wr.alloc (.cells #[.int .u8 3, .bool true, .func (.func 79) #[] #[]] 74) = W1 at hX hB1 ⊢
      generalize wr.heap.size = X at hX ⊢
      obtain ⟨x0, x1, x2, _⟩ := Z3.cells hX
      have HX := Lib.hid hX
      clear hX hB c0 c1 c2
      have hK : Below w.heap.size w W1 := upB (upA w _) hB1
      have HF := Lib.hid (edge_any l A n c W1 HN.out hn0 (by omega) (hr.up hK))
      clear hK
      obtain ⟨v, hv⟩ : ∃ v, vio l 3 = v := ⟨_, rfl⟩
      rw [hv] at HF
      have HV := Lib.hid hv
      clear hv
      cases v with
      | true =>
        go_upto_region 5 with (first | (go_at_call 79; refine HF.out.mono ?_; rintro e w2 ⟨rfl, hB2⟩) | fail)
        have y0 := (hB2.cell (p := ⟨X, 0, none⟩) (Array.getElem?_eq_some_iff.1 HX.out).1).trans x0
        have HCH : Hid (chk l true = 3) := Lib.hid (chk_at (k := 3) (by omega) (HAK.out _ HV.out) HNo.out)
        have hB3 := hB1.trans (hB2.mono hB1.size)
        clear x0 x1 x2 hB1 hB2
        go_wp2_with fail
        go_ret
        exact ⟨by rw [HCH.out]; rfl, upB (upA w _) hB3⟩
      | false =>
        go_upto_region 6 with (first | (go_at_call 79; refine HF.out.mono ?_; rintro e w2 ⟨rfl, hB2⟩) | fail)
        have hB3 := hB1.trans (hB2.mono hB1.size)
        clear x0 x1 x2 hB1 hB2
        go_wp2_with fail
        go_roundg (7 - (3 + 1))
        case measure => omega
        case rel => exact ⟨4, rfl, rfl, by omega, Lib.hid (up_more HNo.out (HAK.out _ HV.out)), hB3⟩
    · have HAK : Hid (∀ q, vio l 4 = q → app l true 4 = q) := Lib.hid (fun q h => by unfold app; rw [h]; rfl)
      have c0 := clause_cell (k := 12) (v := .int .u8 6) rfl hB
      have c1 := clause_cell (k := 13) (v := .bool false) rfl hB
      have c2 := clause_cell (k := 14) (v := .func (.func 80) #[] #[]) rfl hB
      go_upto_region 4 with fail
      have hX := alloc_heap_new' wr (.cells #[.int .u8 6, .bool false, .func (.func 80) #[] #[]] 74)
      have hB1 := hB.alloc hB.size (.cells #[.int .u8 6, .bool false, .func (.func 80) #[] #[]] 74)
      generalize wr.alloc (.cells #[.int .u8 6, .bool false, .func (.func 80) #[] #[]] 74) = W1 at hX hB1 ⊢
      generalize wr.heap.size = X at hX ⊢
      obtain ⟨x0, x1, x2, _⟩ := Z3.cells hX
      have HX := Lib.hid hX
      clear hX hB c0 c1 c2
      have hK : Below w.heap.size w W1 := upB (upA w _) hB1
      have HF := Lib.hid (dotted_any l A n c W1 HN.out (by omega) (hr.up hK))
      clear hK
      obtain ⟨v, hv⟩ : ∃ v, vio l 4 = v := ⟨_, rfl⟩
      rw [hv] at HF
      have HV := Lib.hid hv
      clear hv
      cases v with
      | true =>
        go_upto_region 5 with (first | (go_at_call 80; refine HF.out.mono ?_; rintro e w2 ⟨rfl, hB2⟩) | fail)
        have y0 := (hB2.cell (p := ⟨X, 0, none⟩) (Array.getElem?_eq_some_iff.1 HX.out).1).trans x0
        have HCH : Hid (chk l true = 6) := Lib.hid (chk_at (k := 4) (by omega) (HAK.out _ HV.out) HNo.out)
        have hB3 := hB1.trans (hB2.mono hB1.size)
        clear x0 x1 x2 hB1 hB2
        go_wp2_with fail
        go_ret
        exact ⟨by rw [HCH.out]; rfl, upB (upA w _) hB3⟩
      | false =>
        go_upto_region 6 with (first | (go_at_call 80; refine HF.out.mono ?_; rintro e w2 ⟨rfl, hB2⟩) | fail)
        have hB3 := hB1.trans (hB2.mono hB1.size)
        clear x0 x1 x2 hB1 hB2
        go_wp2_with fail
        go_roundg (7 - (4 + 1))
        case measure => omega
        case rel => exact ⟨5, rfl, rfl, by omega, Lib.hid (up_more HNo.out (HAK.out _ HV.out)), hB3⟩
    · have HAK : Hid (∀ q, vio l 5 = q → app l true 5 = q) := Lib.hid (fun q h => by unfold app; rw [h]; rfl)
      have c0 := clause_cell (k := 15) (v := .int .u8 4) rfl hB
      have c1 := clause_cell (k := 16) (v := .bool false) rfl hB
      have c2 := clause_cell (k := 17) (v := .func (.func 81) #[] #[]) rfl hB
      have hn0 : 0 < n := by have := pos_of (by omega) HNo.out; rw [HN.out] at this; exact this
      go_upto_region 4 with fail
      have hX := alloc_heap_new' wr (.cells #[.int .u8 4, .bool false, .func (.func 81) #[] #[]] 74)
      have hB1 := hB.alloc hB.size (.cells #[.int .u8 4, .bool false, .func (.func 81) #[] #[]] 74)
      generalize wr.alloc (.cells #[.int .u8 4, .bool false, .func (.func 81) #[] #[]] 74) = W1 at hX hB1 ⊢
      generalize wr.heap.size = X at hX ⊢
      obtain ⟨x0, x1, x2, _⟩ := Z3.cells hX
      have HX := Lib.hid hX
      clear hX hB c0 c1 c2
      have hK : Below w.heap.size w W1 := upB (upA w _) hB1
      have HF := Lib.hid (mark_any l A n c W1 HN.out hn0 (hr.up hK))
      clear hK
      obtain ⟨v, hv⟩ : ∃ v, vio l 5 = v := ⟨_, rfl⟩
      rw [hv] at HF
      have HV := Lib.hid hv
      clear hv
      cases v with
      | true =>
        go_upto_region 5 with (first | (go_at_call 81; refine HF.out.mono ?_; rintro e w2 ⟨rfl, hB2⟩) | fail)
        have y0 := (hB2.cell (p := ⟨X, 0, none⟩) (Array.getElem?_eq_some_iff.1 HX.out).1).trans x0
        have HCH : Hid (chk l true = 4) := Lib.hid (chk_at (k := 5) (by omega) (HAK.out _ HV.out) HNo.out)
        have hB3 := hB1.trans (hB2.mono hB1.size)
        clear x0 x1 x2 hB1 hB2
        go_wp2_with fail
        go_ret
        exact ⟨by rw [HCH.out]; rfl, upB (upA w _) hB3⟩
      | false =>
        go_upto_region 6 with (first | (go_at_call 81; refine HF.out.mono ?_; rintro e w2 ⟨rfl, hB2⟩) | fail)
        have hB3 := hB1.trans (hB2.mono hB1.size)
        clear x0 x1 x2 hB1 hB2
        go_wp2_with fail
        go_roundg (7 - (5 + 1))
        case measure => omega
        case rel => exact ⟨6, rfl, rfl, by omega, Lib.hid (up_more HNo.out (HAK.out _ HV.out)), hB3⟩
    · have HAK : Hid (∀ q, vio l 6 = q → app l true 6 = q) := Lib.hid (fun q h => by unfold app; rw [h]; rfl)
      have c0 := clause_cell (k := 18) (v := .int .u8 5) rfl hB
      have c1 := clause_cell (k := 19) (v := .bool false) rfl hB
      have c2 := clause_cell (k := 20) (v := .func (.func 82) #[] #[]) rfl hB
      go_upto_region 4 with fail
      have hX := alloc_heap_new' wr (.cells #[.int .u8 5, .bool false, .func (.func 82) #[] #[]] 74)
      have hB1 := hB.alloc hB.size (.cells #[.int .u8 5, .bool false, .func (.func 82) #[] #[]] 74)
      generalize wr.alloc (.cells #[.int .u8 5, .bool false, .func (.func 82) #[] #[]] 74) = W1 at hX hB1 ⊢
      generalize wr.heap.size = X at hX ⊢
      obtain ⟨x0, x1, x2, _⟩ := Z3.cells hX
      have HX := Lib.hid hX
      clear hX hB c0 c1 c2
      have hK : Below w.heap.size w W1 := upB (upA w _) hB1
      have HF := Lib.hid (disallowed_any l A n c W1 HN.out (by omega) (hr.up hK))
      clear hK
      obtain ⟨v, hv⟩ : ∃ v, vio l 6 = v := ⟨_, rfl⟩
      rw [hv] at HF
      have HV := Lib.hid hv
      clear hv
      cases v with
      | true =>
        go_upto_region 5 with (first | (go_at_call 82; refine HF.out.mono ?_; rintro e w2 ⟨rfl, hB2⟩) | fail)
        have y0 := (hB2.cell (p := ⟨X, 0, none⟩) (Array.getElem?_eq_some_iff.1 HX.out).1).trans x0
        have HCH : Hid (chk l true = 5) := Lib.hid (chk_at (k := 6) (by omega) (HAK.out _ HV.out) HNo.out)
        have hB3 := hB1.trans (hB2.mono hB1.size)
        clear x0 x1 x2 hB1 hB2
        go_wp2_with fail
        go_ret
        exact ⟨by rw [HCH.out]; rfl, upB (upA w _) hB3⟩
      | false =>
        go_upto_region 6 with (first | (go_at_call 82; refine HF.out.mono ?_; rintro e w2 ⟨rfl, hB2⟩) | fail)
        have hB3 := hB1.trans (hB2.mono hB1.size)
        clear x0 x1 x2 hB1 hB2
        go_wp2_with fail
        go_roundg (7 - (6 + 1))
        case measure => omega
        case rel => exact ⟨7, rfl, rfl, by omega, Lib.hid (up_more HNo.out (HAK.out _ HV.out)), hB3⟩
    · have HCH : Hid (chk l true = 0) := Lib.hid (chk_none HNo.out)
      go_wp2_with fail
      go_ret
      exact ⟨by rw [HCH.out]; rfl, upB (upA w _) hB⟩
set_option maxRecDepth 100000 in
set_option maxHeartbeats 4000000 in
theorem Check_false (l : List Int) (A : Option Addr) (n c : Nat) (w : World) (hn : l.length = n) (hl : n ≤ 4000) (hC : C32 l) (hr : Row w w.heap.size A (cl .i32 l)) : Calls Tryz.prog 27 #[.slice A n c, .bool false] w (Tells (.int .u8 (chk l false)) w) := by
  have HN := Lib.hid hn
  have HC := Lib.hid hC
  have HT := Lib.hid (clauses_any w)
  clear hn hC
  go_enter Tryz.func27, Tryz.ntmps27
  go_wp2_with (first | (go_at_call 51; refine HT.out.mono ?_; rintro e w1 ⟨rfl, rfl⟩) | fail)
  go_loopg [9] 7 (fun m s9 wr => ∃ k : Nat, s9 = .int .i64 (k : Int) ∧ m = 7 - k ∧ k ≤ 7 ∧ Hid (∀ j, j < k → app l false j = false) ∧ Below (w.alloc (.cells clC.toArray 74)).heap.size (w.alloc (.cells clC.toArray 74)) wr)
  case atStart => exact ⟨0, rfl, rfl, Nat.zero_le _, Lib.hid (fun j hj => by omega), Below.refl _ _⟩
  case round =>
    clear HT
    obtain ⟨k, rfl, rfl, hk, HNo, hB⟩ := hrel
    have hk8 : k = 0 ∨ k = 1 ∨ k = 2 ∨ k = 3 ∨ k = 4 ∨ k = 5 ∨ k = 6 ∨ k = 7 := by omega
    rcases hk8 with rfl | rfl | rfl | rfl | rfl | rfl | rfl | rfl
    · have HAK : Hid (∀ q, vio l 0 = q → app l false 0 = q) := Lib.hid (fun q h => by unfold app; rw [h]; rfl)
      have c0 := clause_cell (k := 0) (v := .int .u8 15) rfl hB
      have c1 := clause_cell (k := 1) (v := .bool false) rfl hB
      have c2 := clause_cell (k := 2) (v := .func (.func 76) #[] #[]) rfl hB
      go_upto_region 4 with fail
      have hX := alloc_heap_new' wr (.cells #[.int .u8 15, .bool false, .func (.func 76) #[] #[]] 74)
      have hB1 := hB.alloc hB.size (.cells #[.int .u8 15, .bool false, .func (.func 76) #[] #[]] 74)
      generalize wr.alloc (.cells #[.int .u8 15, .bool false, .func (.func 76) #[] #[]] 74) = W1 at hX hB1 ⊢
      generalize wr.heap.size = X at hX ⊢
      obtain ⟨x0, x1, x2, _⟩ := Z3.cells hX
      have HX := Lib.hid hX
      clear hX hB c0 c1 c2
      have hK : Below w.heap.size w W1 := upB (upA w _) hB1
      have HF := Lib.hid (empty_any l A n c W1 HN.out)
      clear hK
      obtain ⟨v, hv⟩ : ∃ v, vio l 0 = v := ⟨_, rfl⟩
      rw [hv] at HF
      have HV := Lib.hid hv
      clear hv
      cases v with
      | true =>
        go_upto_region 5 with (first | (go_at_call 76; refine HF.out.mono ?_; rintro e w2 ⟨rfl, hB2⟩) | fail)
        have y0 := (hB2.cell (p := ⟨X, 0, none⟩) (Array.getElem?_eq_some_iff.1 HX.out).1).trans x0
        have HCH : Hid (chk l false = 15) := Lib.hid (chk_at (k := 0) (by omega) (HAK.out _ HV.out) HNo.out)
        have hB3 := hB1.trans (hB2.mono hB1.size)
        clear x0 x1 x2 hB1 hB2
        go_wp2_with fail
        go_ret
        exact ⟨by rw [HCH.out]; rfl, upB (upA w _) hB3⟩
      | false =>
        go_upto_region 6 with (first | (go_at_call 76; refine HF.out.mono ?_; rintro e w2 ⟨rfl, hB2⟩) | fail)
        have hB3 := hB1.trans (hB2.mono hB1.size)
        clear x0 x1 x2 hB1 hB2
        go_wp2_with fail
        go_roundg (7 - (0 + 1))
        case measure => omega
        case rel => exact ⟨1, rfl, rfl, by omega, Lib.hid (up_more HNo.out (HAK.out _ HV.out)), hB3⟩
    · have HAK : Hid (∀ q, vio l 1 = q → app l false 1 = q) := Lib.hid (fun q h => by unfold app; rw [h]; rfl)
      have c0 := clause_cell (k := 3) (v := .int .u8 1) rfl hB
      have c1 := clause_cell (k := 4) (v := .bool false) rfl hB
      have c2 := clause_cell (k := 5) (v := .func (.func 77) #[] #[]) rfl hB
      go_upto_region 4 with fail
      have hX := alloc_heap_new' wr (.cells #[.int .u8 1, .bool false, .func (.func 77) #[] #[]] 74)
      have hB1 := hB.alloc hB.size (.cells #[.int .u8 1, .bool false, .func (.func 77) #[] #[]] 74)
      generalize wr.alloc (.cells #[.int .u8 1, .bool false, .func (.func 77) #[] #[]] 74) = W1 at hX hB1 ⊢
      generalize wr.heap.size = X at hX ⊢
      obtain ⟨x0, x1, x2, _⟩ := Z3.cells hX
      have HX := Lib.hid hX
      clear hX hB c0 c1 c2
      have hK : Below w.heap.size w W1 := upB (upA w _) hB1
      have HF := Lib.hid (unnorm_any l A n c W1 HN.out hl HC.out (hr.up hK))
      clear hK
      obtain ⟨v, hv⟩ : ∃ v, vio l 1 = v := ⟨_, rfl⟩
      rw [hv] at HF
      have HV := Lib.hid hv
      clear hv
      cases v with
      | true =>
        go_upto_region 5 with (first | (go_at_call 77; refine HF.out.mono ?_; rintro e w2 ⟨rfl, hB2⟩) | fail)
        have y0 := (hB2.cell (p := ⟨X, 0, none⟩) (Array.getElem?_eq_some_iff.1 HX.out).1).trans x0
        have HCH : Hid (chk l false = 1) := Lib.hid (chk_at (k := 1) (by omega) (HAK.out _ HV.out) HNo.out)
        have hB3 := hB1.trans (hB2.mono hB1.size)
        clear x0 x1 x2 hB1 hB2
        go_wp2_with fail
        go_ret
        exact ⟨by rw [HCH.out]; rfl, upB (upA w _) hB3⟩
      | false =>
        go_upto_region 6 with (first | (go_at_call 77; refine HF.out.mono ?_; rintro e w2 ⟨rfl, hB2⟩) | fail)
        have hB3 := hB1.trans (hB2.mono hB1.size)
        clear x0 x1 x2 hB1 hB2
        go_wp2_with fail
        go_roundg (7 - (1 + 1))
        case measure => omega
        case rel => exact ⟨2, rfl, rfl, by omega, Lib.hid (up_more HNo.out (HAK.out _ HV.out)), hB3⟩
    · have HAK : Hid (∀ q, vio l 2 = q → app l false 2 = false) := Lib.hid (fun q h => by unfold app; rw [h]; rfl)
      have c0 := clause_cell (k := 6) (v := .int .u8 2) rfl hB
      have c1 := clause_cell (k := 7) (v := .bool true) rfl hB
      have c2 := clause_cell (k := 8) (v := .func (.func 78) #[] #[]) rfl hB
      go_upto_region 4 with fail
      have hX := alloc_heap_new' wr (.cells #[.int .u8 2, .bool true, .func (.func 78) #[] #[]] 74)
      have hB1 := hB.alloc hB.size (.cells #[.int .u8 2, .bool true, .func (.func 78) #[] #[]] 74)
      generalize wr.alloc (.cells #[.int .u8 2, .bool true, .func (.func 78) #[] #[]] 74) = W1 at hX hB1 ⊢
      generalize wr.heap.size = X at hX ⊢
      obtain ⟨x0, x1, x2, _⟩ := Z3.cells hX
      have HX := Lib.hid hX
      clear hX hB c0 c1 c2
      go_wp2_with fail
      go_roundg (7 - (2 + 1))
      case measure => omega
      case rel => exact ⟨3, rfl, rfl, by omega, Lib.hid (up_more HNo.out (HAK.out _ rfl)), hB1⟩
    · have HAK : Hid (∀ q, vio l 3 = q → app l false 3 = false) := Lib.hid (fun q h => by unfold app; rw [h]; rfl)
      have c0 := clause_cell (k := 9) (v := .int .u8 3) rfl hB
      have c1 := clause_cell (k := 10) (v := .bool true) rfl hB
      have c2 := clause_cell (k := 11) (v := .func (.func 79) #[] #[]) rfl hB
      have hn0 : 0 < n := by have := pos_of (by omega) HNo.out; rw [HN.out] at this; exact this
      go_upto_region 4 with fail
      have hX := alloc_heap_new' wr (.cells #[.int .u8 3, .bool true, .func (.func 79) #[] #[]] 74)
      have hB1 := hB.alloc hB.size (.cells #[.int .u8 3, .bool true, .func (.func 79) #[] #[]] 74)
      generalize wr.alloc (.cells #[.int .u8 3, .bool true, .func (.func 79) #[] #[]] 74) = W1 at hX hB1 ⊢
      generalize wr.heap.size = X at hX ⊢
      obtain ⟨x0, x1, x2, _⟩ := Z3.cells hX
      have HX := Lib.hid hX
      clear hX hB c0 c1 c2
      go_wp2_with fail
      go_roundg (7 - (3 + 1))
      case measure => omega
      case rel => exact ⟨4, rfl, rfl, by omega, Lib.hid (up_more HNo.out (HAK.out _ rfl)), hB1⟩
    · have HAK : Hid (∀ q, vio l 4 = q → app l false 4 = q) := Lib.hid (fun q h => by unfold app; rw [h]; rfl)
      have c0 := clause_cell (k := 12) (v := .int .u8 6) rfl hB
      have c1 := clause_cell (k := 13) (v := .bool false) rfl hB
      have c2 := clause_cell (k := 14) (v := .func (.func 80) #[] #[]) rfl hB
      go_upto_region 4 with fail
      have hX := alloc_heap_new' wr (.cells #[.int .u8 6, .bool false, .func (.func 80) #[] #[]] 74)
      have hB1 := hB.alloc hB.size (.cells #[.int .u8 6, .bool false, .func (.func 80) #[] #[]] 74)
      generalize wr.alloc (.cells #[.int .u8 6, .bool false, .func (.func 80) #[] #[]] 74) = W1 at hX hB1 ⊢
      generalize wr.heap.size = X at hX ⊢
      obtain ⟨x0, x1, x2, _⟩ := Z3.cells hX
      have HX := Lib.hid hX
      clear hX hB c0 c1 c2
      have hK : Below w.heap.size w W1 := upB (upA w _) hB1
      have HF := Lib.hid (dotted_any l A n c W1 HN.out (by omega) (hr.up hK))
      clear hK
      obtain ⟨v, hv⟩ : ∃ v, vio l 4 = v := ⟨_, rfl⟩
      rw [hv] at HF
      have HV := Lib.hid hv
      clear hv
      cases v with
      | true =>
        go_upto_region 5 with (first | (go_at_call 80; refine HF.out.mono ?_; rintro e w2 ⟨rfl, hB2⟩) | fail)
        have y0 := (hB2.cell (p := ⟨X, 0, none⟩) (Array.getElem?_eq_some_iff.1 HX.out).1).trans x0
        have HCH : Hid (chk l false = 6) := Lib.hid (chk_at (k := 4) (by omega) (HAK.out _ HV.out) HNo.out)
        have hB3 := hB1.trans (hB2.mono hB1.size)
        clear x0 x1 x2 hB1 hB2
        go_wp2_with fail
        go_ret
        exact ⟨by rw [HCH.out]; rfl, upB (upA w _) hB3⟩
      | false =>
        go_upto_region 6 with (first | (go_at_call 80; refine HF.out.mono ?_; rintro e w2 ⟨rfl, hB2⟩) | fail)
        have hB3 := hB1.trans (hB2.mono hB1.size)
        clear x0 x1 x2 hB1 hB2
        go_wp2_with fail
        go_roundg (7 - (4 + 1))
        case measure => omega
        case rel => exact ⟨5, rfl, rfl, by omega, Lib.hid (up_more HNo.out (HAK.out _ HV.out)), hB3⟩
    · have HAK : Hid (∀ q, vio l 5 = q → app l false 5 = q) := Lib.hid (fun q h => by unfold app; rw [h]; rfl)
      have c0 := clause_cell (k := 15) (v := .int .u8 4) rfl hB
      have c1 := clause_cell (k := 16) (v := .bool false) rfl hB
      have c2 := clause_cell (k := 17) (v := .func (.func 81) #[] #[]) rfl hB
      have hn0 : 0 < n := by have := pos_of (by omega) HNo.out; rw [HN.out] at this; exact this
      go_upto_region 4 with fail
      have hX := alloc_heap_new' wr (.cells #[.int .u8 4, .bool false, .func (.func 81) #[] #[]] 74)
      have hB1 := hB.alloc hB.size (.cells #[.int .u8 4, .bool false, .func (.func 81) #[] #[]] 74)
      generalize wr.alloc (.cells #[.int .u8 4, .bool false, .func (.func 81) #[] #[]] 74) = W1 at hX hB1 ⊢
      generalize wr.heap.size = X at hX ⊢
      obtain ⟨x0, x1, x2, _⟩ := Z3.cells hX
      have HX := Lib.hid hX
      clear hX hB c0 c1 c2
      have hK : Below w.heap.size w W1 := upB (upA w _) hB1
      have HF := Lib.hid (mark_any l A n c W1 HN.out hn0 (hr.up hK))
      clear hK
      obtain ⟨v, hv⟩ : ∃ v, vio l 5 = v := ⟨_, rfl⟩
      rw [hv] at HF
      have HV := Lib.hid hv
      clear hv
      cases v with
      | true =>
        go_upto_region 5 with (first | (go_at_call 81; refine HF.out.mono ?_; rintro e w2 ⟨rfl, hB2⟩) | fail)
        have y0 := (hB2.cell (p := ⟨X, 0, none⟩) (Array.getElem?_eq_some_iff.1 HX.out).1).trans x0
        have HCH : Hid (chk l false = 4) := Lib.hid (chk_at (k := 5) (by omega) (HAK.out _ HV.out) HNo.out)
        have hB3 := hB1.trans (hB2.mono hB1.size)
        clear x0 x1 x2 hB1 hB2
        go_wp2_with fail
        go_ret
        exact ⟨by rw [HCH.out]; rfl, upB (upA w _) hB3⟩
      | false =>
        go_upto_region 6 with (first | (go_at_call 81; refine HF.out.mono ?_; rintro e w2 ⟨rfl, hB2⟩) | fail)
        have hB3 := hB1.trans (hB2.mono hB1.size)
        clear x0 x1 x2 hB1 hB2
        go_wp2_with fail
        go_roundg (7 - (5 + 1))
        case measure => omega
        case rel => exact ⟨6, rfl, rfl, by omega, Lib.hid (up_more HNo.out (HAK.out _ HV.out)), hB3⟩
    · have HAK : Hid (∀ q, vio l 6 = q → app l false 6 = q) := Lib.hid (fun q h => by unfold app; rw [h]; rfl)
      have c0 := clause_cell (k := 18) (v := .int .u8 5) rfl hB
      have c1 := clause_cell (k := 19) (v := .bool false) rfl hB
      have c2 := clause_cell (k := 20) (v := .func (.func 82) #[] #[]) rfl hB
      go_upto_region 4 with fail
      have hX := alloc_heap_new' wr (.cells #[.int .u8 5, .bool false, .func (.func 82) #[] #[]] 74)
      have hB1 := hB.alloc hB.size (.cells #[.int .u8 5, .bool false, .func (.func 82) #[] #[]] 74)
      generalize wr.alloc (.cells #[.int .u8 5, .bool false, .func (.func 82) #[] #[]] 74) = W1 at hX hB1 ⊢
      generalize wr.heap.size = X at hX ⊢
      obtain ⟨x0, x1, x2, _⟩ := Z3.cells hX
      have HX := Lib.hid hX
      clear hX hB c0 c1 c2
      have hK : Below w.heap.size w W1 := upB (upA w _) hB1
      have HF := Lib.hid (disallowed_any l A n c W1 HN.out (by omega) (hr.up hK))
      clear hK
      obtain ⟨v, hv⟩ : ∃ v, vio l 6 = v := ⟨_, rfl⟩
      rw [hv] at HF
      have HV := Lib.hid hv
      clear hv
      cases v with
      | true =>
        go_upto_region 5 with (first | (go_at_call 82; refine HF.out.mono ?_; rintro e w2 ⟨rfl, hB2⟩) | fail)
        have y0 := (hB2.cell (p := ⟨X, 0, none⟩) (Array.getElem?_eq_some_iff.1 HX.out).1).trans x0
        have HCH : Hid (chk l false = 5) := Lib.hid (chk_at (k := 6) (by omega) (HAK.out _ HV.out) HNo.out)
        have hB3 := hB1.trans (hB2.mono hB1.size)
        clear x0 x1 x2 hB1 hB2
        go_wp2_with fail
        go_ret
        exact ⟨by rw [HCH.out]; rfl, upB (upA w _) hB3⟩
      | false =>
        go_upto_region 6 with (first | (go_at_call 82; refine HF.out.mono ?_; rintro e w2 ⟨rfl, hB2⟩) | fail)
        have hB3 := hB1.trans (hB2.mono hB1.size)
        clear x0 x1 x2 hB1 hB2
        go_wp2_with fail
        go_roundg (7 - (6 + 1))
        case measure => omega
        case rel => exact ⟨7, rfl, rfl, by omega, Lib.hid (up_more HNo.out (HAK.out _ HV.out)), hB3⟩
    · have HCH : Hid (chk l false = 0) := Lib.hid (chk_none HNo.out)
      go_wp2_with fail
      go_ret
      exact ⟨by rw [HCH.out]; rfl, upB (upA w _) hB⟩
theorem Check_any (l : List Int) (ed : Bool) (A : Option Addr) (n c : Nat) (w : World) (hn : l.length = n) (hl : n ≤ 4000) (hC : C32 l) (hr : Row w w.heap.size A (cl .i32 l)) : Calls Tryz.prog 27 #[.slice A n c, .bool ed] w (Tells (.int .u8 (chk l ed)) w) := by
  cases ed
  · exact Check_false l A n c w hn hl hC hr
  · exact Check_true l A n c w hn hl hC hr
end Go.Proofs.YtenfdnnagijfnaaGreatDoor
