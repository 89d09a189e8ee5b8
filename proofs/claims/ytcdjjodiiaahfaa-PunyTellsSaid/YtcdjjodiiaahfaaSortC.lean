/-
  The general sort: equations of the library's plain functions of the sort, one step each.
-/
import Derived.Test.YtcdjjodiiaahfaaSortB
import Derived.Sort.LotB
import Derived.Sort.LotC
import Derived.Sort.LotD3
namespace Go.Proofs.Ytcdjjodiiaahfaa
open Go.RowKit Puny Go.Shelf Go.Sort

theorem sd_end {hi F r : Nat} {d : Array Nat} (h : ¬ 2 * r + 1 < hi) : siftDown ltN hi F r d = d := by rw [siftDown, dif_pos (by omega)]
theorem sd_left {hi F r : Nat} {d : Array Nat} (h : 2 * r + 1 < hi) (hc : 2 * r + 2 < hi → ltN d[F + (2 * r + 1)]! d[F + (2 * r + 2)]! = false) :
    siftDown ltN hi F r d = if ltN d[F + r]! d[F + (2 * r + 1)]! = true then siftDown ltN hi F (2 * r + 1) (swp d (F + r) (F + (2 * r + 1))) else d := by
  rw [siftDown, dif_neg (by omega), if_neg]
  · cases ltN d[F + r]! d[F + (2 * r + 1)]! <;> simp
  · simp only [Bool.and_eq_true, decide_eq_true_eq, not_and, Bool.not_eq_true]
    intro h2
    have := hc (by omega)
    rwa [show F + (2 * r + 1) + 1 = F + (2 * r + 2) by omega]
theorem sd_right {hi F r : Nat} {d : Array Nat} (h : 2 * r + 2 < hi) (hc : ltN d[F + (2 * r + 1)]! d[F + (2 * r + 2)]! = true) :
    siftDown ltN hi F r d = if ltN d[F + r]! d[F + (2 * r + 2)]! = true then siftDown ltN hi F (2 * r + 2) (swp d (F + r) (F + (2 * r + 2))) else d := by
  rw [siftDown, dif_neg (by omega), if_pos]
  · rw [dif_pos (by omega)]
    cases ltN d[F + r]! d[F + (2 * r + 2)]! <;> simp
  · simp only [Bool.and_eq_true, decide_eq_true_eq]
    rw [show F + (2 * r + 1) + 1 = F + (2 * r + 2) by omega]
    exact ⟨by omega, hc⟩
theorem siftDown_size (hi F : Nat) : ∀ (n r : Nat) (d : Array Nat), hi - r ≤ n → (siftDown ltN hi F r d).size = d.size := by
  intro n
  induction n with
  | zero => intro r d h; rw [sd_end (by omega)]
  | succ n ih =>
    intro r d h
    by_cases h0 : 2 * r + 1 < hi
    · by_cases h1 : 2 * r + 2 < hi ∧ ltN d[F + (2 * r + 1)]! d[F + (2 * r + 2)]! = true
      · rw [sd_right h1.1 h1.2]
        split
        · rw [ih _ _ (by omega), size_swp]
        · rfl
      · rw [sd_left h0 (fun h2 => by cases h3 : ltN d[F + (2 * r + 1)]! d[F + (2 * r + 2)]! with | false => rfl | true => exact absurd ⟨h2, h3⟩ h1)]
        split
        · rw [ih _ _ (by omega), size_swp]
        · rfl
    · rw [sd_end h0]

theorem hb_0 (hi F : Nat) (d : Array Nat) : heapBuild ltN hi F 0 d = d := rfl
theorem hb_s (hi F k : Nat) (d : Array Nat) : heapBuild ltN hi F (k + 1) d = heapBuild ltN hi F k (siftDown ltN hi F k d) := rfl
theorem hp_0 (F : Nat) (d : Array Nat) : heapPop ltN F 0 d = d := rfl
theorem hp_s (F k : Nat) (d : Array Nat) : heapPop ltN F (k + 1) d = heapPop ltN F k (siftDown ltN k F 0 (swp d F (F + k))) := rfl

theorem rv_end {i j : Nat} {d : Array Nat} (h : ¬ i < j) : reverseLoop i j d = d := by rw [reverseLoop, if_neg h]
theorem rv_go {i j : Nat} {d : Array Nat} (h : i < j) : reverseLoop i j d = reverseLoop (i + 1) (j - 1) (swp d i j) := by rw [reverseLoop, if_pos h]

theorem up_go {p : Nat → Bool} {d : Array Nat} {i j : Nat} (h : i ≤ j) (hp : p d[i]! = true) : scanUp p d j i = scanUp p d j (i + 1) := by
  rw [scanUp, if_pos (by simp [h, hp])]
theorem up_end {p : Nat → Bool} {d : Array Nat} {i j : Nat} (h : i ≤ j → p d[i]! = false) : scanUp p d j i = i := by
  rw [scanUp, if_neg]
  simp only [Bool.and_eq_true, decide_eq_true_eq, not_and, Bool.not_eq_true]
  exact h
theorem down_go {p : Nat → Bool} {d : Array Nat} {i j : Nat} (h : i ≤ j + 1) (hp : p d[j + 1]! = true) : scanDown p d i (j + 1) = scanDown p d i j := by
  rw [scanDown, if_pos (by simp [h, hp])]
theorem down_end {p : Nat → Bool} {d : Array Nat} {i j : Nat} (h : i ≤ j → p d[j]! = false) : scanDown p d i j = j := by
  cases j with
  | zero => rfl
  | succ j =>
    rw [scanDown, if_neg]
    simp only [Bool.and_eq_true, decide_eq_true_eq, not_and, Bool.not_eq_true]
    exact h

theorem scans_ne {p q : Nat → Bool} (hq : ∀ x, q x = !p x) {dk : Array Nat} {i0 j0 i j : Nat} (h1 : scanUp p dk j0 i0 = i) (h2 : scanDown q dk i j0 = j) (hi : 0 < i) (h : i ≤ j) : i ≠ j := by
  rintro rfl
  have a1 := (scanUp_spec p dk j0 _ i0 rfl).2.2.2
  have a2 := (scanDown_spec q dk i j0)
  rw [h1] at a1
  rw [h2] at a2
  have b1 := a1 a2.1
  have b2 := a2.2.2.2 h hi
  rw [hq, b1] at b2
  cases b2

theorem ss_go {d : Array Nat} {b i : Nat} (h : i < b) (hl : ltN d[i]! d[i - 1]! = false) : scanSorted ltN d b i = scanSorted ltN d b (i + 1) := by
  rw [scanSorted, if_pos (by simp [h, hl])]
theorem ss_end {d : Array Nat} {b i : Nat} (h : i < b → ltN d[i]! d[i - 1]! = true) : scanSorted ltN d b i = i := by
  rw [scanSorted, if_neg]
  simp only [Bool.and_eq_true, decide_eq_true_eq, not_and, Bool.not_eq_true', Bool.not_eq_false]
  exact h
theorem sdn_0 (d : Array Nat) : shiftDown ltN 0 d = d := rfl
theorem sdn_go {d : Array Nat} {j : Nat} (h : ltN d[j + 1]! d[j]! = true) : shiftDown ltN (j + 1) d = shiftDown ltN j (swp d (j + 1) j) := by rw [shiftDown]; simp [h]
theorem sdn_end {d : Array Nat} {j : Nat} (h : ltN d[j + 1]! d[j]! = false) : shiftDown ltN (j + 1) d = d := by rw [shiftDown]; simp [h]
theorem sup_end {d : Array Nat} {b j : Nat} (h : j < b → ltN d[j]! d[j - 1]! = false) : shiftUp ltN b j d = d := by
  rw [shiftUp]
  split
  · rename_i hj; simp [h hj]
  · rfl
theorem sup_go {d : Array Nat} {b j : Nat} (hj : j < b) (h : ltN d[j]! d[j - 1]! = true) : shiftUp ltN b j d = shiftUp ltN b (j + 1) (swp d j (j - 1)) := by
  rw [shiftUp, if_pos hj]; simp [h]
end Go.Proofs.Ytcdjjodiiaahfaa
