/-
  fasciaref13: Show, as mathematics: what is written before piece i.
-/
import Derived.Test.YtcoppicieicikaaDoorSixRC
namespace Go.Proofs.YtcoppicieicikaaDoor.Sx
open Go.RowKit Go.Shelf

/-- what is written ahead of piece i -/
def pt (x : List Nat) (k n i : Nat) : List UInt8 := if n = 0 ∨ i ≤ k then jn (hx (x.take i)) else jn (hx (x.take k)) ++ 58 :: 58 :: jn (hx ((x.drop (k + n)).take (i - (k + n))))
theorem hx_snoc (l : List Nat) (m : Nat) : hx (l ++ [m]) = hx l ++ [digs 16 m] := by simp [hx]
theorem take_nth {x : List Nat} {i : Nat} (h : i < x.length) : x.take (i + 1) = x.take i ++ [nth x i] := by
  rw [List.take_add_one, List.getElem?_eq_getElem h, nth, List.getD, List.getElem?_eq_getElem h]
  rfl
theorem jn_app_one (l : List Nat) (m : Nat) (h : l ≠ []) : jn (hx (l ++ [m])) = jn (hx l) ++ 58 :: digs 16 m := by
  rw [hx_snoc]
  exact jn_snoc _ (by simpa [hx] using h)
theorem pt_jump {x : List Nat} {k n : Nat} (hn : n ≠ 0) : pt x k n k ++ [58, 58] = pt x k n (k + n) := by
  unfold pt
  rw [if_pos (.inr (Nat.le_refl _)), if_neg (by omega), Nat.sub_self, List.take_zero]
  rfl
theorem pt_col {x : List Nat} {k n i : Nat} (h8 : x.length = 8) (hi : i < 8) (h0 : 0 < i) (h : n = 0 ∨ i < k ∨ (n ≠ 0 ∧ k + n < i)) : pt x k n (i + 1) = pt x k n i ++ 58 :: digs 16 (nth x i) := by
  unfold pt
  by_cases hc : n = 0 ∨ i < k
  · rw [if_pos (by omega), if_pos (by omega), take_nth (by omega), jn_app_one _ _ (fun e => by have := congrArg List.length e; rw [List.length_take, h8] at this; simp at this; omega)]
  · have hd : (x.drop (k + n)).length = 8 - (k + n) := by rw [List.length_drop, h8]
    have hnd : nth (x.drop (k + n)) (i - (k + n)) = nth x i := by
      have := nth_drop (x := x) (k := k + n) (j := i - (k + n))
      rw [this]
      congr 1
      omega
    rw [if_neg (by omega), if_neg (by omega), show i + 1 - (k + n) = i - (k + n) + 1 by omega, take_nth (by rw [hd]; omega), jn_app_one _ _ (fun e => by have := congrArg List.length e; rw [List.length_take, hd] at this; simp at this; omega), hnd]
    simp
theorem pt_first {x : List Nat} {k n : Nat} (h8 : x.length = 8) (h : n = 0 ∨ 0 < k) : pt x k n 1 = digs 16 (nth x 0) := by
  unfold pt
  rw [if_pos (by omega), take_nth (by omega), List.take_zero]
  exact jn_one _
theorem pt_behind {x : List Nat} {k n : Nat} (h8 : x.length = 8) (hn : n ≠ 0) (hi : k + n < 8) : pt x k n (k + n + 1) = pt x k n (k + n) ++ digs 16 (nth x (k + n)) := by
  unfold pt
  have hd : (x.drop (k + n)).length = 8 - (k + n) := by rw [List.length_drop, h8]
  have hnd : nth (x.drop (k + n)) 0 = nth x (k + n) := by
    have := nth_drop (x := x) (k := k + n) (j := 0)
    rw [this]
    rfl
  rw [if_neg (by omega), if_neg (by omega), show k + n + 1 - (k + n) = 0 + 1 by omega, take_nth (by rw [hd]; omega), Nat.sub_self, List.take_zero, hnd]
  have : jn (hx ([] ++ [nth x (k + n)])) = digs 16 (nth x (k + n)) := jn_one _
  rw [this]
  simp [hx, jn_nil]
theorem pt_end {x : List Nat} {k n : Nat} (h8 : x.length = 8) (hr : IsRun x k n) : pt x k n 8 = shw x k n := by
  unfold pt shw
  by_cases hn : n = 0
  · rw [if_pos (.inl hn), if_pos hn, List.take_of_length_le (by omega)]
  · have : 2 ≤ n ∧ k + n ≤ 8 := by rcases hr with ⟨h1, _⟩ | ⟨h1, h2, _⟩ <;> omega
    rw [if_neg (by omega), if_neg hn, List.take_of_length_le (l := x.drop (k + n)) (by rw [List.length_drop, h8]; exact Nat.le_refl _)]
end Go.Proofs.YtcoppicieicikaaDoor.Sx
