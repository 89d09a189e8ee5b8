/-
  How many rows have a code point. No program here.
-/
import Derived.Test.YtioagoehmdppiaaDoorUcdFind
namespace Ucd

/-- how many of the first k rows have r -/
def cnt (r : Int) : Nat → Nat
  | 0 => 0
  | k + 1 => if fr k ≤ r ∧ r ≤ to k then cnt r k + 1 else cnt r k
theorem cnt_yes {r : Int} {k : Nat} (h1 : fr k ≤ r) (h2 : r ≤ to k) : cnt r (k + 1) = cnt r k + 1 := by simp [cnt, h1, h2]
theorem cnt_no {r : Int} {k : Nat} (h : ¬ (fr k ≤ r ∧ r ≤ to k)) : cnt r (k + 1) = cnt r k := by simp only [cnt, if_neg h]
theorem cnt_zero {r : Int} : ∀ k, k ≤ 166 → (∀ i, i < k → ¬ (fr i ≤ r ∧ r ≤ to i)) → cnt r k = 0
  | 0, _, _ => rfl
  | k + 1, hk, h => by rw [cnt_no (h k (by omega))]; exact cnt_zero k (by omega) (fun i hi => h i (by omega))
theorem cnt_le : ∀ {r : Int} k, k ≤ 166 → cnt r k ≤ 1
  | _, 0, _ => by simp [cnt]
  | r, k + 1, hk => by
    by_cases h : fr k ≤ r ∧ r ≤ to k
    · rw [cnt_yes h.1 h.2, cnt_zero k (by omega) (fun i hi h2 => by have := rise (i := i) k hi (by omega); omega)]
      omega
    · rw [cnt_no h]
      exact cnt_le k (by omega)
theorem cnt_pos {r : Int} {i : Nat} (h : fr i ≤ r ∧ r ≤ to i) : ∀ k, i < k → 0 < cnt r k
  | 0, hi => by omega
  | k + 1, hi => by
    by_cases h2 : fr k ≤ r ∧ r ≤ to k
    · rw [cnt_yes h2.1 h2.2]; omega
    · rw [cnt_no h2]
      exact cnt_pos h k (by rcases Nat.lt_or_ge i k with h3 | h3; · exact h3
                            · obtain rfl : i = k := by omega
                              exact absurd h h2)
/-- all of them: one, or none, and then there is nothing but a width -/
theorem cnt_all (r : Int) : cnt r 166 = 1 ∨ (cnt r 166 = 0 ∧ of r = un) := by
  rcases of_cases r with ⟨i, hi, h1, h2, _⟩ | ⟨h, h2⟩
  · have := cnt_pos (i := i) ⟨h1, h2⟩ 166 hi
    have := cnt_le (r := r) 166 (by omega)
    exact .inl (by omega)
  · exact .inr ⟨cnt_zero 166 (by omega) h, h2⟩

end Ucd
