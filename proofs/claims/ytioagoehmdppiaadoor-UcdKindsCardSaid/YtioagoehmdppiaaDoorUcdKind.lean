/-
  What kinds the rows of the table are of. No program here.
-/
import Derived.Test.YtioagoehmdppiaaDoorUcdFind
namespace Ucd

/-- what is promised of the properties of whatever is in the table, or in no row -/
def KindOK (p : List Int) : Prop :=
  ((g p 0 = 4 ∧ (g p 1 = 8 ∨ g p 1 = 0) ∧ g p 5 = 0) ∨ ((g p 0 = 1 ∨ g p 0 = 2 ∨ g p 0 = 3) ∧ g p 3 = 0 ∧ (g p 1 = 0 ∨ g p 1 = 1 ∨ g p 1 = 2) ∧ g p 5 = 0) ∨ (g p 0 = 5 ∧ g p 3 = 0 ∧ ¬ g p 1 = 8 ∧ ¬ g p 5 = 0) ∨
    (g p 0 = 9 ∧ g p 3 = 0 ∧ ¬ g p 1 = 8 ∧ g p 5 = 0 ∧ g p 6 = 0) ∨ ((g p 0 = 0 ∨ g p 0 = 6 ∨ g p 0 = 7 ∨ g p 0 = 8 ∨ g p 0 = 10) ∧ g p 3 = 0 ∧ ¬ g p 1 = 8 ∧ g p 5 = 0)) ∧
  g p 6 ≤ 2 ∧ g p 2 ≤ 5 ∧ g p 4 ≤ 11 ∧ g p 1 ≤ 22
instance (p : List Int) : Decidable (KindOK p) := by unfold KindOK; infer_instance
theorem kind_all : (List.range 166).all (fun i => decide (KindOK (pr i)) && decide (g (pr i) 5 = 0 ∨ to i - fr i = 9)) = true := by decide +kernel
theorem kind_un : KindOK un := by decide +kernel
theorem kind_row {i : Nat} (h : i < 166) : KindOK (pr i) ∧ (g (pr i) 5 = 0 ∨ to i - fr i = 9) := by
  have := List.all_eq_true.1 kind_all i (List.mem_range.2 h)
  simp only [Bool.and_eq_true, decide_eq_true_eq] at this
  exact this
theorem kind_of (r : Int) : KindOK (of r) := by
  rcases of_cases r with ⟨i, hi, _, _, h⟩ | ⟨_, h⟩
  · rw [h]; exact (kind_row hi).1
  · rw [h]; exact kind_un

end Ucd
