/-
  label: what the clauses say together; mathematics for the laws.
-/
import Derived.Test.YtenfdnnagijfnaaGreatDoorLabelC
namespace Go.Proofs.YtenfdnnagijfnaaGreatDoor
open Go.RowKit Norm Remap

theorem chk_eq (l : List Int) (ed : Bool) : chk l ed = if vio l 0 = true then 15 else if vio l 1 = true then 1 else if ed = true ∧ vio l 2 = true then 2 else if ed = true ∧ vio l 3 = true then 3 else if vio l 4 = true then 6 else if vio l 5 = true then 4 else if vio l 6 = true then 5 else 0 := by
  cases ed <;> simp [chk, chkF, app, edg, num]
theorem vio0 (l : List Int) : vio l 0 = decide (l.length = 0) := rfl
theorem vio1 (l : List Int) : vio l 1 = !(decide (nfc l = l)) := rfl
theorem vio2 (l : List Int) : vio l 2 = (decide (4 ≤ l.length) && (decide (l[2]! = 45) && decide (l[3]! = 45))) := rfl
theorem vio3 (l : List Int) : vio l 3 = (decide (l[0]! = 45) || decide (l[l.length - 1]! = 45)) := rfl
theorem vio4 (l : List Int) : vio l 4 = decide (46 ∈ l) := rfl
theorem vio5 (l : List Int) : vio l 5 = decide (Ucd.g (Ucd.of l[0]!) 0 = 4) := rfl
theorem vio6 (l : List Int) : vio l 6 = l.any fun r => !(vd r) := rfl
theorem chk_zero {l : List Int} {ed : Bool} : chk l ed = 0 ↔ vio l 0 = false ∧ vio l 1 = false ∧ (ed = true → vio l 2 = false ∧ vio l 3 = false) ∧ vio l 4 = false ∧ vio l 5 = false ∧ vio l 6 = false := by
  rw [chk_eq]
  cases vio l 0 <;> cases vio l 1 <;> cases vio l 2 <;> cases vio l 3 <;> cases vio l 4 <;> cases vio l 5 <;> cases vio l 6 <;> cases ed <;> simp
theorem chk_bare {l : List Int} : chk l true = chk l false ∨ chk l true = 2 ∨ chk l true = 3 := by
  rw [chk_eq, chk_eq]
  cases vio l 0 <;> cases vio l 1 <;> cases vio l 2 <;> cases vio l 3 <;> simp
/-- one code point -/
def fine (r : Int) : Bool := vd r && (decide (r ≠ 46) && (decide (Ucd.g (Ucd.of r) 0 ≠ 4) && decide (nfc [r] = [r])))
theorem one_vio (r : Int) : vio [r] 0 = false ∧ vio [r] 1 = !(decide (nfc [r] = [r])) ∧ vio [r] 2 = false ∧ vio [r] 3 = decide (r = 45) ∧ vio [r] 4 = decide (r = 46) ∧ vio [r] 5 = decide (Ucd.g (Ucd.of r) 0 = 4) ∧ vio [r] 6 = !(vd r) := by
  refine ⟨rfl, rfl, rfl, ?_, ?_, rfl, ?_⟩
  · rw [vio3]
    show (decide (r = 45) || decide (r = 45)) = _
    cases decide (r = 45) <;> rfl
  · rw [vio4, decide_eq_decide, List.mem_singleton]
    exact eq_comm
  · rw [vio6]
    simp
theorem one_false (r : Int) : decide (chk [r] false = 0) = fine r := by
  obtain ⟨h0, h1, h2, h3, h4, h5, h6⟩ := one_vio r
  rw [chk_eq, h0, h1, h4, h5, h6]
  unfold fine
  have e1 : decide (r ≠ 46) = !(decide (r = 46)) := decide_not
  have e2 : decide (Ucd.g (Ucd.of r) 0 ≠ 4) = !(decide (Ucd.g (Ucd.of r) 0 = 4)) := decide_not
  rw [e1, e2]
  generalize decide (nfc [r] = [r]) = a
  generalize decide (r = 46) = b
  generalize decide (Ucd.g (Ucd.of r) 0 = 4) = c
  generalize vd r = d
  cases a <;> cases b <;> cases c <;> cases d <;> simp
theorem one_45 : chk [45] true = 3 := by decide +kernel
theorem one_true {r : Int} (h : r ≠ 45) : chk [r] true = chk [r] false ∧ chk [r] true ≠ 3 := by
  obtain ⟨h0, h1, h2, h3, h4, h5, h6⟩ := one_vio r
  rw [chk_eq, chk_eq, h0, h1, h2, h3, h4, h5, h6, decide_eq_false h]
  refine ⟨by simp, ?_⟩
  generalize decide (nfc [r] = [r]) = a
  generalize decide (r = 46) = b
  generalize decide (Ucd.g (Ucd.of r) 0 = 4) = c
  generalize vd r = d
  cases a <;> cases b <;> cases c <;> cases d <;> simp
end Go.Proofs.YtenfdnnagijfnaaGreatDoor
