/-
  context: what the table says of the two kinds of Arabic digits; whom the conditions ask.
-/
import Derived.Test.YtmeihnhghdmjiaaGreatDoorCtxH
namespace Go.Proofs.YtmeihnhghdmjiaaGreatDoor.Ctx
open Go.RowKit Ucd

def dg (r : Int) : Int := g (of r) 5
def ct (r : Int) : Int := g (of r) 0
theorem dig_tab : (List.range 166).all (fun i => (decide (g (pr i) 5 = 2) == decide (1632 ≤ fr i ∧ Ucd.to i ≤ 1641)) && ((decide (1632 ≤ fr i ∧ Ucd.to i ≤ 1641) || decide (Ucd.to i < 1632) || decide (1641 < fr i)) && ((decide (g (pr i) 5 = 3) == decide (1776 ≤ fr i ∧ Ucd.to i ≤ 1785)) && ((decide (1776 ≤ fr i ∧ Ucd.to i ≤ 1785) || decide (Ucd.to i < 1776) || decide (1785 < fr i)) && ((!decide (g (pr i) 5 = 2) || decide (g (pr i) 0 = 5)) && (!decide (g (pr i) 5 = 3) || decide (g (pr i) 0 = 5))))))) = true := by decide +kernel
theorem dig_all : (List.range 10).all (fun j => decide (dg (1632 + (j : Int)) = 2) && decide (dg (1776 + (j : Int)) = 3)) = true := by decide +kernel
theorem dig_row {i : Nat} (h : i < 166) : (g (pr i) 5 = 2 ↔ (1632 ≤ fr i ∧ Ucd.to i ≤ 1641)) ∧ ((1632 ≤ fr i ∧ Ucd.to i ≤ 1641) ∨ Ucd.to i < 1632 ∨ 1641 < fr i) ∧ (g (pr i) 5 = 3 ↔ (1776 ≤ fr i ∧ Ucd.to i ≤ 1785)) ∧ ((1776 ≤ fr i ∧ Ucd.to i ≤ 1785) ∨ Ucd.to i < 1776 ∨ 1785 < fr i) ∧ (g (pr i) 5 = 2 → g (pr i) 0 = 5) ∧ (g (pr i) 5 = 3 → g (pr i) 0 = 5) := by
  have := List.all_eq_true.1 dig_tab i (List.mem_range.2 h)
  simp only [Bool.and_eq_true, Bool.or_eq_true, beq_iff_eq, decide_eq_true_eq, decide_eq_decide, Bool.not_eq_true', decide_eq_false_iff_not] at this
  obtain ⟨h1, h2, h3, h4, h5, h6⟩ := this
  exact ⟨h1, by omega, h3, by omega, fun e => h5.resolve_left (fun n => n e), fun e => h6.resolve_left (fun n => n e)⟩
theorem dg_ara (r : Int) : decide (dg r = 2) = ara r := by
  unfold ara
  rcases of_cases r with ⟨i, hi, h1, h2, e⟩ | ⟨h, e⟩
  · obtain ⟨a, b, _⟩ := dig_row hi
    unfold dg
    rw [e]
    by_cases hh : g (pr i) 5 = 2
    · have := a.1 hh
      simp [hh]
      omega
    · have : ¬ (1632 ≤ fr i ∧ Ucd.to i ≤ 1641) := fun x => hh (a.2 x)
      simp [hh]
      omega
  · by_cases hr : 1632 ≤ r ∧ r < 1642
    · exfalso
      have := List.all_eq_true.1 dig_all (r - 1632).toNat (List.mem_range.2 (by omega))
      simp only [Bool.and_eq_true, decide_eq_true_eq] at this
      rw [show (1632 : Int) + ((r - 1632).toNat : Int) = r from by omega] at this
      unfold dg at this
      rw [e] at this
      exact absurd this.1 (by decide)
    · unfold dg
      rw [e]
      simp [un, g]
      omega
theorem dg_eas (r : Int) : decide (dg r = 3) = eas r := by
  unfold eas
  rcases of_cases r with ⟨i, hi, h1, h2, e⟩ | ⟨h, e⟩
  · obtain ⟨_, _, a, b, _⟩ := dig_row hi
    unfold dg
    rw [e]
    by_cases hh : g (pr i) 5 = 3
    · have := a.1 hh
      simp [hh]
      omega
    · have : ¬ (1776 ≤ fr i ∧ Ucd.to i ≤ 1785) := fun x => hh (a.2 x)
      simp [hh]
      omega
  · by_cases hr : 1776 ≤ r ∧ r < 1786
    · exfalso
      have := List.all_eq_true.1 dig_all (r - 1776).toNat (List.mem_range.2 (by omega))
      simp only [Bool.and_eq_true, decide_eq_true_eq] at this
      rw [show (1776 : Int) + ((r - 1776).toNat : Int) = r from by omega] at this
      unfold dg at this
      rw [e] at this
      exact absurd this.2 (by decide)
    · unfold dg
      rw [e]
      simp [un, g]
      omega
theorem ct_dig {r : Int} (h : ara r = true ∨ eas r = true) : ct r = 5 := by
  rw [← dg_ara, ← dg_eas] at h
  simp only [decide_eq_true_eq] at h
  unfold dg at h
  unfold ct
  rcases of_cases r with ⟨i, hi, h1, h2, e⟩ | ⟨_, e⟩
  · obtain ⟨_, _, _, _, a, b⟩ := dig_row hi
    rw [e] at h ⊢
    exact h.elim a b
  · rw [e] at h
    exact absurd h (by decide)
theorem kd_ara {r : Int} (h : ara r = true) : kd r = 6 := by
  unfold kd kyv
  rw [if_pos h]; rfl
theorem kd_eas {r : Int} (h : eas r = true) : kd r = 7 := by
  have h2 : ara r = false := by
    unfold ara
    unfold eas at h
    simp only [Bool.and_eq_true, decide_eq_true_eq] at h
    simp
    omega
  unfold kd kyv
  rw [if_neg (by rw [h2]; simp), if_pos h]; rfl
theorem kd_plain {r : Int} (h1 : ara r = false) (h2 : eas r = false) : kd r = kdK r := by
  unfold kd kyv
  rw [if_neg (by rw [h1]; simp), if_neg (by rw [h2]; simp)]
theorem atC_ara {l : List Int} {i : Nat} (hi : i < l.length) (h : ara l[i]! = true) : atC l i = if (l.any ara && l.any eas) = true then 8 else 0 := by
  have ha : l.any ara = true := List.any_eq_true.2 ⟨_, mems hi, h⟩
  unfold atC
  rw [kd_ara h, ha]
  show (if 6 < 8 ∧ (!(l.any eas)) = false then cls 6 else 0) = _
  rcases Bool.eq_false_or_eq_true (l.any eas) with hx | hx <;> simp [hx, cls]
theorem atC_eas {l : List Int} {i : Nat} (hi : i < l.length) (h : eas l[i]! = true) : atC l i = if (l.any ara && l.any eas) = true then 8 else 0 := by
  have ha : l.any eas = true := List.any_eq_true.2 ⟨_, mems hi, h⟩
  unfold atC
  rw [kd_eas h, ha]
  show (if 7 < 8 ∧ (!(l.any ara)) = false then cls 7 else 0) = _
  rcases Bool.eq_false_or_eq_true (l.any ara) with hx | hx <;> simp [hx, cls]
theorem atC_kana {l : List Int} {i : Nat} (h : l[i]! = 12539) : atC l i = if l.any jap = true then 0 else 8 := by
  unfold atC
  rw [h]
  show (if 5 < 8 ∧ (l.any jap) = false then cls 5 else 0) = _
  rcases Bool.eq_false_or_eq_true (l.any jap) with hx | hx <;> simp [hx, cls]
theorem any_take_succ {l : List Int} {k : Nat} (p : Int → Bool) (h : k < l.length) : (l.take (k + 1)).any p = ((l.take k).any p || p l[k]!) := by
  rw [List.take_succ_eq_append_getElem h, List.any_append, List.any_cons, List.any_nil, Bool.or_false, getElem!_pos l k h]
end Go.Proofs.YtmeihnhghdmjiaaGreatDoor.Ctx
