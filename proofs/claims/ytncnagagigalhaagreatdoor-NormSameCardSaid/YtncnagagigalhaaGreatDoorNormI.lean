/-
  norm: what a syllable, a pair and any other are in full.
-/
import Derived.Test.YtncnagagigalhaaGreatDoorNormH
namespace Go.Proofs.YtncnagagigalhaaGreatDoor
open Norm

theorem fullN_L {r : Int} (h0 : 4352 ≤ r) (h1 : r < 4371) : fullN 3 r = [r] ∧ fullN 2 r = [r] := by
  have h : (List.range 19).all (fun i => fullN 3 (4352 + (i : Int)) == [4352 + (i : Int)] && fullN 2 (4352 + (i : Int)) == [4352 + (i : Int)]) = true := by kernel_rfl
  obtain ⟨i, rfl⟩ : ∃ i : Nat, r = 4352 + (i : Int) := ⟨(r - 4352).toNat, by omega⟩
  have := List.all_eq_true.1 h i (List.mem_range.2 (by omega))
  simp only [Bool.and_eq_true] at this
  exact ⟨eq_of_beq this.1, eq_of_beq this.2⟩
theorem fullN_syl (k : Nat) {r : Int} (h : syl r = true) : fullN (k + 1) r = fullN k (sylParts r).1 ++ [(sylParts r).2] := by
  have hr : 44032 ≤ r ∧ r ≤ 55203 := by simpa [syl] using h
  rw [fullN, if_neg (by omega), if_neg (by omega), spl_syl h]
/-- a syllable of two -/
theorem full_LV {r : Int} (h0 : 44032 ≤ r) (h1 : r < 55204) (h : (r - 44032) % 28 = 0) : full r = [4352 + (r - 44032) / 28 / 21, 4449 + (r - 44032) / 28 % 21] := by
  have hs : syl r = true := by unfold syl; simp; omega
  unfold full
  rw [fullN_syl 3 hs]
  unfold sylParts
  rw [if_pos h, (fullN_L (by dsimp only; omega) (by dsimp only; omega)).1]
  rfl
/-- a syllable of three -/
theorem full_LVT {r : Int} (h0 : 44032 ≤ r) (h1 : r < 55204) (h : (r - 44032) % 28 ≠ 0) : full r = [4352 + (r - 44032) / 28 / 21, 4449 + (r - 44032) / 28 % 21, 4519 + (r - 44032) % 28] := by
  have hs : syl r = true := by unfold syl; simp; omega
  have hs2 : syl (r - (r - 44032) % 28) = true := by unfold syl; simp; omega
  have he : (r - (r - 44032) % 28 - 44032) / 28 = (r - 44032) / 28 := by omega
  unfold full
  rw [fullN_syl 3 hs]
  unfold sylParts
  rw [if_neg h]
  dsimp only
  rw [fullN_syl 2 hs2]
  unfold sylParts
  rw [if_pos (by omega), (fullN_L (by dsimp only; omega) (by dsimp only; omega)).2, he]
  rfl
/-- what stays as it is -/
theorem full_same {r : Int} (h1 : r ≠ 9001) (h2 : r ≠ 9002) (h : spl r = none) : full r = [r] := by
  unfold full
  rw [fullN, if_neg h1, if_neg h2, h]
theorem full_len (r : Int) : (full r).length ≤ 5 := fullN_len 4 r
end Go.Proofs.YtncnagagigalhaaGreatDoor
