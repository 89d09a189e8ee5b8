import Derived.Test.YtenfdnnagijfnaaGreatDoorNormG
/-
  norm: Split of any code point.
-/
namespace Go.Proofs.YtenfdnnagijfnaaGreatDoor
open Go.RowKit Norm

def endsB : Nat → Int → Bool
  | 0, _ => false
  | k + 1, r => decide (-2147483648 ≤ r) && decide (r ≤ 2147483647) && if r = 9001 then endsB k 12296 else if r = 9002 then endsB k 12297 else match spl r with
    | some p => endsB k p.1
    | none => true
theorem ends_of : ∀ k r, endsB k r = true → ends k r
  | 0, r, h => by cases h
  | k + 1, r, h => by
    unfold endsB at h
    simp only [Bool.and_eq_true, decide_eq_true_eq] at h
    obtain ⟨⟨h0, h1⟩, h2⟩ := h
    unfold ends
    refine ⟨h0, h1, ?_⟩
    split at h2
    · rename_i hr; rw [if_pos hr]; exact ends_of k _ h2
    · rename_i hr
      rw [if_neg hr]
      split at h2
      · rename_i hr2; rw [if_pos hr2]; exact ends_of k _ h2
      · rename_i hr2
        rw [if_neg hr2]
        split at h2
        · rename_i p hp; rw [hp]; exact ends_of k _ h2
        · rename_i hp; rw [hp]; trivial
theorem ends_succ : ∀ k r, ends k r → ends (k + 1) r
  | 0, r, h => h.elim
  | k + 1, r, h => by
    unfold ends at h
    obtain ⟨h0, h1, h2⟩ := h
    show _ ∧ _ ∧ _
    refine ⟨h0, h1, ?_⟩
    split at h2
    · rename_i hr; rw [if_pos hr]; exact ends_succ k _ h2
    · rename_i hr
      rw [if_neg hr]
      split at h2
      · rename_i hr2; rw [if_pos hr2]; exact ends_succ k _ h2
      · rename_i hr2
        rw [if_neg hr2]
        split at h2
        · exact ends_succ k _ h2
        · trivial
theorem ends_L {r : Int} (h0 : 4352 ≤ r) (h1 : r < 4371) : ends 1 r := by
  have h : (List.range 19).all (fun i => endsB 1 (4352 + (i : Int))) = true := by kernel_rfl
  obtain ⟨i, rfl⟩ : ∃ i : Nat, r = 4352 + (i : Int) := ⟨(r - 4352).toNat, by omega⟩
  exact ends_of _ _ (List.all_eq_true.1 h i (List.mem_range.2 (by omega)))
theorem ends_pair {r : Int} {p : Int × Int} (h : pairR r = some p) : ends 3 p.1 := by
  have hall : tabP.all (fun t => endsB 3 t.2.1) = true := by kernel_rfl
  unfold pairR at h
  obtain ⟨t, ht, rfl⟩ := Option.map_eq_some_iff.1 h
  exact ends_of _ _ (List.all_eq_true.1 hall t (List.mem_of_find?_eq_some ht))
theorem spl_syl {r : Int} (h : syl r = true) : spl r = some (sylParts r) := by unfold spl; rw [if_pos h]
theorem ends_LV {r : Int} (h0 : 44032 ≤ r) (h1 : r < 55204) (h : (r - 44032) % 28 = 0) : ends 2 r := by
  have hs : syl r = true := by unfold syl; simp; omega
  unfold ends
  refine ⟨by omega, by omega, ?_⟩
  rw [if_neg (by omega), if_neg (by omega), spl_syl hs]
  unfold sylParts
  rw [if_pos h]
  exact ends_L (by dsimp only; omega) (by dsimp only; omega)
theorem ends_any {r : Int} (h0 : -2147483648 ≤ r) (h1 : r ≤ 2147483647) : ends 4 r := by
  unfold ends
  refine ⟨h0, h1, ?_⟩
  split
  · exact ends_of _ _ (by kernel_rfl)
  · split
    · exact ends_of _ _ (by kernel_rfl)
    · by_cases hs : 44032 ≤ r ∧ r < 55204
      · have hs' : syl r = true := by unfold syl; simp; omega
        rw [spl_syl hs']
        unfold sylParts
        by_cases h28 : (r - 44032) % 28 = 0
        · rw [if_pos h28]
          exact ends_succ _ _ (ends_succ _ _ (ends_L (by dsimp only; omega) (by dsimp only; omega)))
        · rw [if_neg h28]
          exact ends_succ _ _ (ends_LV (by dsimp only; omega) (by dsimp only; omega) (by dsimp only; omega))
      · have hs' : ¬ syl r = true := by unfold syl; simp; omega
        have : spl r = pairR r := by unfold spl; rw [if_neg hs']
        rw [this]
        split
        · rename_i p hp; exact ends_pair hp
        · trivial
/-- the full decomposition of r -/
def full (r : Int) : List Int := fullN 4 r
set_option maxRecDepth 100000 in
set_option maxHeartbeats 2000000 in
theorem Split_any (r : Int) (w : World) (h0 : -2147483648 ≤ r) (h1 : r ≤ 2147483647) : Calls Tryz.prog 17 #[.int .i32 r] w (Added w.heap.size 0 [] (cl .i32 (full r)) w) := by
  have HC := Lib.hid (fun w => addNil_any 4 (by omega) r (ends_any h0 h1) w)
  unfold full
  generalize fullN 4 r = F at HC ⊢
  clear h0 h1
  go_enter Tryz.func17, Tryz.ntmps17
  go_wp2_with (first | (go_at_call 36; refine (HC.out _).mono ?_; rintro e w2 ⟨v2, rfl, ho2, hb2⟩) | fail)
  go_ret
  exact ⟨v2, rfl, ho2, hb2⟩
end Go.Proofs.YtenfdnnagijfnaaGreatDoor

/-
  norm: what a syllable, a pair and any other are in full.
-/
namespace Go.Proofs.YtenfdnnagijfnaaGreatDoor
open Norm

theorem fullN_L {r : Int} (h0 : 4352 ≤ r) (h1 : r < 4371) : fullN 3 r = [r] ∧ fullN 2 r = [r] := by
  have h : (List.range 19).all (fun i => fullN 3 (4352 + (i : Int)) == [4352 + (i : Int)] && fullN 2 (4352 + (i : Int)) == [4352 + (i : Int)]) = true := by kernel_rfl
  obtain ⟨i, rfl⟩ : ∃ i : Nat, r = 4352 + (i : Int) := ⟨(r - 4352).toNat, by omega⟩
  have := List.all_eq_true.1 h i (List.mem_range.2 (by omega))
  simp only [Bool.and_eq_true] at this
  exact ⟨eq_of_beq this.1, eq_of_beq this.2⟩
theorem fullN_syl (k : Nat) {r : Int} (h : syl r = true) : fullN (k + 1) r = fullN k (sylParts r).1 ++ [(sylParts r).2] := by
  have hr : 44032 ≤ r ∧ r ≤ 55203 := by simpa [syl] using h
  rw [fullN, if_neg (by omega), if_neg (by omega), spl_syl h]
/-- a syllable of two -/
theorem full_LV {r : Int} (h0 : 44032 ≤ r) (h1 : r < 55204) (h : (r - 44032) % 28 = 0) : full r = [4352 + (r - 44032) / 28 / 21, 4449 + (r - 44032) / 28 % 21] := by
  have hs : syl r = true := by unfold syl; simp; omega
  unfold full
  rw [fullN_syl 3 hs]
  unfold sylParts
  rw [if_pos h, (fullN_L (by dsimp only; omega) (by dsimp only; omega)).1]
  rfl
/-- a syllable of three -/
theorem full_LVT {r : Int} (h0 : 44032 ≤ r) (h1 : r < 55204) (h : (r - 44032) % 28 ≠ 0) : full r = [4352 + (r - 44032) / 28 / 21, 4449 + (r - 44032) / 28 % 21, 4519 + (r - 44032) % 28] := by
  have hs : syl r = true := by unfold syl; simp; omega
  have hs2 : syl (r - (r - 44032) % 28) = true := by unfold syl; simp; omega
  have he : (r - (r - 44032) % 28 - 44032) / 28 = (r - 44032) / 28 := by omega
  unfold full
  rw [fullN_syl 3 hs]
  unfold sylParts
  rw [if_neg h]
  dsimp only
  rw [fullN_syl 2 hs2]
  unfold sylParts
  rw [if_pos (by omega), (fullN_L (by dsimp only; omega) (by dsimp only; omega)).2, he]
  rfl
/-- what stays as it is -/
theorem full_same {r : Int} (h1 : r ≠ 9001) (h2 : r ≠ 9002) (h : spl r = none) : full r = [r] := by
  unfold full
  rw [fullN, if_neg h1, if_neg h2, h]
theorem full_len (r : Int) : (full r).length ≤ 5 := fullN_len 4 r
end Go.Proofs.YtenfdnnagijfnaaGreatDoor
