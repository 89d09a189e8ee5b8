/-
  norm: syllables, as mathematics.
-/
import Derived.Test.YtncnagagigalhaaGreatDoorNormU
namespace Go.Proofs.YtncnagagigalhaaGreatDoor
open Norm

theorem arr_all : ∀ l : List C, (∀ x ∈ l, x.2 = 0) → arr [] l = l
  | [], _ => rfl
  | c :: t, h => by
    rw [arr, if_pos (h c (by simp)), arr_all t (fun x hx => h x (by simp [hx]))]
    rfl
theorem jamo (r : Int) (h : (4352 ≤ r ∧ r < 4371) ∨ (4449 ≤ r ∧ r < 4470) ∨ (4520 ≤ r ∧ r < 4547)) : full r = [r] ∧ ccc r = 0 := by
  have hk : (List.range 195).all (fun i => !(decide (i < 19) || decide (97 ≤ i ∧ i < 118) || decide (168 ≤ i ∧ i < 195)) || (full (4352 + (i : Int)) == [4352 + (i : Int)] && ccc (4352 + (i : Int)) == 0)) = true := by decide +kernel
  obtain ⟨i, rfl⟩ : ∃ i : Nat, r = 4352 + (i : Int) := ⟨(r - 4352).toNat, by omega⟩
  have := List.all_eq_true.1 hk i (List.mem_range.2 (by omega))
  simp only [Bool.or_eq_true, Bool.not_eq_true', Bool.or_eq_false_iff, decide_eq_false_iff_not, Bool.and_eq_true, beq_iff_eq] at this
  rcases this with h1 | h1
  · omega
  · exact h1
def sL (a : Int) : Int := 4352 + (a - 44032) / 28 / 21
def sV (a : Int) : Int := 4449 + (a - 44032) / 28 % 21
def sT (a : Int) : Int := 4519 + (a - 44032) % 28
theorem sV_in (a : Int) : 4449 ≤ sV a ∧ sV a < 4470 := by unfold sV; omega
theorem sL_in {a : Int} (h0 : 44032 ≤ a) (h1 : a < 55204) : 4352 ≤ sL a ∧ sL a < 4371 := by unfold sL; omega
theorem jn_LV {a : Int} (h0 : 44032 ≤ a) (h1 : a < 55204) : jn (sL a) (sV a) = some (a - (a - 44032) % 28) := by
  have hl := sL_in h0 h1
  have hv := (sV_in a)
  unfold jn
  have : sylJoin (sL a) (sV a) = some (a - (a - 44032) % 28) := by
    unfold sylJoin
    rw [if_pos ⟨hl.1, hl.2, hv.1, hv.2⟩]
    congr 1
    unfold sL sV
    omega
  rw [this]
theorem jn_LVT {a : Int} (h0 : 44032 ≤ a) (h1 : a < 55204) (h : (a - 44032) % 28 ≠ 0) : jn (a - (a - 44032) % 28) (sT a) = some a := by
  unfold jn
  have : sylJoin (a - (a - 44032) % 28) (sT a) = some a := by
    unfold sylJoin sT
    rw [if_neg (by omega), if_pos (by omega)]
    congr 1
    omega
  rw [this]
theorem full_2 {a : Int} (h0 : 44032 ≤ a) (h1 : a < 55204) (h : (a - 44032) % 28 = 0) : full a = [sL a, sV a] := full_LV h0 h1 h
theorem full_3 {a : Int} (h0 : 44032 ≤ a) (h1 : a < 55204) (h : (a - 44032) % 28 ≠ 0) : full a = [sL a, sV a, sT a] := full_LVT h0 h1 h
theorem jn_LV2 {a : Int} (h0 : 44032 ≤ a) (h1 : a < 55204) (h : (a - 44032) % 28 = 0) : jn (sL a) (sV a) = some a := by rw [jn_LV h0 h1, h, Int.sub_zero]
theorem dec1_2 {a : Int} (h0 : 44032 ≤ a) (h1 : a < 55204) (h : (a - 44032) % 28 = 0) : dec1 a = [(sL a, 0), (sV a, 0)] := by
  unfold dec1
  rw [full_2 h0 h1 h]
  simp [classed, (jamo _ (.inl (sL_in h0 h1))).2, (jamo _ (.inr (.inl (sV_in a)))).2]
theorem dec1_3 {a : Int} (h0 : 44032 ≤ a) (h1 : a < 55204) (h : (a - 44032) % 28 ≠ 0) : dec1 a = [(sL a, 0), (sV a, 0), (sT a, 0)] := by
  have ht : 4520 ≤ sT a ∧ sT a < 4547 := by unfold sT; omega
  unfold dec1
  rw [full_3 h0 h1 h]
  simp [classed, (jamo _ (.inl (sL_in h0 h1))).2, (jamo _ (.inr (.inl (sV_in a)))).2, (jamo _ (.inr (.inr ht))).2]
theorem dec_full {a : Int} (h0 : 44032 ≤ a) (h1 : a < 55204) : dec (full a) = dec1 a := by
  have e : ∀ r, full r = [r] → dec1 r = [classed r] := fun r h => by unfold dec1; rw [h]; rfl
  have hl := (jamo _ (.inl (sL_in h0 h1))).1
  have hv := (jamo _ (.inr (.inl (sV_in a)))).1
  by_cases h : (a - 44032) % 28 = 0
  · rw [dec_eq, full_2 h0 h1 h]
    unfold dec1
    rw [full_2 h0 h1 h]
    simp [hl, hv]
  · have ht : 4520 ≤ sT a ∧ sT a < 4547 := by unfold sT; omega
    have htt := (jamo _ (.inr (.inr ht))).1
    rw [dec_eq, full_3 h0 h1 h]
    unfold dec1
    rw [full_3 h0 h1 h]
    simp [hl, hv, htt]
theorem comp_syl {a : Int} (h0 : 44032 ≤ a) (h1 : a < 55204) : comp (arr [] (dec1 a)) = [a] := by
  by_cases h : (a - 44032) % 28 = 0
  · rw [dec1_2 h0 h1 h, arr_all _ (by simp)]
    simp [comp, St.step, St.push, jn_LV2 h0 h1 h]
  · rw [dec1_3 h0 h1 h, arr_all _ (by simp)]
    simp [comp, St.step, St.push, jn_LV h0 h1, jn_LVT h0 h1 h]
theorem nfc_full {a : Int} (h0 : 44032 ≤ a) (h1 : a < 55204) : nfc (full a) = [a] := by unfold nfc; rw [dec_full h0 h1]; exact comp_syl h0 h1
theorem nfc_one {a : Int} (h0 : 44032 ≤ a) (h1 : a < 55204) : nfc [a] = [a] := by
  unfold nfc
  have : dec [a] = dec1 a := by rw [dec_eq]; simp
  rw [this]
  exact comp_syl h0 h1
theorem runs_syl {a : Int} : Runs 19 (dec [a]) := dec_short (by simp)
theorem jn_more {a : Int} (h0 : 44032 ≤ a) (h1 : a < 55204) (r : Int) : (jn a r).isSome = decide ((a - 44032) % 28 = 0 ∧ 4519 < r ∧ r ≤ 4546) := by
  unfold jn
  by_cases h : (a - 44032) % 28 = 0 ∧ 4519 < r ∧ r ≤ 4546
  · have : sylJoin a r = some (a + r - 4519) := by
      unfold sylJoin
      rw [if_neg (by omega), if_pos (by omega)]
    rw [this, decide_eq_true h]
    rfl
  · have : sylJoin a r = none := by
      unfold sylJoin
      rw [if_neg (by omega), if_neg (by omega)]
    rw [this, decide_eq_false h]
    show (pjN 81 a r).isSome = false
    rw [Option.isSome_eq_false_iff, Option.isNone_iff_eq_none]
    unfold pjN
    rw [Option.map_eq_none_iff, List.find?_eq_none]
    intro t ht
    have hb : tabP.all (fun t => decide (t.2.1 ≤ 20000)) = true := by kernel_rfl
    have := List.all_eq_true.1 hb t (List.mem_of_mem_take ht)
    simp only [decide_eq_true_eq] at this
    simp only [Bool.and_eq_true, beq_iff_eq]
    omega
theorem full_len_eq {a : Int} (h0 : 44032 ≤ a) (h1 : a < 55204) : (full a).length = if (a - 44032) % 28 = 0 then 2 else 3 := by
  split
  · rename_i h; rw [full_2 h0 h1 h]; rfl
  · rename_i h; rw [full_3 h0 h1 h]; rfl
theorem full_inj {a b : Int} (h0 : 44032 ≤ a) (h1 : a < 55204) (k0 : 44032 ≤ b) (k1 : b < 55204) : decide (full a = full b) = decide (a = b) := by
  rw [decide_eq_decide]
  constructor
  · intro h
    have e1 := nfc_full h0 h1
    rw [h, nfc_full k0 k1] at e1
    simp at e1
    omega
  · rintro rfl; rfl
end Go.Proofs.YtncnagagigalhaaGreatDoor
