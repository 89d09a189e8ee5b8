import Derived.Test.YtenfdnnagijfnaaGreatDoorNormU
/-
  norm: syllables, as mathematics.
-/
namespace Go.Proofs.YtenfdnnagijfnaaGreatDoor
open Norm

theorem arr_all : ∀ l : List C, (∀ x ∈ l, x.2 = 0) → arr [] l = l
  | [], _ => rfl
  | c :: t, h => by
    rw [arr, if_pos (h c (by simp)), arr_all t (fun x hx => h x (by simp [hx]))]
    rfl
theorem jamo (r : Int) (h : (4352 ≤ r ∧ r < 4371) ∨ (4449 ≤ r ∧ r < 4470) ∨ (4520 ≤ r ∧ r < 4547)) : full r = [r] ∧ ccc r = 0 := by
  have hk : (List.range 195).all (fun i => !(decide (i < 19) || decide (97 ≤ i ∧ i < 118) || decide (168 ≤ i ∧ i < 195)) || (full (4352 + (i : Int)) == [4352 + (i : Int)] && ccc (4352 + (i : Int)) == 0)) = true := by decide +kernel
  obtain ⟨i, rfl⟩ : ∃ i : Nat, r = 4352 + (i : Int) := ⟨(r - 4352).toNat, by omega⟩
  have := List.all_eq_true.1 hk i (List.mem_range.2 (by omega))
  simp only [Bool.or_eq_true, Bool.not_eq_true', Bool.or_eq_false_iff, decide_eq_false_iff_not, Bool.and_eq_true, beq_iff_eq] at this
  rcases this with h1 | h1
  · omega
  · exact h1
def sL (a : Int) : Int := 4352 + (a - 44032) / 28 / 21
def sV (a : Int) : Int := 4449 + (a - 44032) / 28 % 21
def sT (a : Int) : Int := 4519 + (a - 44032) % 28
theorem sV_in (a : Int) : 4449 ≤ sV a ∧ sV a < 4470 := by unfold sV; omega
theorem sL_in {a : Int} (h0 : 44032 ≤ a) (h1 : a < 55204) : 4352 ≤ sL a ∧ sL a < 4371 := by unfold sL; omega
theorem jn_LV {a : Int} (h0 : 44032 ≤ a) (h1 : a < 55204) : jn (sL a) (sV a) = some (a - (a - 44032) % 28) := by
  have hl := sL_in h0 h1
  have hv := (sV_in a)
  unfold jn
  have : sylJoin (sL a) (sV a) = some (a - (a - 44032) % 28) := by
    unfold sylJoin
    rw [if_pos ⟨hl.1, hl.2, hv.1, hv.2⟩]
    congr 1
    unfold sL sV
    omega
  rw [this]
theorem jn_LVT {a : Int} (h0 : 44032 ≤ a) (h1 : a < 55204) (h : (a - 44032) % 28 ≠ 0) : jn (a - (a - 44032) % 28) (sT a) = some a := by
  unfold jn
  have : sylJoin (a - (a - 44032) % 28) (sT a) = some a := by
    unfold sylJoin sT
    rw [if_neg (by omega), if_pos (by omega)]
    congr 1
    omega
  rw [this]
theorem full_2 {a : Int} (h0 : 44032 ≤ a) (h1 : a < 55204) (h : (a - 44032) % 28 = 0) : full a = [sL a, sV a] := full_LV h0 h1 h
theorem full_3 {a : Int} (h0 : 44032 ≤ a) (h1 : a < 55204) (h : (a - 44032) % 28 ≠ 0) : full a = [sL a, sV a, sT a] := full_LVT h0 h1 h
theorem jn_LV2 {a : Int} (h0 : 44032 ≤ a) (h1 : a < 55204) (h : (a - 44032) % 28 = 0) : jn (sL a) (sV a) = some a := by rw [jn_LV h0 h1, h, Int.sub_zero]
theorem dec1_2 {a : Int} (h0 : 44032 ≤ a) (h1 : a < 55204) (h : (a - 44032) % 28 = 0) : dec1 a = [(sL a, 0), (sV a, 0)] := by
  unfold dec1
  rw [full_2 h0 h1 h]
  simp [classed, (jamo _ (.inl (sL_in h0 h1))).2, (jamo _ (.inr (.inl (sV_in a)))).2]
theorem dec1_3 {a : Int} (h0 : 44032 ≤ a) (h1 : a < 55204) (h : (a - 44032) % 28 ≠ 0) : dec1 a = [(sL a, 0), (sV a, 0), (sT a, 0)] := by
  have ht : 4520 ≤ sT a ∧ sT a < 4547 := by unfold sT; omega
  unfold dec1
  rw [full_3 h0 h1 h]
  simp [classed, (jamo _ (.inl (sL_in h0 h1))).2, (jamo _ (.inr (.inl (sV_in a)))).2, (jamo _ (.inr (.inr ht))).2]
theorem dec_full {a : Int} (h0 : 44032 ≤ a) (h1 : a < 55204) : dec (full a) = dec1 a := by
  have e : ∀ r, full r = [r] → dec1 r = [classed r] := fun r h => by unfold dec1; rw [h]; rfl
  have hl := (jamo _ (.inl (sL_in h0 h1))).1
  have hv := (jamo _ (.inr (.inl (sV_in a)))).1
  by_cases h : (a - 44032) % 28 = 0
  · rw [dec_eq, full_2 h0 h1 h]
    unfold dec1
    rw [full_2 h0 h1 h]
    simp [hl, hv]
  · have ht : 4520 ≤ sT a ∧ sT a < 4547 := by unfold sT; omega
    have htt := (jamo _ (.inr (.inr ht))).1
    rw [dec_eq, full_3 h0 h1 h]
    unfold dec1
    rw [full_3 h0 h1 h]
    simp [hl, hv, htt]
theorem comp_syl {a : Int} (h0 : 44032 ≤ a) (h1 : a < 55204) : comp (arr [] (dec1 a)) = [a] := by
  by_cases h : (a - 44032) % 28 = 0
  · rw [dec1_2 h0 h1 h, arr_all _ (by simp)]
    simp [comp, St.step, St.push, jn_LV2 h0 h1 h]
  · rw [dec1_3 h0 h1 h, arr_all _ (by simp)]
    simp [comp, St.step, St.push, jn_LV h0 h1, jn_LVT h0 h1 h]
theorem nfc_full {a : Int} (h0 : 44032 ≤ a) (h1 : a < 55204) : nfc (full a) = [a] := by unfold nfc; rw [dec_full h0 h1]; exact comp_syl h0 h1
theorem nfc_one {a : Int} (h0 : 44032 ≤ a) (h1 : a < 55204) : nfc [a] = [a] := by
  unfold nfc
  have : dec [a] = dec1 a := by rw [dec_eq]; simp
  rw [this]
  exact comp_syl h0 h1
theorem runs_syl {a : Int} : Runs 19 (dec [a]) := dec_short (by simp)
theorem jn_more {a : Int} (h0 : 44032 ≤ a) (h1 : a < 55204) (r : Int) : (jn a r).isSome = decide ((a - 44032) % 28 = 0 ∧ 4519 < r ∧ r ≤ 4546) := by
  unfold jn
  by_cases h : (a - 44032) % 28 = 0 ∧ 4519 < r ∧ r ≤ 4546
  · have : sylJoin a r = some (a + r - 4519) := by
      unfold sylJoin
      rw [if_neg (by omega), if_pos (by omega)]
    rw [this, decide_eq_true h]
    rfl
  · have : sylJoin a r = none := by
      unfold sylJoin
      rw [if_neg (by omega), if_neg (by omega)]
    rw [this, decide_eq_false h]
    show (pjN 81 a r).isSome = false
    rw [Option.isSome_eq_false_iff, Option.isNone_iff_eq_none]
    unfold pjN
    rw [Option.map_eq_none_iff, List.find?_eq_none]
    intro t ht
    have hb : tabP.all (fun t => decide (t.2.1 ≤ 20000)) = true := by kernel_rfl
    have := List.all_eq_true.1 hb t (List.mem_of_mem_take ht)
    simp only [decide_eq_true_eq] at this
    simp only [Bool.and_eq_true, beq_iff_eq]
    omega
theorem full_len_eq {a : Int} (h0 : 44032 ≤ a) (h1 : a < 55204) : (full a).length = if (a - 44032) % 28 = 0 then 2 else 3 := by
  split
  · rename_i h; rw [full_2 h0 h1 h]; rfl
  · rename_i h; rw [full_3 h0 h1 h]; rfl
theorem full_inj {a b : Int} (h0 : 44032 ≤ a) (h1 : a < 55204) (k0 : 44032 ≤ b) (k1 : b < 55204) : decide (full a = full b) = decide (a = b) := by
  rw [decide_eq_decide]
  constructor
  · intro h
    have e1 := nfc_full h0 h1
    rw [h, nfc_full k0 k1] at e1
    simp at e1
    omega
  · rintro rfl; rfl
end Go.Proofs.YtenfdnnagijfnaaGreatDoor

/-
  norm: what two make, taken apart and put together again; plain ASCII; as mathematics.
-/
namespace Go.Proofs.YtenfdnnagijfnaaGreatDoor
open Go.RowKit Norm

theorem pjN_mem {a b r : Int} (h : pjN 81 a b = some r) : (r, a, b) ∈ tabP := by
  unfold pjN at h
  rw [Option.map_eq_some_iff] at h
  obtain ⟨⟨t1, t2, t3⟩, ht, rfl⟩ := h
  have h1 := List.mem_of_mem_take (List.mem_of_find?_eq_some ht)
  have h2 := List.find?_some ht
  simp only [Bool.and_eq_true, beq_iff_eq] at h2
  obtain ⟨rfl, rfl⟩ := h2
  exact h1
theorem pairs_ok : tabP.all (fun t => full t.1 == full t.2.1 ++ [t.2.2] && nfc [t.2.1, t.2.2] == [t.1]) = true := by decide +kernel
theorem sylJoin_cases {a b r : Int} (h : sylJoin a b = some r) :
    (44032 ≤ r ∧ r < 55204) ∧ (((r - 44032) % 28 = 0 ∧ a = sL r ∧ b = sV r) ∨ ((r - 44032) % 28 ≠ 0 ∧ a = r - (r - 44032) % 28 ∧ b = sT r)) := by
  unfold sylJoin at h
  split at h
  · rename_i hc
    cases h
    refine ⟨by omega, .inl ⟨by omega, ?_, ?_⟩⟩
    · unfold sL; omega
    · unfold sV; omega
  · split at h
    · rename_i hc
      cases h
      refine ⟨by omega, .inr ⟨by omega, by omega, ?_⟩⟩
      unfold sT; omega
    · cases h
theorem join_full {a b r : Int} (h : jn a b = some r) : full r = full a ++ [b] ∧ nfc [a, b] = [r] := by
  unfold jn at h
  cases hs : sylJoin a b with
  | some q =>
    rw [hs] at h
    cases h
    obtain ⟨⟨r0, r1⟩, ⟨h28, rfl, rfl⟩ | ⟨h28, rfl, rfl⟩⟩ := sylJoin_cases hs
    · have hl := (jamo _ (.inl (sL_in r0 r1))).1
      refine ⟨by rw [hl, full_2 r0 r1 h28]; rfl, ?_⟩
      have := nfc_full r0 r1
      rw [full_2 r0 r1 h28] at this
      exact this
    · have c0 : 44032 ≤ r - (r - 44032) % 28 := by omega
      have c1 : r - (r - 44032) % 28 < 55204 := by omega
      have c2 : (r - (r - 44032) % 28 - 44032) % 28 = 0 := by omega
      have eL : sL (r - (r - 44032) % 28) = sL r := by unfold sL; omega
      have eV : sV (r - (r - 44032) % 28) = sV r := by unfold sV; omega
      have ht : 4520 ≤ sT r ∧ sT r < 4547 := by unfold sT; omega
      have hT := jamo _ (.inr (.inr ht))
      refine ⟨by rw [full_2 c0 c1 c2, full_3 r0 r1 h28, eL, eV]; rfl, ?_⟩
      have e : dec [r - (r - 44032) % 28, sT r] = dec1 r := by
        rw [dec_eq, dec1_3 r0 r1 h28]
        simp only [List.flatMap_cons, List.flatMap_nil, List.append_nil]
        rw [dec1_2 c0 c1 c2, eL, eV]
        unfold dec1
        rw [hT.1]
        simp [classed, hT.2]
      unfold nfc
      rw [e]
      exact comp_syl r0 r1
  | none =>
    rw [hs] at h
    have := List.all_eq_true.1 pairs_ok _ (pjN_mem h)
    simp only [Bool.and_eq_true, beq_iff_eq] at this
    exact this

/-! plain ASCII -/
theorem ascii_ok (r : Int) (h : 0 ≤ r ∧ r < 128) : full r = [r] ∧ ccc r = 0 := by
  have hk : (List.range 128).all (fun i => full (i : Int) == [(i : Int)] && ccc (i : Int) == 0) = true := by decide +kernel
  obtain ⟨i, rfl⟩ : ∃ i : Nat, r = (i : Int) := ⟨r.toNat, by omega⟩
  have := List.all_eq_true.1 hk i (List.mem_range.2 (by omega))
  simpa using this
theorem jn_low {a b : Int} (h : b < 768) : jn a b = none := by
  cases hj : jn a b with
  | none => rfl
  | some r =>
    exfalso
    unfold jn at hj
    cases hs : sylJoin a b with
    | some q =>
      unfold sylJoin at hs
      split at hs
      · omega
      · split at hs
        · omega
        · cases hs
    | none =>
      rw [hs] at hj
      have hb : tabP.all (fun t => decide (768 ≤ t.2.2)) = true := by kernel_rfl
      have := List.all_eq_true.1 hb _ (pjN_mem hj)
      simp at this
      omega
abbrev Asc (l : List Int) : Prop := ∀ x ∈ l, 0 ≤ x ∧ x < 128
theorem dec_asc : ∀ l, Asc l → dec l = l.map (fun x => (x, 0))
  | [], _ => rfl
  | x :: t, h => by
    obtain ⟨h1, h2⟩ := ascii_ok x (h x (by simp))
    have h3 := dec_asc t (fun y hy => h y (by simp [hy]))
    rw [dec_eq] at h3 ⊢
    rw [List.flatMap_cons, h3]
    unfold dec1
    rw [h1]
    simp [classed, h2]
theorem fold_low : ∀ (l : List C) (s : St), (∀ x ∈ l, x.1 < 768) → (l.foldl St.step s).out = s.out ++ l.map (·.1)
  | [], s, _ => by simp
  | c :: t, s, h => by
    rw [List.foldl_cons, step_none (jn_low (h c (by simp))), fold_low t _ (fun x hx => h x (by simp [hx]))]
    simp [St.push]
theorem asc_same {l : List Int} (h : Asc l) : nfd l = l ∧ nfc l = l := by
  have hd := dec_asc l h
  have ha : arr [] (dec l) = l.map (fun x => (x, 0)) := by
    rw [hd]
    refine arr_all _ fun x hx => ?_
    obtain ⟨y, _, rfl⟩ := List.mem_map.1 hx
    rfl
  constructor
  · unfold nfd
    rw [ha, List.map_map]
    simp [Function.comp_def]
  · unfold nfc comp
    rw [ha, fold_low]
    · simp [Function.comp_def]
    · intro x hx
      obtain ⟨y, hy, rfl⟩ := List.mem_map.1 hx
      have := h y hy
      show y < 768
      omega
theorem asc_runs {l : List Int} (h : Asc l) : Runs 19 (dec l) := by
  refine runs_starters fun x hx => ?_
  rw [dec_asc l h] at hx
  obtain ⟨y, _, rfl⟩ := List.mem_map.1 hx
  rfl
theorem asc_c32 {l : List Int} (h : Asc l) : C32 l := fun x hx => by have := h x hx; omega
theorem own_empty (w : World) (base : Nat) (e : TypeId) (hb : base ≤ w.heap.size) : (w.alloc (.cells #[] e)).ownsRow base e 1 (.slice (some ⟨w.heap.size, 0, none⟩) 0 0) 0 [] :=
  ⟨rfl, .inr ⟨w.heap.size, 0, #[], rfl, hb, heap_alloc_new w _, Nat.le_refl _, Nat.zero_le _, rfl, rfl⟩⟩
end Go.Proofs.YtenfdnnagijfnaaGreatDoor
