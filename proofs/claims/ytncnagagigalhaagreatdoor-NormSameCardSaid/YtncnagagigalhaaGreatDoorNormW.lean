/-
  norm: what two make, taken apart and put together again; plain ASCII; as mathematics.
-/
import Derived.Test.YtncnagagigalhaaGreatDoorNormV
namespace Go.Proofs.YtncnagagigalhaaGreatDoor
open Go.RowKit Norm

theorem pjN_mem {a b r : Int} (h : pjN 81 a b = some r) : (r, a, b) ∈ tabP := by
  unfold pjN at h
  rw [Option.map_eq_some_iff] at h
  obtain ⟨⟨t1, t2, t3⟩, ht, rfl⟩ := h
  have h1 := List.mem_of_mem_take (List.mem_of_find?_eq_some ht)
  have h2 := List.find?_some ht
  simp only [Bool.and_eq_true, beq_iff_eq] at h2
  obtain ⟨rfl, rfl⟩ := h2
  exact h1
theorem pairs_ok : tabP.all (fun t => full t.1 == full t.2.1 ++ [t.2.2] && nfc [t.2.1, t.2.2] == [t.1]) = true := by decide +kernel
theorem sylJoin_cases {a b r : Int} (h : sylJoin a b = some r) :
    (44032 ≤ r ∧ r < 55204) ∧ (((r - 44032) % 28 = 0 ∧ a = sL r ∧ b = sV r) ∨ ((r - 44032) % 28 ≠ 0 ∧ a = r - (r - 44032) % 28 ∧ b = sT r)) := by
  unfold sylJoin at h
  split at h
  · rename_i hc
    cases h
    refine ⟨by omega, .inl ⟨by omega, ?_, ?_⟩⟩
    · unfold sL; omega
    · unfold sV; omega
  · split at h
    · rename_i hc
      cases h
      refine ⟨by omega, .inr ⟨by omega, by omega, ?_⟩⟩
      unfold sT; omega
    · cases h
theorem join_full {a b r : Int} (h : jn a b = some r) : full r = full a ++ [b] ∧ nfc [a, b] = [r] := by
  unfold jn at h
  cases hs : sylJoin a b with
  | some q =>
    rw [hs] at h
    cases h
    obtain ⟨⟨r0, r1⟩, ⟨h28, rfl, rfl⟩ | ⟨h28, rfl, rfl⟩⟩ := sylJoin_cases hs
    · have hl := (jamo _ (.inl (sL_in r0 r1))).1
      refine ⟨by rw [hl, full_2 r0 r1 h28]; rfl, ?_⟩
      have := nfc_full r0 r1
      rw [full_2 r0 r1 h28] at this
      exact this
    · have c0 : 44032 ≤ r - (r - 44032) % 28 := by omega
      have c1 : r - (r - 44032) % 28 < 55204 := by omega
      have c2 : (r - (r - 44032) % 28 - 44032) % 28 = 0 := by omega
      have eL : sL (r - (r - 44032) % 28) = sL r := by unfold sL; omega
      have eV : sV (r - (r - 44032) % 28) = sV r := by unfold sV; omega
      have ht : 4520 ≤ sT r ∧ sT r < 4547 := by unfold sT; omega
      have hT := jamo _ (.inr (.inr ht))
      refine ⟨by rw [full_2 c0 c1 c2, full_3 r0 r1 h28, eL, eV]; rfl, ?_⟩
      have e : dec [r - (r - 44032) % 28, sT r] = dec1 r := by
        rw [dec_eq, dec1_3 r0 r1 h28]
        simp only [List.flatMap_cons, List.flatMap_nil, List.append_nil]
        rw [dec1_2 c0 c1 c2, eL, eV]
        unfold dec1
        rw [hT.1]
        simp [classed, hT.2]
      unfold nfc
      rw [e]
      exact comp_syl r0 r1
  | none =>
    rw [hs] at h
    have := List.all_eq_true.1 pairs_ok _ (pjN_mem h)
    simp only [Bool.and_eq_true, beq_iff_eq] at this
    exact this

/-! plain ASCII -/
theorem ascii_ok (r : Int) (h : 0 ≤ r ∧ r < 128) : full r = [r] ∧ ccc r = 0 := by
  have hk : (List.range 128).all (fun i => full (i : Int) == [(i : Int)] && ccc (i : Int) == 0) = true := by decide +kernel
  obtain ⟨i, rfl⟩ : ∃ i : Nat, r = (i : Int) := ⟨r.toNat, by omega⟩
  have := List.all_eq_true.1 hk i (List.mem_range.2 (by omega))
  simpa using this
theorem jn_low {a b : Int} (h : b < 768) : jn a b = none := by
  cases hj : jn a b with
  | none => rfl
  | some r =>
    exfalso
    unfold jn at hj
    cases hs : sylJoin a b with
    | some q =>
      unfold sylJoin at hs
      split at hs
      · omega
      · split at hs
        · omega
        · cases hs
    | none =>
      rw [hs] at hj
      have hb : tabP.all (fun t => decide (768 ≤ t.2.2)) = true := by kernel_rfl
      have := List.all_eq_true.1 hb _ (pjN_mem hj)
      simp at this
      omega
abbrev Asc (l : List Int) : Prop := ∀ x ∈ l, 0 ≤ x ∧ x < 128
theorem dec_asc : ∀ l, Asc l → dec l = l.map (fun x => (x, 0))
  | [], _ => rfl
  | x :: t, h => by
    obtain ⟨h1, h2⟩ := ascii_ok x (h x (by simp))
    have h3 := dec_asc t (fun y hy => h y (by simp [hy]))
    rw [dec_eq] at h3 ⊢
    rw [List.flatMap_cons, h3]
    unfold dec1
    rw [h1]
    simp [classed, h2]
theorem fold_low : ∀ (l : List C) (s : St), (∀ x ∈ l, x.1 < 768) → (l.foldl St.step s).out = s.out ++ l.map (·.1)
  | [], s, _ => by simp
  | c :: t, s, h => by
    rw [List.foldl_cons, step_none (jn_low (h c (by simp))), fold_low t _ (fun x hx => h x (by simp [hx]))]
    simp [St.push]
theorem asc_same {l : List Int} (h : Asc l) : nfd l = l ∧ nfc l = l := by
  have hd := dec_asc l h
  have ha : arr [] (dec l) = l.map (fun x => (x, 0)) := by
    rw [hd]
    refine arr_all _ fun x hx => ?_
    obtain ⟨y, _, rfl⟩ := List.mem_map.1 hx
    rfl
  constructor
  · unfold nfd
    rw [ha, List.map_map]
    simp [Function.comp_def]
  · unfold nfc comp
    rw [ha, fold_low]
    · simp [Function.comp_def]
    · intro x hx
      obtain ⟨y, hy, rfl⟩ := List.mem_map.1 hx
      have := h y hy
      show y < 768
      omega
theorem asc_runs {l : List Int} (h : Asc l) : Runs 19 (dec l) := by
  refine runs_starters fun x hx => ?_
  rw [dec_asc l h] at hx
  obtain ⟨y, _, rfl⟩ := List.mem_map.1 hx
  rfl
theorem asc_c32 {l : List Int} (h : Asc l) : C32 l := fun x hx => by have := h x hx; omega
theorem own_empty (w : World) (base : Nat) (e : TypeId) (hb : base ≤ w.heap.size) : (w.alloc (.cells #[] e)).ownsRow base e 1 (.slice (some ⟨w.heap.size, 0, none⟩) 0 0) 0 [] :=
  ⟨rfl, .inr ⟨w.heap.size, 0, #[], rfl, hb, heap_alloc_new w _, Nat.le_refl _, Nat.zero_le _, rfl, rfl⟩⟩
end Go.Proofs.YtncnagagigalhaaGreatDoor
