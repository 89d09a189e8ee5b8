/-
  norm, as mathematics: a dot, or a hyphen, put into a row that is put together.
-/
import Derived.Test.YtenfdnnagijfnaaGreatDoorLabelJ
namespace Go.Proofs.YtenfdnnagijfnaaGreatDoor
open Go.RowKit Norm

theorem head_tab : tabP.all (fun t => (dec1 t.1).head?.map (·.2) == some 0) = true := by decide +kernel
theorem head_jamo : (List.range 19).all (fun i => ccc (4352 + (i : Int)) == 0) = true := by decide +kernel
theorem head_class {b : Int} (h : ccc b = 0) : (dec1 b).head?.map (·.2) = some 0 := by
  by_cases h1 : b = 9001
  · rw [h1]; decide +kernel
  · by_cases h2 : b = 9002
    · rw [h2]; decide +kernel
    · cases hs : spl b with
      | none =>
        unfold dec1
        rw [full_same h1 h2 hs]
        show some (ccc b) = some 0
        rw [h]
      | some p =>
        unfold spl at hs
        by_cases hy : syl b = true
        · have hb : 44032 ≤ b ∧ b ≤ 55203 := by simpa [syl] using hy
          have hj : ccc (4352 + (b - 44032) / 28 / 21) = 0 := by
            have := List.all_eq_true.1 head_jamo ((b - 44032) / 28 / 21).toNat (List.mem_range.2 (by omega))
            rw [show ((((b - 44032) / 28 / 21).toNat : Nat) : Int) = (b - 44032) / 28 / 21 from by omega] at this
            simpa using this
          unfold dec1
          by_cases hm : (b - 44032) % 28 = 0
          · rw [full_LV hb.1 (by omega) hm]
            show some (ccc (4352 + (b - 44032) / 28 / 21)) = some 0
            rw [hj]
          · rw [full_LVT hb.1 (by omega) hm]
            show some (ccc (4352 + (b - 44032) / 28 / 21)) = some 0
            rw [hj]
        · rw [if_neg hy] at hs
          unfold pairR at hs
          rw [Option.map_eq_some_iff] at hs
          obtain ⟨t, ht, _⟩ := hs
          have e := List.find?_some ht
          have := List.all_eq_true.1 head_tab t (List.mem_of_find?_eq_some ht)
          simp only [beq_iff_eq] at e this
          rw [e] at this
          exact this
theorem head_dec {b : Int} (h : ccc b = 0) (t : List Int) : ∃ c T, dec (b :: t) = c :: T ∧ c.2 = 0 := by
  have e : dec (b :: t) = dec1 b ++ dec t := by rw [dec_eq, List.flatMap_cons, ← dec_eq]
  have h1 := head_class h
  cases hd : dec1 b with
  | nil => rw [hd] at h1; cases h1
  | cons c T =>
    rw [hd] at h1
    refine ⟨c, T ++ dec t, by rw [e, hd]; rfl, ?_⟩
    simpa using h1
theorem nfc_nil : nfc [] = [] := rfl
/-- marks behind a row that is put together rise, and the row is so without them -/
theorem nfc_drops {A : List Int} (hA : ∃ x t, A = x :: t ∧ ccc x = 0) : ∀ (k : Nat) (M : List Int), M.length = k → C32 (A ++ M) → (∀ m ∈ M, ccc m ≠ 0) → nfc (A ++ M) = A ++ M → nfc A = A ∧ Srt (M.map classed)
  | 0, M, hk, _, _, h => by
    obtain rfl := List.eq_nil_of_length_eq_zero hk
    rw [List.append_nil] at h
    exact ⟨h, List.Pairwise.nil⟩
  | k + 1, M, hk, hC, hM, h => by
    have hne : M ≠ [] := fun e => by rw [e] at hk; simp at hk
    obtain ⟨M', m, rfl⟩ : ∃ M' m, M = M' ++ [m] := ⟨M.dropLast, M.getLast hne, (List.dropLast_concat_getLast hne).symm⟩
    rw [← List.append_assoc] at hC h
    have hm := hM m (by simp)
    obtain ⟨x, t, hx, hx0⟩ := hA
    obtain ⟨h1, h2⟩ := nfc_drop hC hm ⟨x, t ++ M', by rw [hx]; rfl, hx0⟩ h
    obtain ⟨h3, h4⟩ := nfc_drops ⟨x, t, hx, hx0⟩ k M' (by simpa using hk) (c32_left hC) (fun z hz => hM z (by simp [hz])) h1
    refine ⟨h3, ?_⟩
    unfold Srt at h4 ⊢
    rw [List.map_append, List.pairwise_append]
    refine ⟨h4, List.pairwise_singleton _ _, fun a ha b hb => ?_⟩
    rw [List.map_singleton, List.mem_singleton] at hb
    subst hb
    by_cases hne' : M' = []
    · rw [hne'] at ha; simp at ha
    · obtain ⟨M2, z, hz⟩ : ∃ M2 z, M' = M2 ++ [z] := ⟨M'.dropLast, M'.getLast hne', (List.dropLast_concat_getLast hne').symm⟩
      have hzm := h2 z (by rw [hz, ← List.append_assoc]; simp)
      have haz : a.2 ≤ ccc z := by
        rw [hz, List.map_append, List.pairwise_append] at h4
        rw [hz, List.map_append] at ha
        rcases List.mem_append.1 ha with h5 | h5
        · exact h4.2.2 a h5 (classed z) (by simp)
        · rw [List.map_singleton, List.mem_singleton] at h5
          rw [h5]
          exact Int.le_refl _
      exact Int.le_trans haz hzm
theorem arr_marks : ∀ (M acc : List C), (∀ m ∈ M, m.2 ≠ 0) → arr acc M = isort (acc ++ M)
  | [], acc, _ => by rw [arr_nil, List.append_nil]
  | c :: t, acc, h => by
    rw [arr_cons, if_neg (h c (by simp)), arr_marks t (acc ++ [c]) (fun m hm => h m (by simp [hm])), List.append_assoc]
    rfl
theorem run_marks {x : Int} (hj : ∀ y, jn x y = none) : ∀ (M : List Int) (d : List Int) (last : Int), (∀ m ∈ M, ccc m ≠ 0) → ∃ l', run (M.map classed) ⟨x :: d, 0, last⟩ = ⟨x :: d ++ M, 0, l'⟩
  | [], d, last, _ => ⟨last, by rw [List.append_nil]; rfl⟩
  | m :: M, d, last, h => by
    have hm : (classed m).2 ≠ 0 := h m (by simp)
    have e : (St.mk (x :: d) 0 last).step (classed m) = ⟨x :: (d ++ [m]), 0, ccc m⟩ := by
      rw [step_none (s := ⟨x :: d, 0, last⟩) (show jn x (classed m).1 = none from hj _)]
      unfold St.push
      dsimp only
      rw [if_neg hm]
      rfl
    obtain ⟨l', h'⟩ := run_marks hj M (d ++ [m]) (ccc m) (fun z hz => h z (by simp [hz]))
    refine ⟨l', ?_⟩
    rw [List.map_cons, run_cons, e, h']
    simp
theorem span_marks (B : List Int) : ∃ M B2, B = M ++ B2 ∧ (∀ m ∈ M, ccc m ≠ 0) ∧ (B2 = [] ∨ ∃ b t, B2 = b :: t ∧ ccc b = 0) := by
  induction B with
  | nil => exact ⟨[], [], rfl, by simp, .inl rfl⟩
  | cons b t ih =>
    by_cases hb : ccc b = 0
    · exact ⟨[], b :: t, rfl, by simp, .inr ⟨b, t, rfl, hb⟩⟩
    · obtain ⟨M, B2, h1, h2, h3⟩ := ih
      refine ⟨b :: M, B2, by rw [h1]; rfl, fun m hm => ?_, h3⟩
      rcases List.mem_cons.1 hm with e | hm
      · rw [e]; exact hb
      · exact h2 m hm
/-- ASCII that is put together with nothing, put into a row that is put together -/
theorem nfc_put {x : Int} (hx : 0 ≤ x ∧ x < 128) (hj : ∀ y, jn x y = none) {A B : List Int} (hC : C32 (A ++ B)) (h0 : ∃ y t, A ++ B = y :: t ∧ ccc y = 0) (h : nfc (A ++ B) = A ++ B) : nfc (A ++ x :: B) = A ++ x :: B := by
  obtain ⟨M, B2, rfl, hM, hB2⟩ := span_marks B
  have step1 : nfc (A ++ M) = A ++ M ∧ nfc B2 = B2 := by
    rcases hB2 with rfl | ⟨b, t, rfl, hb⟩
    · rw [List.append_nil] at h
      exact ⟨h, nfc_nil⟩
    · obtain ⟨c, T, hd, hc⟩ := head_dec hb t
      rw [← List.append_assoc] at h hC
      exact nfc_cut hC hd hc h
  have step2 : nfc A = A ∧ Srt (M.map classed) := by
    cases A with
    | nil =>
      refine ⟨nfc_nil, ?_⟩
      cases M with
      | nil => exact List.Pairwise.nil
      | cons m M =>
        obtain ⟨y, t, e, hy⟩ := h0
        injection e with e1 _
        exact absurd (by rw [e1]; exact hy) (hM m (by simp))
    | cons y t =>
      obtain ⟨y', t', e, hy⟩ := h0
      injection e with e1 _
      refine nfc_drops ⟨y, t, rfl, by rw [e1]; exact hy⟩ M.length M rfl ?_ hM step1.1
      rw [← List.append_assoc] at hC
      exact c32_left hC
  rw [nfc_parts hx, step2.1]
  congr 1
  have hMd : dec M = M.map classed := fix_flat fun m hm => full_mark (hM m hm)
  have hMc : ∀ m ∈ M.map classed, m.2 ≠ 0 := fun m hm => by
    obtain ⟨z, hz, rfl⟩ := List.mem_map.1 hm
    exact hM z hz
  have hsort : isort (M.map classed) = M.map classed := isort_srt_self step2.2
  have e0 : s0.step (x, 0) = ⟨[x], 0, 0⟩ := by
    rw [s0_step]
    unfold St.push s0
    simp
  obtain ⟨l', hrun⟩ := run_marks hj M [] 0 hM
  unfold nfc
  rw [dec_letter hx, arr_starter rfl, dec_append, hMd, comp_run, run_cons, e0]
  rcases hB2 with rfl | ⟨b, t, rfl, hb⟩
  · have e : dec [] = ([] : List C) := rfl
    rw [e, List.append_nil, arr_marks _ _ hMc, List.nil_append, hsort, hrun, List.append_nil]
    rfl
  · obtain ⟨c, T, hd, hc⟩ := head_dec hb t
    have en : nfc (b :: t) = comp (c :: arr [] T) := by unfold nfc; rw [hd, arr_starter hc]
    rw [hd, arr_split _ _ _ _ hc, arr_marks _ _ hMc, List.nil_append, hsort, run_append, hrun, run_cut hc (step_none (s := ⟨x :: [] ++ M, 0, l'⟩) (show jn x c.1 = none from hj _)), ← en, step1.2]
    rfl
theorem tab_dot : tabP.all (fun t => t.2.1 != 46 && t.2.1 != 45) = true := by decide +kernel
theorem jn_dot {x : Int} (h : x = 46 ∨ x = 45) (y : Int) : jn x y = none := by
  unfold jn
  have hs : sylJoin x y = none := by
    unfold sylJoin
    rw [if_neg (by omega), if_neg (by omega)]
  rw [hs]
  show pjN 81 x y = none
  unfold pjN
  rw [Option.map_eq_none_iff, List.find?_eq_none]
  intro t ht
  have := List.all_eq_true.1 tab_dot t (List.mem_of_mem_take ht)
  simp only [Bool.and_eq_true, bne_iff_ne, ne_eq] at this
  simp only [Bool.and_eq_true, beq_iff_eq, not_and]
  intro e
  rcases h with rfl | rfl
  · exact absurd e this.1
  · exact absurd e this.2
theorem mark_tab : (List.range 166).all (fun i => Ucd.g (Ucd.pr i) 3 == 0 || Ucd.g (Ucd.pr i) 0 == 4) = true := by decide +kernel
theorem no_mark {r : Int} (h : Ucd.g (Ucd.of r) 0 ≠ 4) : ccc r = 0 := by
  unfold ccc
  rcases Ucd.of_cases r with ⟨i, hi, _, _, e⟩ | ⟨_, e⟩
  · have := List.all_eq_true.1 mark_tab i (List.mem_range.2 hi)
    rw [e] at h ⊢
    simp only [Bool.or_eq_true, beq_iff_eq] at this
    rcases this with h1 | h1
    · exact h1
    · exact absurd h1 h
  · rw [e]
    rfl
end Go.Proofs.YtenfdnnagijfnaaGreatDoor
