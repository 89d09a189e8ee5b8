/-
  norm: what is taken apart is made of none other; classes fall at starters alone; two marks of unlike classes may change places: as mathematics.
-/
import Derived.Test.YtncnagagigalhaaGreatDoorNormU
namespace Go.Proofs.YtncnagagigalhaaGreatDoor
open Go.RowKit Norm

/-! what is taken apart is made of none other -/
theorem second_ok : tabP.all (fun t => full t.2.2 == [t.2.2]) = true := by decide +kernel
theorem jamo_ok : (List.range 195).all (fun i => !(decide (97 ≤ i ∧ i < 118) || decide (168 ≤ i ∧ i < 195)) || full (4352 + (i : Int)) == [4352 + (i : Int)]) = true := by decide +kernel
theorem spl_second {r : Int} {p : Int × Int} (h : spl r = some p) : full p.2 = [p.2] := by
  unfold spl at h
  split at h
  · rename_i hs
    have hr : 44032 ≤ r ∧ r ≤ 55203 := by simpa [syl] using hs
    have hp : p.2 = (sylParts r).2 := by cases h; rfl
    have hb : (4449 ≤ p.2 ∧ p.2 < 4470) ∨ (4520 ≤ p.2 ∧ p.2 < 4547) := by
      rw [hp]
      unfold sylParts
      split <;> (dsimp only; omega)
    obtain ⟨i, hi⟩ : ∃ i : Nat, p.2 = 4352 + (i : Int) := ⟨(p.2 - 4352).toNat, by omega⟩
    have := List.all_eq_true.1 jamo_ok i (List.mem_range.2 (by omega))
    rw [hi]
    simp only [Bool.or_eq_true, Bool.not_eq_true', Bool.or_eq_false_iff, decide_eq_false_iff_not, beq_iff_eq] at this
    rcases this with h1 | h1
    · omega
    · exact h1
  · unfold pairR at h
    rw [Option.map_eq_some_iff] at h
    obtain ⟨t, ht, rfl⟩ := h
    have := List.all_eq_true.1 second_ok t (List.mem_of_find?_eq_some ht)
    simpa using this
theorem full_fix : ∀ k r, ends k r → ∀ y ∈ fullN k r, full y = [y]
  | 0, _, h => h.elim
  | k + 1, r, h => by
    unfold ends at h
    obtain ⟨_, _, h⟩ := h
    unfold fullN
    by_cases h1 : r = 9001
    · rw [if_pos h1] at h ⊢
      exact full_fix k _ h
    · by_cases h2 : r = 9002
      · rw [if_neg h1, if_pos h2] at h ⊢
        exact full_fix k _ h
      · rw [if_neg h1, if_neg h2] at h ⊢
        cases hs : spl r with
        | none =>
          intro y hy
          rw [List.mem_singleton] at hy
          rw [hy]
          exact full_same h1 h2 hs
        | some p =>
          rw [hs] at h
          intro y hy
          rcases List.mem_append.1 hy with hy | hy
          · exact full_fix k _ h y hy
          · rw [List.mem_singleton] at hy
            rw [hy]
            exact spl_second hs
theorem dec_fix {l : List Int} (hC : C32 l) : ∀ x ∈ dec l, full x.1 = [x.1] ∧ x.2 = ccc x.1 := by
  intro x hx
  obtain ⟨r, hr, hx⟩ := List.mem_flatMap.1 hx
  obtain ⟨y, hy, rfl⟩ := List.mem_map.1 hx
  exact ⟨full_fix 4 r (ends_any (hC r hr).1 (hC r hr).2) y hy, rfl⟩
theorem arr_fix {l : List Int} (hC : C32 l) : ∀ x ∈ arr [] (dec l), full x.1 = [x.1] ∧ x.2 = ccc x.1 := fun x hx => dec_fix hC x (by simpa using (mem_arr (dec l) [] x).1 hx)

/-! classes fall at starters alone -/
theorem tab_pos : (List.range 166).all (fun i => decide (0 ≤ Ucd.g (Ucd.pr i) 3)) = true := by decide +kernel
theorem ccc_pos (r : Int) : 0 ≤ ccc r := by
  unfold ccc Ucd.of
  split
  · rename_i h
    have hi : Ucd.idx r < 166 := by
      rcases Nat.lt_or_ge (Ucd.idx r) 166 with h1 | h1
      · exact h1
      · exfalso
        unfold Ucd.inTab at h
        simp at h
        omega
    have := List.all_eq_true.1 tab_pos _ (List.mem_range.2 hi)
    simpa using this
  · decide
def Ordl : List C → Prop
  | [] => True
  | [_] => True
  | x :: y :: t => (y.2 ≠ 0 → x.2 ≤ y.2) ∧ Ordl (y :: t)
theorem ordl_at : ∀ {l : List C} (i : Nat), Ordl l → i + 1 < l.length → l[i + 1]!.2 ≠ 0 → l[i]!.2 ≤ l[i + 1]!.2
  | x :: y :: t, 0, h, _, hne => by simpa using h.1 (by simpa using hne)
  | x :: y :: t, i + 1, h, hl, hne => by
    have := ordl_at (l := y :: t) i h.2 (by simpa using hl) (by simpa using hne)
    simpa using this
theorem ordl_srt : ∀ {A B : List C}, Srt A → Ordl B → (∀ b ∈ B.head?, b.2 = 0) → Ordl (A ++ B)
  | [], B, _, h, _ => h
  | [x], [], _, _, _ => trivial
  | [x], b :: t, _, h, hb => ⟨fun hne => absurd (hb b rfl) hne, h⟩
  | x :: y :: A, B, hs, h, hb => by
    have h1 := List.pairwise_cons.1 hs
    exact ⟨fun _ => h1.1 y (by simp), ordl_srt h1.2 h hb⟩
theorem ordl_cons {c : C} {B : List C} (h : Ordl B) (hc : c.2 = 0) (hp : ∀ b ∈ B, 0 ≤ b.2) : Ordl (c :: B) := by
  cases B with
  | nil => trivial
  | cons b t => exact ⟨fun _ => by rw [hc]; exact hp b (by simp), h⟩
theorem arr_ordl : ∀ (l acc : List C), (∀ x ∈ l, 0 ≤ x.2) → Ordl (arr acc l)
  | [], acc, _ => by
    rw [arr]
    have := ordl_srt (A := isort acc) (B := []) (isort_srt acc) trivial (by simp)
    rwa [List.append_nil] at this
  | c :: t, acc, h => by
    rw [arr]
    have ht : ∀ x ∈ t, 0 ≤ x.2 := fun x hx => h x (by simp [hx])
    split
    · rename_i hc
      refine ordl_srt (isort_srt acc) (ordl_cons (arr_ordl t [] ht) hc fun b hb => ht b (by simpa using (mem_arr t [] b).1 hb)) ?_
      intro b hb
      simp at hb
      rw [← hb]
      exact hc
    · exact arr_ordl t (acc ++ [c]) ht
theorem nfd_ordl {l : List Int} (hC : C32 l) : Ordl (arr [] (dec l)) := arr_ordl _ _ fun x hx => by rw [(dec_fix hC x hx).2]; exact ccc_pos _

/-! two marks beside one another -/
theorem whole_0 : tabP.all (fun t => ccc t.1 == 0) = true := by decide +kernel
theorem ccc_9001 : ccc 9001 = 0 := by decide +kernel
theorem ccc_9002 : ccc 9002 = 0 := by decide +kernel
theorem hangul_row : (List.range 166).any (fun i => decide (Ucd.fr i ≤ 44032) && decide (55203 ≤ Ucd.to i) && Ucd.g (Ucd.pr i) 3 == 0) = true := by decide +kernel
theorem ccc_syl {r : Int} (h : 44032 ≤ r ∧ r ≤ 55203) : ccc r = 0 := by
  obtain ⟨i, hi, hc⟩ := List.any_eq_true.1 hangul_row
  simp only [Bool.and_eq_true, decide_eq_true_eq, beq_iff_eq] at hc
  unfold ccc
  rw [(Ucd.of_row (List.mem_range.1 hi) (by omega) (by omega)).2]
  exact hc.2
theorem full_mark {r : Int} (h : ccc r ≠ 0) : full r = [r] := by
  have h1 : r ≠ 9001 := fun e => h (by rw [e]; exact ccc_9001)
  have h2 : r ≠ 9002 := fun e => h (by rw [e]; exact ccc_9002)
  refine full_same h1 h2 ?_
  unfold spl
  split
  · rename_i hs
    exact absurd (ccc_syl (by simpa [syl] using hs)) h
  · cases hp : pairR r with
    | none => rfl
    | some p =>
      exfalso
      unfold pairR at hp
      rw [Option.map_eq_some_iff] at hp
      obtain ⟨t, ht, _⟩ := hp
      have e := List.find?_some ht
      have := List.all_eq_true.1 whole_0 t (List.mem_of_find?_eq_some ht)
      simp only [beq_iff_eq] at e this
      rw [e] at this
      exact h this
theorem arr_stb : ∀ (l acc acc' : List C), Stb acc acc' → arr acc l = arr acc' l
  | [], acc, acc', h => by rw [arr, arr]; exact isort_of (isort_srt acc) (h.symm.trans (isort_stb acc))
  | c :: t, acc, acc', h => by
    rw [arr, arr]
    have e : isort acc = isort acc' := isort_of (isort_srt acc) (h.symm.trans (isort_stb acc))
    split
    · rw [e]
    · exact arr_stb t _ _ (h.append (Stb.refl [c]))
theorem stb_pair {x y : C} (h : x.2 ≠ y.2) : Stb [x, y] [y, x] := by
  intro c
  simp only [List.filter_cons, List.filter_nil, beq_iff_eq]
  by_cases h1 : x.2 = c
  · have h2 : y.2 ≠ c := fun e => h (h1.trans e.symm)
    simp [h1, h2]
  · simp [h1]
theorem arr_swap {x y : C} (hx : x.2 ≠ 0) (hy : y.2 ≠ 0) (h : x.2 ≠ y.2) (B : List C) : ∀ (A acc : List C), arr acc (A ++ x :: y :: B) = arr acc (A ++ y :: x :: B)
  | [], acc => by
    have ec : ∀ (acc : List C) (c : C) (t : List C), arr acc (c :: t) = if c.2 = 0 then isort acc ++ c :: arr [] t else arr (acc ++ [c]) t := fun acc c t => by rw [arr]
    rw [List.nil_append, List.nil_append, ec, if_neg hx, ec, if_neg hy, ec acc, if_neg hy, ec _ x, if_neg hx]
    refine arr_stb B _ _ ?_
    rw [List.append_assoc, List.append_assoc]
    exact (Stb.refl acc).append (stb_pair h)
  | c :: A, acc => by
    have ec : ∀ (acc : List C) (c : C) (t : List C), arr acc (c :: t) = if c.2 = 0 then isort acc ++ c :: arr [] t else arr (acc ++ [c]) t := fun acc c t => by rw [arr]
    rw [List.cons_append, List.cons_append, ec, ec]
    split
    · rw [arr_swap hx hy h B A []]
    · exact arr_swap hx hy h B A (acc ++ [c])
theorem nfc_swap {x y : Int} (hx : ccc x ≠ 0) (hy : ccc y ≠ 0) (h : ccc x ≠ ccc y) (A B : List Int) : nfc (A ++ x :: y :: B) = nfc (A ++ y :: x :: B) := by
  have e : ∀ r, ccc r ≠ 0 → dec1 r = [(r, ccc r)] := fun r hr => by unfold dec1; rw [full_mark hr]; rfl
  have d : ∀ a b, ccc a ≠ 0 → ccc b ≠ 0 → dec (A ++ a :: b :: B) = dec A ++ (a, ccc a) :: (b, ccc b) :: dec B := fun a b ha hb => by
    rw [dec_eq, dec_eq, dec_eq, List.flatMap_append, List.flatMap_cons, List.flatMap_cons, e a ha, e b hb]
    rfl
  unfold nfc
  rw [d x y hx hy, d y x hy hx, arr_swap (x := (x, ccc x)) (y := (y, ccc y)) hx hy h]
end Go.Proofs.YtncnagagigalhaaGreatDoor
