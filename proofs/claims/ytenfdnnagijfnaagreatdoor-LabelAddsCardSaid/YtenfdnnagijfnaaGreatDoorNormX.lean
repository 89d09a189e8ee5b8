/-
  norm: a row cut ahead of a plain letter, as mathematics.
-/
import Derived.Test.YtenfdnnagijfnaaGreatDoorNormW
namespace Go.Proofs.YtenfdnnagijfnaaGreatDoor
open Go.RowKit Norm

theorem dec_append (a b : List Int) : dec (a ++ b) = dec a ++ dec b := by rw [dec_eq, dec_eq, dec_eq, List.flatMap_append]
theorem arr_cons (acc : List C) (c : C) (t : List C) : arr acc (c :: t) = if c.2 = 0 then isort acc ++ c :: arr [] t else arr (acc ++ [c]) t := by rw [arr]
theorem arr_nil (acc : List C) : arr acc [] = isort acc := by rw [arr]
theorem arr_split : ∀ (A acc : List C) (c : C) (B : List C), c.2 = 0 → arr acc (A ++ c :: B) = arr acc A ++ c :: arr [] B
  | [], acc, c, B, h => by rw [List.nil_append, arr_cons, if_pos h, arr_nil]
  | a :: t, acc, c, B, h => by
    rw [List.cons_append, arr_cons, arr_cons]
    split
    · rw [arr_split t [] c B h]; simp
    · exact arr_split t (acc ++ [a]) c B h
theorem arr_starter {c : C} {B : List C} (h : c.2 = 0) : arr [] (c :: B) = c :: arr [] B := by
  have := arr_split [] [] c B h
  rw [List.nil_append] at this
  rw [this]
  rfl
theorem dec_letter {x : Int} (h : 0 ≤ x ∧ x < 128) (o : List Int) : dec (x :: o) = (x, 0) :: dec o := by
  obtain ⟨h1, h2⟩ := ascii_ok x h
  rw [dec_eq, List.flatMap_cons]
  unfold dec1
  rw [h1]
  simp [classed, h2, dec]
theorem arr_parts {x : Int} (h : 0 ≤ x ∧ x < 128) (l o : List Int) : arr [] (dec (l ++ x :: o)) = arr [] (dec l) ++ arr [] (dec (x :: o)) := by
  rw [dec_append, dec_letter h, arr_split _ _ _ _ rfl, arr_starter rfl]
theorem nfd_parts {x : Int} (h : 0 ≤ x ∧ x < 128) (l o : List Int) : nfd (l ++ x :: o) = nfd l ++ nfd (x :: o) := by
  unfold nfd
  rw [arr_parts h, List.map_append]
def St.shift (pre : List Int) (s : St) : St := ⟨pre ++ s.out, (pre.length : Int) + s.st, s.last⟩
def St.ok (s : St) : Prop := 0 ≤ s.st ∧ s.st < s.out.length
theorem push_ok {s : St} {c : C} (h : s.ok) : (s.push c).ok := by
  obtain ⟨h1, h2⟩ := h
  unfold St.ok St.push
  dsimp only
  rw [List.length_append, List.length_singleton]
  split <;> omega
theorem step_ok {s : St} {c : C} (h : s.ok) : (s.step c).ok := by
  by_cases hm : s.may c
  · cases hj : jn (s.out.getD s.st.toNat 0) c.1 with
    | none => rw [step_none hj]; exact push_ok h
    | some r => rw [step_some hm hj]; unfold St.ok at h ⊢; dsimp only; rw [List.length_set]; exact h
  · rw [step_no hm]; exact push_ok h
theorem shift_push {pre : List Int} {s : St} {c : C} : (s.shift pre).push c = (s.push c).shift pre := by
  unfold St.shift St.push
  dsimp only
  rw [List.append_assoc, List.length_append]
  split
  · rw [Int.natCast_add]
  · rfl
theorem shift_step {pre : List Int} {s : St} {c : C} (h : s.ok) : (s.shift pre).step c = (s.step c).shift pre := by
  obtain ⟨h1, h2⟩ := h
  have hmay : (s.shift pre).may c ↔ s.may c := by
    unfold St.may St.shift
    dsimp only
    rw [List.length_append]
    constructor
    · rintro ⟨_, h | h⟩
      · exact ⟨h1, .inl (by omega)⟩
      · exact ⟨h1, .inr h⟩
    · rintro ⟨_, h | h⟩
      · exact ⟨by omega, .inl (by omega)⟩
      · exact ⟨by omega, .inr h⟩
  have hto : ((pre.length : Int) + s.st).toNat = pre.length + s.st.toNat := by omega
  have hget : (s.shift pre).out.getD (s.shift pre).st.toNat 0 = s.out.getD s.st.toNat 0 := by
    unfold St.shift
    dsimp only
    rw [hto, List.getD_eq_getElem?_getD, List.getD_eq_getElem?_getD, List.getElem?_append_right (by omega), Nat.add_sub_cancel_left]
  by_cases hm : s.may c
  · cases hj : jn (s.out.getD s.st.toNat 0) c.1 with
    | none => rw [step_none hj, step_none (by rw [hget]; exact hj), shift_push]
    | some r =>
      rw [step_some hm hj, step_some (hmay.2 hm) (by rw [hget]; exact hj)]
      unfold St.shift
      dsimp only
      rw [hto, List.set_append_right _ _ (by omega), Nat.add_sub_cancel_left]
  · rw [step_no hm, step_no (fun h => hm (hmay.1 h)), shift_push]
theorem fold_shift (pre : List Int) : ∀ (B : List C) (s : St), s.ok → B.foldl St.step (s.shift pre) = (B.foldl St.step s).shift pre
  | [], _, _ => rfl
  | c :: t, s, h => by rw [List.foldl_cons, List.foldl_cons, shift_step h, fold_shift pre t _ (step_ok h)]
theorem comp_parts {x : Int} (hx : x < 768) (A B : List C) : comp (A ++ (x, 0) :: B) = comp A ++ comp ((x, 0) :: B) := by
  unfold comp
  rw [List.foldl_append, List.foldl_cons, List.foldl_cons, step_none (jn_low hx), step_none (jn_low hx)]
  have e1 : (A.foldl St.step ⟨[], -1, 0⟩).push (x, 0) = St.shift (A.foldl St.step ⟨[], -1, 0⟩).out ⟨[x], 0, 0⟩ := by
    unfold St.push St.shift
    simp
  have e2 : St.push ⟨[], -1, 0⟩ (x, 0) = ⟨[x], 0, 0⟩ := by
    unfold St.push
    simp
  rw [e1, e2, fold_shift _ _ _ (by unfold St.ok; simp)]
  rfl
theorem nfc_parts {x : Int} (h : 0 ≤ x ∧ x < 128) (l o : List Int) : nfc (l ++ x :: o) = nfc l ++ nfc (x :: o) := by
  unfold nfc
  rw [arr_parts h, dec_letter h, arr_starter rfl, comp_parts (by omega)]
end Go.Proofs.YtenfdnnagijfnaaGreatDoor
