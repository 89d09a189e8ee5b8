/-
  norm, as mathematics: a row that is put together, cut at any place.
-/
import Derived.Test.YtenfdnnagijfnaaGreatDoorNormX
import Derived.Test.YtenfdnnagijfnaaGreatDoorNormRE
namespace Go.Proofs.YtenfdnnagijfnaaGreatDoor
open Go.RowKit Norm

/-! how long a row is once it is taken apart -/
theorem dl_append (a b : List Int) : (dec (a ++ b)).length = (dec a).length + (dec b).length := by rw [dec_append, List.length_append]
theorem dl_pos {a : List Int} (h : a ≠ []) : 0 < (dec a).length := by
  cases a with
  | nil => exact absurd rfl h
  | cons x t =>
    have e : dec (x :: t) = dec1 x ++ dec t := by rw [dec_eq, List.flatMap_cons, ← dec_eq]
    have : 0 < (dec1 x).length := by unfold dec1; rw [List.length_map]; exact full_pos x
    rw [e, List.length_append]
    omega
theorem dl_zero {a : List Int} (h : (dec a).length = 0) : a = [] := Classical.byContradiction fun hne => by have := dl_pos hne; omega
theorem dl_nfc {l : List Int} (hC : C32 l) : (dec (nfc l)).length = (dec l).length := by
  rw [← arr_len (dec (nfc l)), nfc_arr hC, arr_len]
theorem cut_same {X' Y' X Y : List Int} (h : X' ++ Y' = X ++ Y) (hd : (dec X').length = (dec X).length) : X' = X ∧ Y' = Y := by
  rcases List.append_eq_append_iff.1 h with ⟨Z, h1, h2⟩ | ⟨Z, h1, h2⟩
  · have : Z = [] := dl_zero (by rw [h1, dl_append] at hd; omega)
    subst this
    exact ⟨by simpa using h1.symm, by simpa using h2⟩
  · have : Z = [] := dl_zero (by rw [h1, dl_append] at hd; omega)
    subst this
    exact ⟨by simpa using h1, by simpa using h2.symm⟩
theorem c32_left {X Y : List Int} (h : C32 (X ++ Y)) : C32 X := fun x hx => h x (by simp [hx])
theorem c32_right {X Y : List Int} (h : C32 (X ++ Y)) : C32 Y := fun x hx => h x (by simp [hx])

/-! runs -/
def run (L : List C) (s : St) : St := L.foldl St.step s
def s0 : St := ⟨[], -1, 0⟩
theorem run_cons (c : C) (L : List C) (s : St) : run (c :: L) s = run L (s.step c) := rfl
theorem run_append (A B : List C) (s : St) : run (A ++ B) s = run B (run A s) := List.foldl_append
theorem comp_run (L : List C) : comp L = (run L s0).out := rfl
theorem s0_step (c : C) : s0.step c = s0.push c := step_no (fun h => by have := h.1; exact absurd this (by decide))
theorem push_shift {s : St} {c : C} (hc : c.2 = 0) : s.push c = St.shift s.out (s0.push c) := by
  unfold St.push St.shift s0
  simp [hc]
theorem s0_push_ok {c : C} (hc : c.2 = 0) : (s0.push c).ok := by
  unfold St.push St.ok s0
  simp [hc]
theorem run_shift (pre : List Int) (B : List C) {s : St} (h : s.ok) : run B (s.shift pre) = (run B s).shift pre := fold_shift pre B s h
/-- a starter that isn't put together with what stands ahead begins anew -/
theorem run_cut {s : St} {c : C} (hc : c.2 = 0) (h : s.step c = s.push c) (B : List C) : (run (c :: B) s).out = s.out ++ comp (c :: B) := by
  rw [run_cons, h, push_shift hc, run_shift _ _ (s0_push_ok hc), comp_run, run_cons, s0_step]
  rfl
/-- the first one of what is made never gets shorter -/
theorem head_step {N : Nat} {s : St} {c : C} (h : ∃ x t, s.out = x :: t ∧ N ≤ (dec1 x).length) : ∃ x t, (s.step c).out = x :: t ∧ N ≤ (dec1 x).length := by
  obtain ⟨x, t, e, hx⟩ := h
  by_cases hm : s.may c
  · cases hj : jn (s.out.getD s.st.toNat 0) c.1 with
    | none => rw [step_none hj]; exact ⟨x, t ++ [c.1], by unfold St.push; simp [e], hx⟩
    | some r =>
      rw [step_some hm hj]
      dsimp only
      cases hq : s.st.toNat with
      | zero =>
        rw [hq, e] at hj
        refine ⟨r, t, by rw [e]; rfl, ?_⟩
        have hf := (join_full hj).1
        unfold dec1 at hx ⊢
        rw [List.length_map] at hx ⊢
        rw [hf, List.length_append]
        have : (x :: t).getD 0 0 = x := rfl
        rw [this]
        omega
      | succ q => exact ⟨x, t.set q r, by rw [e]; rfl, hx⟩
  · rw [step_no hm]
    exact ⟨x, t ++ [c.1], by unfold St.push; simp [e], hx⟩
theorem head_run {N : Nat} : ∀ (B : List C) (s : St), (∃ x t, s.out = x :: t ∧ N ≤ (dec1 x).length) → ∃ x t, (run B s).out = x :: t ∧ N ≤ (dec1 x).length
  | [], _, h => h
  | c :: B, s, h => head_run B (s.step c) (head_step h)
/-- a row that is put together, cut ahead of a starter -/
theorem nfc_cut {X Y : List Int} {c : C} {T : List C} (hC : C32 (X ++ Y)) (hY : dec Y = c :: T) (hc : c.2 = 0) (h : nfc (X ++ Y) = X ++ Y) : nfc X = X ∧ nfc Y = Y := by
  have hX := c32_left hC
  have e1 : nfc (X ++ Y) = (run (c :: arr [] T) (run (arr [] (dec X)) s0)).out := by
    unfold nfc
    rw [dec_append, hY, arr_split _ _ _ _ hc, comp_run, run_append]
  have e2 : nfc Y = comp (c :: arr [] T) := by unfold nfc; rw [hY, arr_starter hc]
  have hL : (stAt (arr [] (dec X)) (arr [] (dec X)).length) = run (arr [] (dec X)) s0 := by unfold stAt run s0; rw [List.take_length]
  have hK := K_at (L := arr [] (dec X)) (arr_fix hX) (nfd_ordl hX) _ (Nat.le_refl _)
  rw [hL] at hK
  have e3 : nfc X = (run (arr [] (dec X)) s0).out := rfl
  generalize run (arr [] (dec X)) s0 = s at e1 e3 hK
  by_cases hp : s.step c = s.push c
  · rw [run_cut hc hp, ← e3, ← e2, h] at e1
    exact cut_same e1.symm (dl_nfc hX)
  · exfalso
    have hm : s.may c := Classical.byContradiction fun hm => hp (step_no hm)
    cases hj : jn (s.out.getD s.st.toNat 0) c.1 with
    | none => exact hp (step_none hj)
    | some r =>
      rcases hK with ⟨k1, _⟩ | ⟨_, pre, y, post, k1, k2, k3, k4, k5, k6, _⟩
      · exact absurd hm.1 (by omega)
      · have hlast : 0 ≤ s.last := by
          by_cases hpost : post = []
          · rw [k6 hpost]; exact Int.le_refl _
          · obtain ⟨m, _, hm2⟩ := k5 hpost
            rw [← hm2]
            exact ccc_pos m
        have hpost : post = [] := by
          rcases hm.2 with h1 | h1
          · rw [k1, k2, List.length_append, List.length_cons] at h1
            exact List.eq_nil_of_length_eq_zero (by omega)
          · omega
        subst hpost
        have hto : s.st.toNat = pre.length := by omega
        have hy : s.out.getD s.st.toNat 0 = y := by rw [hto, k2, List.getD_eq_getElem?_getD, List.getElem?_append_right (Nat.le_refl _), Nat.sub_self]; rfl
        rw [hy] at hj
        have hst : s.step c = St.shift pre ⟨[r], 0, s.last⟩ := by
          rw [step_some hm (by rw [hy]; exact hj)]
          unfold St.shift
          dsimp only
          rw [hto, k2, List.set_append_right _ _ (Nat.le_refl _), Nat.sub_self, List.set_cons_zero, k1]
          simp
        have hok : St.ok ⟨[r], 0, s.last⟩ := by unfold St.ok; simp
        rw [run_cons, hst, run_shift _ _ hok] at e1
        have hfr : (dec1 r).length = (dec1 y).length + 1 := by
          unfold dec1
          rw [List.length_map, List.length_map, (join_full hj).1, List.length_append]
          rfl
        obtain ⟨x, t, hx, hxl⟩ := head_run (N := (dec1 r).length) (arr [] T) ⟨[r], 0, s.last⟩ ⟨r, [], rfl, Nat.le_refl _⟩
        have e4 : X ++ Y = pre ++ x :: t := by
          rw [← h, e1]
          show pre ++ _ = _
          rw [hx]
        have dX : (dec X).length = (dec pre).length + (dec1 y).length := by
          rw [← dl_nfc hX, e3, k2, dl_append]
          congr 1
          rw [dec_eq, List.flatMap_cons, List.flatMap_nil, List.append_nil]
        have py : 0 < (dec1 y).length := by unfold dec1; rw [List.length_map]; exact full_pos y
        rcases List.append_eq_append_iff.1 e4 with ⟨Z, z1, z2⟩ | ⟨Z, z1, z2⟩
        · rw [z1, dl_append] at dX
          omega
        · cases Z with
          | nil =>
            rw [List.append_nil] at z1
            rw [z1] at dX
            omega
          | cons z Z =>
            rw [List.cons_append] at z2
            injection z2 with z3 z4
            subst z3
            have e5 : (dec (pre ++ x :: Z)).length = (dec pre).length + ((dec1 x).length + (dec Z).length) := by
              rw [dl_append]
              congr 1
              rw [dec_eq, List.flatMap_cons, List.length_append, ← dec_eq]
            rw [z1, e5] at dX
            omega
end Go.Proofs.YtenfdnnagijfnaaGreatDoor
