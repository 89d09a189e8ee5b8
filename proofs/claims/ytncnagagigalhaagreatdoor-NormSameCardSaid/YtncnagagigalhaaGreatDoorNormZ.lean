/-
  norm: put together and taken apart it is as taken apart at once: as mathematics.
-/
import Derived.Test.YtncnagagigalhaaGreatDoorNormW
import Derived.Test.YtncnagagigalhaaGreatDoorNormY
namespace Go.Proofs.YtncnagagigalhaaGreatDoor
open Go.RowKit Norm

/-! rows that are the same, wherever they stand, once in order -/
def E2 (A B : List C) : Prop := ∀ acc S, arr acc (A ++ S) = arr acc (B ++ S)
theorem arrC (acc : List C) (c : C) (t : List C) : arr acc (c :: t) = if c.2 = 0 then isort acc ++ c :: arr [] t else arr (acc ++ [c]) t := by rw [arr]
theorem E2.refl (A : List C) : E2 A A := fun _ _ => rfl
theorem E2.symm {A B : List C} (h : E2 A B) : E2 B A := fun a s => (h a s).symm
theorem E2.trans {A B D : List C} (h : E2 A B) (k : E2 B D) : E2 A D := fun a s => (h a s).trans (k a s)
theorem E2.right {A B : List C} (h : E2 A B) (Y : List C) : E2 (A ++ Y) (B ++ Y) := fun a s => by rw [List.append_assoc, List.append_assoc]; exact h a (Y ++ s)
theorem E2.left {A B : List C} (h : E2 A B) : ∀ P : List C, E2 (P ++ A) (P ++ B)
  | [] => h
  | c :: P => fun acc S => by
    have ih := E2.left h P
    rw [List.cons_append, List.cons_append, List.cons_append, List.cons_append, arrC, arrC]
    split
    · rw [ih [] S]
    · exact ih (acc ++ [c]) S
theorem E2.arr {A B : List C} (h : E2 A B) : arr [] A = arr [] B := by
  have := h [] []
  rwa [List.append_nil, List.append_nil] at this
theorem e2_stb {T T' : List C} (h : ∀ x ∈ T, isSt x = false) (h' : ∀ x ∈ T', isSt x = false) (hs : Stb T T') : E2 T T' := fun acc S => by
  have e : ∀ (M : List C), (∀ x ∈ M, isSt x = false) → arr acc (M ++ S) = arr (acc ++ M) S := fun M hM => by
    rw [arr_acc M.length (M ++ S) acc (by simp) (by simpa using hM)]
    simp
  rw [e T h, e T' h']
  exact arr_stb S _ _ ((Stb.refl acc).append hs)
theorem e2_isort {T : List C} (h : ∀ x ∈ T, isSt x = false) : E2 T (isort T) := e2_stb h (fun x hx => h x ((mem_isort T x).1 hx)) (isort_stb T)
theorem e2_arr : ∀ (n : Nat) (A : List C), A.length ≤ n → E2 A (arr [] A)
  | n, A, hn => by
    rcases cut_st A with h | ⟨T, c, S, rfl, h, hc⟩
    · rw [arr_none h]
      exact e2_isort h
    · rw [arr_hit h hc]
      cases n with
      | zero => simp at hn
      | succ n =>
        have ih := e2_arr n S (by simp at hn; omega)
        have h1 := (e2_isort h).right (c :: S)
        have h2 := ih.left (isort T ++ [c])
        simp only [List.append_assoc, List.cons_append, List.nil_append] at h2
        exact h1.trans h2
theorem arr_idem (A : List C) : arr [] (arr [] A) = arr [] A := (e2_arr A.length A (Nat.le_refl _)).arr.symm
theorem e2_swap {x y : C} (hx : x.2 ≠ 0) (hy : y.2 ≠ 0) (h : x.2 ≠ y.2) : E2 [x, y] [y, x] := fun acc S => by
  have := arr_swap hx hy h S [] acc
  simpa using this
theorem e2_move {c : C} : ∀ M : List C, (∀ m ∈ M, m.2 ≠ 0 ∧ m.2 ≠ c.2 ∧ c.2 ≠ 0) → E2 (c :: M) (M ++ [c])
  | [], _ => E2.refl _
  | m :: M, h => by
    obtain ⟨h1, h2, h3⟩ := h m (by simp)
    have a := (e2_swap h3 h1 (Ne.symm h2)).right M
    have b := (e2_move M (fun x hx => h x (by simp [hx]))).left [m]
    exact a.trans b

/-! a row in order, of those that are made of none other -/
def Fix (L : List C) : Prop := ∀ x ∈ L, full x.1 = [x.1] ∧ x.2 = ccc x.1
theorem fix_dec1 {x : C} (h : full x.1 = [x.1] ∧ x.2 = ccc x.1) : dec1 x.1 = [x] := by
  unfold dec1
  rw [h.1]
  show [(x.1, ccc x.1)] = [x]
  rw [← h.2]
theorem fix_dec : ∀ {L : List C}, Fix L → dec (L.map (·.1)) = L
  | [], _ => rfl
  | x :: t, h => by
    have := fix_dec (L := t) (fun y hy => h y (by simp [hy]))
    rw [dec_eq] at this ⊢
    rw [List.map_cons, List.flatMap_cons, this, fix_dec1 (h x (by simp))]
    rfl
theorem nfd_arr {l : List Int} (hC : C32 l) : arr [] (dec (nfd l)) = arr [] (dec l) := by
  unfold nfd
  rw [fix_dec (arr_fix hC), arr_idem]
theorem nfd_nfd {l : List Int} (hC : C32 l) : nfd (nfd l) = nfd l := by
  show (arr [] (dec (nfd l))).map (·.1) = (arr [] (dec l)).map (·.1)
  rw [nfd_arr hC]
theorem nfc_nfd {l : List Int} (hC : C32 l) : nfc (nfd l) = nfc l := by
  show comp (arr [] (dec (nfd l))) = comp (arr [] (dec l))
  rw [nfd_arr hC]

/-! compose -/
def J (L : List C) (k : Nat) (s : St) : Prop :=
  E2 (dec s.out) (L.take k) ∧ (s.st = -1 ∨ (0 < k ∧ ∃ pre y post, s.st = (pre.length : Int) ∧ s.out = pre ++ y :: post ∧ (∀ m ∈ post, full m = [m] ∧ ccc m ≠ 0 ∧ ccc m ≤ s.last) ∧ (post = [] → s.last = 0) ∧ s.last ≤ L[k - 1]!.2))
theorem J_push {L : List C} (hF : Fix L) (hO : Ordl L) {k : Nat} (hk : k < L.length) {s : St} (h : J L k s) : J L (k + 1) (s.push L[k]!) := by
  obtain ⟨h1, h2⟩ := h
  have hm : L[k]! ∈ L := by rw [getElem!_pos L k hk]; exact List.getElem_mem hk
  have hf := hF _ hm
  have ht : L.take (k + 1) = L.take k ++ [L[k]!] := by rw [List.take_add_one, List.getElem?_eq_getElem hk, getElem!_pos L k hk]; rfl
  have hpos : 0 ≤ L[k]!.2 := by rw [hf.2]; exact ccc_pos _
  have hrise : 0 < k → L[k]!.2 ≠ 0 → L[k - 1]!.2 ≤ L[k]!.2 := fun h0 hne => by
    have := ordl_at (k - 1) hO (by omega) (by rw [show k - 1 + 1 = k from by omega]; exact hne)
    rwa [show k - 1 + 1 = k from by omega] at this
  have hlast : L[k + 1 - 1]! = L[k]! := by rw [Nat.add_sub_cancel]
  generalize L[k]! = c at hf ht hpos hrise hlast
  refine ⟨?_, ?_⟩
  · show E2 (dec (s.out ++ [c.1])) _
    rw [ht, dec_eq, List.flatMap_append, ← dec_eq]
    have e : [c.1].flatMap dec1 = [c] := by simpa using fix_dec1 hf
    rw [e]
    exact h1.right [c]
  · by_cases hc : c.2 = 0
    · refine .inr ⟨by omega, s.out, c.1, [], ?_, rfl, by simp, fun _ => hc, ?_⟩
      · unfold St.push; simp [hc]
      · rw [hlast]; exact Int.le_refl _
    · rcases h2 with h2 | ⟨h0, pre, y, post, e1, e2, e3, e4, e5⟩
      · left
        unfold St.push
        simp [hc, h2]
      · right
        refine ⟨by omega, pre, y, post ++ [c.1], ?_, ?_, ?_, by simp, ?_⟩
        · unfold St.push; simp [hc, e1]
        · unfold St.push; simp [e2]
        · intro m hm
          have hle := hrise h0 hc
          rcases List.mem_append.1 hm with hm | hm
          · obtain ⟨a, b, d⟩ := e3 m hm
            refine ⟨a, b, ?_⟩
            show ccc m ≤ c.2
            omega
          · rw [List.mem_singleton] at hm
            subst hm
            refine ⟨hf.1, by rw [← hf.2]; exact hc, ?_⟩
            show ccc c.1 ≤ c.2
            rw [← hf.2]
            exact Int.le_refl _
        · rw [hlast]; exact Int.le_refl _
theorem fix_flat : ∀ {post : List Int}, (∀ m ∈ post, full m = [m]) → dec post = post.map classed
  | [], _ => rfl
  | x :: t, h => by
    have := fix_flat (post := t) (fun y hy => h y (by simp [hy]))
    rw [dec_eq] at this ⊢
    rw [List.flatMap_cons, this]
    unfold dec1
    rw [h x (by simp)]
    rfl
theorem J_step {L : List C} (hF : Fix L) (hO : Ordl L) {k : Nat} (hk : k < L.length) {s : St} (h : J L k s) : J L (k + 1) (s.step L[k]!) := by
  by_cases hm : s.may L[k]!
  · cases hj : jn (s.out.getD s.st.toNat 0) (L[k]!).1 with
    | none => rw [step_none hj]; exact J_push hF hO hk h
    | some r =>
      rw [step_some hm hj]
      obtain ⟨h1, h2⟩ := h
      have hmem : L[k]! ∈ L := by rw [getElem!_pos L k hk]; exact List.getElem_mem hk
      have hf := hF _ hmem
      have ht : L.take (k + 1) = L.take k ++ [L[k]!] := by rw [List.take_add_one, List.getElem?_eq_getElem hk, getElem!_pos L k hk]; rfl
      have hpos : 0 ≤ L[k]!.2 := by rw [hf.2]; exact ccc_pos _
      have hlast : L[k + 1 - 1]! = L[k]! := by rw [Nat.add_sub_cancel]
      generalize L[k]! = c at hf ht hpos hlast hm hj
      rcases h2 with h2 | ⟨h0, pre, y, post, e1, e2, e3, e4, e5⟩
      · exact absurd hm.1 (by omega)
      · have hto : s.st.toNat = pre.length := by omega
        have hy : s.out.getD s.st.toNat 0 = y := by rw [hto, e2, List.getD_eq_getElem?_getD, List.getElem?_append_right (Nat.le_refl _), Nat.sub_self]; rfl
        rw [hy] at hj
        have hjf := (join_full hj).1
        have hset : s.out.set s.st.toNat r = pre ++ r :: post := by rw [hto, e2, List.set_append_right _ _ (Nat.le_refl _), Nat.sub_self, List.set_cons_zero]
        have hmarks : post ≠ [] → s.last < c.2 := fun hne => by
          rcases hm.2 with hq | hq
          · exfalso
            rw [e1, e2, List.length_append, List.length_cons] at hq
            have : post.length ≠ 0 := fun e => hne (List.eq_nil_of_length_eq_zero e)
            omega
          · exact hq
        refine ⟨?_, .inr ⟨by omega, pre, r, post, e1, hset, e3, e4, ?_⟩⟩
        · show E2 (dec (s.out.set s.st.toNat r)) _
          rw [hset, ht]
          have d1 : dec1 r = dec1 y ++ [c] := by
            unfold dec1
            rw [hjf, List.map_append]
            congr 1
            show [(c.1, ccc c.1)] = [c]
            rw [← hf.2]
          have dnew : dec (pre ++ r :: post) = dec pre ++ dec1 y ++ (c :: dec post) := by
            rw [dec_eq, dec_eq, dec_eq, List.flatMap_append, List.flatMap_cons, d1]
            simp
          have dold : dec s.out = dec pre ++ dec1 y ++ dec post := by
            rw [e2, dec_eq, dec_eq, dec_eq, List.flatMap_append, List.flatMap_cons]
            simp
          have hmove : E2 (c :: dec post) (dec post ++ [c]) := by
            refine e2_move _ fun m hm2 => ?_
            rw [fix_flat (fun m hm3 => (e3 m hm3).1)] at hm2
            obtain ⟨z, hz, rfl⟩ := List.mem_map.1 hm2
            obtain ⟨_, b, d⟩ := e3 z hz
            have hl := hmarks (List.ne_nil_of_mem hz)
            have hp := ccc_pos z
            show ccc z ≠ 0 ∧ ccc z ≠ c.2 ∧ c.2 ≠ 0
            omega
          rw [dnew]
          refine (hmove.left (dec pre ++ dec1 y)).trans ?_
          rw [← List.append_assoc, ← dold]
          exact h1.right [c]
        · rw [hlast]
          show s.last ≤ c.2
          rcases Decidable.em (post = []) with hp | hp
          · rw [e4 hp]; exact hpos
          · exact Int.le_of_lt (hmarks hp)
  · rw [step_no hm]; exact J_push hF hO hk h
theorem J_at {L : List C} (hF : Fix L) (hO : Ordl L) : ∀ k, k ≤ L.length → J L k (stAt L k)
  | 0, _ => ⟨by show E2 (dec []) _; exact E2.refl _, .inl rfl⟩
  | k + 1, hk => by
    have h := J_step hF hO (show k < L.length by omega) (J_at hF hO k (by omega))
    rw [stAt_succ (by omega)]
    rwa [getElem!_pos L k (by omega)] at h
theorem nfc_arr {l : List Int} (hC : C32 l) : arr [] (dec (nfc l)) = arr [] (dec l) := by
  have h := (J_at (L := arr [] (dec l)) (arr_fix hC) (nfd_ordl hC) _ (Nat.le_refl _)).1
  rw [List.take_length, ← comp_at] at h
  have e := h.arr
  rw [arr_idem] at e
  exact e
theorem nfd_nfc {l : List Int} (hC : C32 l) : nfd (nfc l) = nfd l := by
  show (arr [] (dec (nfc l))).map (·.1) = (arr [] (dec l)).map (·.1)
  rw [nfc_arr hC]
theorem nfc_nfc {l : List Int} (hC : C32 l) : nfc (nfc l) = nfc l := by
  show comp (arr [] (dec (nfc l))) = comp (arr [] (dec l))
  rw [nfc_arr hC]
theorem same_iff {l o : List Int} (hl : C32 l) (ho : C32 o) : nfd l = nfd o ↔ nfc l = nfc o := by
  constructor
  · intro h
    rw [← nfc_nfd hl, ← nfc_nfd ho, h]
  · intro h
    rw [← nfd_nfc hl, ← nfd_nfc ho, h]
theorem nfc_le {l : List Int} (hC : C32 l) : (nfc l).length ≤ (nfd l).length := by
  rw [nfd_len, ← arr_len]
  exact comp_len_le _ (arr_w2 (dec_w2 hC))
theorem nfd_c32 {l : List Int} (hC : C32 l) : C32 (nfd l) := by
  intro x hx
  obtain ⟨c, hc, rfl⟩ := List.mem_map.1 hx
  exact arr_w2 (dec_w2 hC) c hc
theorem nfc_c32 {l : List Int} (hC : C32 l) : C32 (nfc l) := by
  unfold nfc
  rw [comp_at]
  exact (stAt_inv (arr_w2 (dec_w2 hC)) _ (Nat.le_refl _)).2.2
end Go.Proofs.YtncnagagigalhaaGreatDoor
