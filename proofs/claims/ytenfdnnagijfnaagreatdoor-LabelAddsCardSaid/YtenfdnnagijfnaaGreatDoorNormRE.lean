/-
  Mathematics for fasciaref05's NFD and NFC: changing two that stand beside one another, and looking back for a starter.
-/
import Derived.Test.YtenfdnnagijfnaaGreatDoorNormZ
namespace Go.Proofs.YtenfdnnagijfnaaGreatDoor
open Go.RowKit Norm

/-! NFD: two that change places -/
/-- how many pairs stand in the wrong order -/
def inv : List Int → Nat
  | [] => 0
  | x :: t => t.countP (fun y => decide (ccc y ≠ 0 ∧ ccc y < ccc x)) + inv t
theorem inv_swap {x y : Int} (h0 : ccc y ≠ 0) (h : ccc y < ccc x) (B : List Int) : ∀ A : List Int, inv (A ++ y :: x :: B) + 1 = inv (A ++ x :: y :: B)
  | [] => by
    have e1 : (x :: B).countP (fun z => decide (ccc z ≠ 0 ∧ ccc z < ccc y)) = B.countP (fun z => decide (ccc z ≠ 0 ∧ ccc z < ccc y)) := List.countP_cons_of_neg (by rw [decide_eq_true_eq]; omega)
    have e2 : (y :: B).countP (fun z => decide (ccc z ≠ 0 ∧ ccc z < ccc x)) = B.countP (fun z => decide (ccc z ≠ 0 ∧ ccc z < ccc x)) + 1 := List.countP_cons_of_pos (by rw [decide_eq_true_eq]; exact ⟨h0, h⟩)
    show List.countP _ (x :: B) + (List.countP _ B + inv B) + 1 = List.countP _ (y :: B) + (List.countP _ B + inv B)
    rw [e1, e2]
    omega
  | a :: A => by
    have ih := inv_swap h0 h B A
    have e : (A ++ y :: x :: B).countP (fun z => decide (ccc z ≠ 0 ∧ ccc z < ccc a)) = (A ++ x :: y :: B).countP (fun z => decide (ccc z ≠ 0 ∧ ccc z < ccc a)) := by
      rw [List.countP_append, List.countP_append]
      simp only [List.countP_cons]
      omega
    show List.countP _ (A ++ y :: x :: B) + inv (A ++ y :: x :: B) + 1 = List.countP _ (A ++ x :: y :: B) + inv (A ++ x :: y :: B)
    omega
/-- places i and i + 1 change -/
def swp (l : List Int) (i : Nat) : List Int := (l.set i l[i + 1]!).set (i + 1) l[i]!
theorem swp_len (l : List Int) (i : Nat) : (swp l i).length = l.length := by simp [swp]
theorem swp_at {l : List Int} {i : Nat} (hi : i + 1 < l.length) : ∃ A B, l = A ++ l[i]! :: l[i + 1]! :: B ∧ swp l i = A ++ l[i + 1]! :: l[i]! :: B := by
  have h0 : l = l.take i ++ l[i]! :: l[i + 1]! :: l.drop (i + 2) := by
    conv => lhs; rw [← List.take_append_drop i l]
    congr 1
    rw [List.drop_eq_getElem_cons (by omega), List.drop_eq_getElem_cons (by omega), getElem!_pos l i (by omega), getElem!_pos l (i + 1) hi]
  have hlen : (l.take i).length = i := by rw [List.length_take]; omega
  refine ⟨l.take i, l.drop (i + 2), h0, ?_⟩
  unfold swp
  generalize l[i]! = a at h0 ⊢
  generalize l[i + 1]! = b at h0 ⊢
  generalize l.take i = A at h0 hlen ⊢
  generalize l.drop (i + 2) = B at h0 ⊢
  subst h0
  subst hlen
  rw [List.set_append_right _ _ (Nat.le_refl _), Nat.sub_self, List.set_cons_zero, List.set_append_right _ _ (by omega), Nat.add_sub_cancel_left, List.set_cons_succ, List.set_cons_zero]
/-- a row of which the classed ones are D, once in order, with n of them -/
def Bub (D : List C) (n : Nat) (l : List Int) : Prop := E2 (l.map classed) D ∧ l.length = n ∧ C32 l
theorem bub_swap {D : List C} {n : Nat} {l : List Int} (h : Bub D n l) {i : Nat} (hi : i + 1 < n) (h0 : ccc l[i + 1]! ≠ 0) (h1 : ccc l[i + 1]! < ccc l[i]!) : Bub D n (swp l i) ∧ inv (swp l i) + 1 = inv l := by
  obtain ⟨e1, e2, e3⟩ := h
  obtain ⟨A, B, hA, hB⟩ := swp_at (l := l) (i := i) (by omega)
  generalize l[i]! = a at hA hB h1
  generalize l[i + 1]! = b at hA hB h0 h1
  have hp := ccc_pos b
  refine ⟨⟨?_, by rw [swp_len]; exact e2, ?_⟩, ?_⟩
  · rw [hB]
    rw [hA] at e1
    refine E2.trans ?_ e1
    have hsw : E2 [classed b, classed a] [classed a, classed b] := e2_swap (x := classed b) (y := classed a) h0 (by show ccc a ≠ 0; omega) (by show ccc b ≠ ccc a; omega)
    have := (hsw.right (B.map classed)).left (A.map classed)
    simpa using this
  · rw [hB]
    rw [hA] at e3
    intro x hx
    refine e3 x ?_
    simp only [List.mem_append, List.mem_cons] at hx ⊢
    rcases hx with h | h | h | h
    · exact .inl h
    · exact .inr (.inr (.inl h))
    · exact .inr (.inl h)
    · exact .inr (.inr (.inr h))
  · rw [hB, hA]
    exact inv_swap h0 h1 B A
/-- no two up to place i are in the wrong order -/
def Up (l : List Int) (i : Nat) : Prop := ∀ j, j + 1 < i → ccc l[j + 1]! ≠ 0 → ccc l[j]! ≤ ccc l[j + 1]!
theorem up_ordl : ∀ {l : List Int}, Up l l.length → Ordl (l.map classed)
  | [], _ => trivial
  | [_], _ => trivial
  | x :: y :: t, h => by
    have ih := up_ordl (l := y :: t) fun j hj hne => by
      have := h (j + 1) (by simpa using hj) (by simpa using hne)
      simpa using this
    exact ⟨fun hne => h 0 (by simp) hne, ih⟩
theorem arr_self : ∀ (A acc : List C), Srt acc → (∀ c ∈ A.head?, c.2 ≠ 0 → ∀ a ∈ acc, a.2 ≤ c.2) → Ordl A → arr acc A = acc ++ A
  | [], acc, hs, _, _ => by rw [arr, isort_srt_self hs, List.append_nil]
  | c :: t, acc, hs, hh, ho => by
    rw [arrC]
    have ht : Ordl t := by
      cases t with
      | nil => trivial
      | cons d t => exact ho.2
    by_cases hc : c.2 = 0
    · rw [if_pos hc, isort_srt_self hs, arr_self t [] List.Pairwise.nil (by simp) ht, List.nil_append]
    · rw [if_neg hc]
      have hle := hh c rfl hc
      rw [arr_self t (acc ++ [c]) ?_ ?_ ht, List.append_assoc]
      · rfl
      · unfold Srt
        rw [List.pairwise_append]
        exact ⟨hs, List.pairwise_singleton _ _, fun a ha b hb => by rw [List.mem_singleton] at hb; subst hb; exact hle a ha⟩
      · intro d hd hne a ha
        cases t with
        | nil => simp at hd
        | cons d' t =>
          obtain rfl : d' = d := by simpa using hd
          have hcd := ho.1 hne
          rcases List.mem_append.1 ha with h | h
          · have := hle a h
            omega
          · rw [List.mem_singleton] at h
            subst h
            exact hcd
theorem map_classed_fst (l : List Int) : (l.map classed).map (·.1) = l := by
  rw [List.map_map]
  conv => rhs; rw [← List.map_id l]
  rfl
theorem bub_end {l o : List Int} {n : Nat} (h : Bub (dec l) n o) (hU : Up o n) : o = nfd l := by
  obtain ⟨e1, e2, _⟩ := h
  subst e2
  have := arr_self (o.map classed) [] List.Pairwise.nil (by simp) (up_ordl hU)
  rw [e1.arr, List.nil_append] at this
  unfold nfd
  rw [this, map_classed_fst]
theorem full_dec (l : List Int) : (l.flatMap full).map classed = dec l := by
  rw [dec_eq, List.map_flatMap]
  rfl
theorem bub_at {l : List Int} (hC : C32 l) : Bub (dec l) (dec l).length (l.flatMap full) := by
  have e := full_dec l
  refine ⟨by rw [e]; exact E2.refl _, by rw [← e, List.length_map], fun x hx => ?_⟩
  have := dec_w2 hC (classed x) (by rw [← e]; exact List.mem_map_of_mem hx)
  exact this
theorem up_round {l : List Int} {i : Nat} (h : Up l (i + 1)) (hn : ¬ (ccc l[i + 1]! ≠ 0 ∧ ccc l[i + 1]! < ccc l[i]!)) : Up l (i + 2) := fun j hj hne => by
  by_cases hji : j = i
  · subst hji
    omega
  · exact h j (by omega) hne

/-! NFC: looking back for a starter -/
theorem jn_class {a b r : Int} (h : jn a b = some r) : ccc r = 0 := by
  unfold jn at h
  split at h
  · rename_i s hs
    cases h
    unfold sylJoin at hs
    refine ccc_syl ?_
    split at hs
    · injection hs with hs; omega
    · split at hs
      · injection hs with hs; omega
      · cases hs
  · unfold pjN at h
    rw [Option.map_eq_some_iff] at h
    obtain ⟨t, ht, rfl⟩ := h
    have := List.all_eq_true.1 whole_0 t (List.mem_of_mem_take (List.mem_of_find?_eq_some ht))
    simpa using this
def K (L : List C) (k : Nat) (s : St) : Prop :=
  (s.st = -1 ∧ ∀ m ∈ s.out, ccc m ≠ 0) ∨ (0 < k ∧ ∃ pre y post, s.st = (pre.length : Int) ∧ s.out = pre ++ y :: post ∧ ccc y = 0 ∧ (∀ m ∈ post, ccc m ≠ 0 ∧ ccc m ≤ s.last) ∧ (post ≠ [] → ∃ m ∈ post, ccc m = s.last) ∧ (post = [] → s.last = 0) ∧ s.last ≤ L[k - 1]!.2)
theorem K_push {L : List C} (hF : Fix L) (hO : Ordl L) {k : Nat} (hk : k < L.length) {s : St} (h : K L k s) : K L (k + 1) (s.push L[k]!) := by
  have hm : L[k]! ∈ L := by rw [getElem!_pos L k hk]; exact List.getElem_mem hk
  have hf := (hF _ hm).2
  have hrise : 0 < k → L[k]!.2 ≠ 0 → L[k - 1]!.2 ≤ L[k]!.2 := fun h0 hne => by
    have := ordl_at (k - 1) hO (by omega) (by rw [show k - 1 + 1 = k from by omega]; exact hne)
    rwa [show k - 1 + 1 = k from by omega] at this
  have hlast : L[k + 1 - 1]! = L[k]! := by rw [Nat.add_sub_cancel]
  generalize L[k]! = c at hf hrise hlast
  by_cases hc : c.2 = 0
  · right
    refine ⟨by omega, s.out, c.1, [], ?_, rfl, by rw [← hf]; exact hc, by simp, by simp, fun _ => hc, ?_⟩
    · unfold St.push; simp [hc]
    · rw [hlast]; exact Int.le_refl _
  · rcases h with ⟨h1, h2⟩ | ⟨h0, pre, y, post, e1, e2, e3, e4, e5, e6, e7⟩
    · left
      refine ⟨by unfold St.push; simp [hc, h1], fun m hm => ?_⟩
      rcases List.mem_append.1 (show m ∈ s.out ++ [c.1] from hm) with h | h
      · exact h2 m h
      · rw [List.mem_singleton] at h
        rw [h, ← hf]
        exact hc
    · right
      have hle := hrise h0 hc
      refine ⟨by omega, pre, y, post ++ [c.1], ?_, ?_, e3, ?_, ?_, by simp, ?_⟩
      · unfold St.push; simp [hc, e1]
      · unfold St.push; simp [e2]
      · intro m hm
        rcases List.mem_append.1 hm with hm | hm
        · obtain ⟨a, b⟩ := e4 m hm
          refine ⟨a, ?_⟩
          show ccc m ≤ c.2
          omega
        · rw [List.mem_singleton] at hm
          subst hm
          refine ⟨by rw [← hf]; exact hc, ?_⟩
          show ccc c.1 ≤ c.2
          rw [← hf]
          exact Int.le_refl _
      · intro _
        exact ⟨c.1, by simp, hf.symm⟩
      · rw [hlast]; exact Int.le_refl _
theorem K_step {L : List C} (hF : Fix L) (hO : Ordl L) {k : Nat} (hk : k < L.length) {s : St} (h : K L k s) : K L (k + 1) (s.step L[k]!) := by
  by_cases hm : s.may L[k]!
  · cases hj : jn (s.out.getD s.st.toNat 0) (L[k]!).1 with
    | none => rw [step_none hj]; exact K_push hF hO hk h
    | some r =>
      rw [step_some hm hj]
      have hmem : L[k]! ∈ L := by rw [getElem!_pos L k hk]; exact List.getElem_mem hk
      have hpos : 0 ≤ L[k]!.2 := by rw [(hF _ hmem).2]; exact ccc_pos _
      have hlast : L[k + 1 - 1]! = L[k]! := by rw [Nat.add_sub_cancel]
      have hjc := jn_class hj
      generalize L[k]! = c at hpos hlast hm
      rcases h with ⟨h2, _⟩ | ⟨h0, pre, y, post, e1, e2, e3, e4, e5, e6, e7⟩
      · exact absurd hm.1 (by omega)
      · have hto : s.st.toNat = pre.length := by omega
        have hset : s.out.set s.st.toNat r = pre ++ r :: post := by rw [hto, e2, List.set_append_right _ _ (Nat.le_refl _), Nat.sub_self, List.set_cons_zero]
        have hmarks : post ≠ [] → s.last < c.2 := fun hne => by
          rcases hm.2 with hq | hq
          · exfalso
            rw [e1, e2, List.length_append, List.length_cons] at hq
            have : post.length ≠ 0 := fun e => hne (List.eq_nil_of_length_eq_zero e)
            omega
          · exact hq
        refine .inr ⟨by omega, pre, r, post, e1, hset, hjc, e4, e5, e6, ?_⟩
        rw [hlast]
        show s.last ≤ c.2
        rcases Decidable.em (post = []) with hp | hp
        · rw [e6 hp]; exact hpos
        · exact Int.le_of_lt (hmarks hp)
  · rw [step_no hm]; exact K_push hF hO hk h
theorem K_at {L : List C} (hF : Fix L) (hO : Ordl L) : ∀ k, k ≤ L.length → K L k (stAt L k)
  | 0, _ => .inl ⟨rfl, by intro m hm; simp [stAt] at hm⟩
  | k + 1, hk => by
    have h := K_step hF hO (show k < L.length by omega) (K_at hF hO k (by omega))
    rw [stAt_succ (by omega)]
    rwa [getElem!_pos L k (by omega)] at h
/-- where the scan back ends: t + 1 is the place behind it -/
def Back (o : List Int) (t : Nat) : Prop := t ≤ o.length ∧ (∀ j, t ≤ j → j < o.length → ccc o[j]! ≠ 0)
/-- the program's own test, as the document asks it -/
theorem may_iff {L : List C} {k : Nat} {s : St} (h : K L k s) (c : C) {t : Nat} (hb : Back s.out t) (hz : t = 0 ∨ ccc s.out[t - 1]! = 0) : (s.st = (t : Int) - 1) ∧ (s.may c ↔ 0 < t ∧ ∀ j, t ≤ j → j < s.out.length → ccc s.out[j]! < c.2) := by
  obtain ⟨b1, b2⟩ := hb
  rcases h with ⟨h1, h2⟩ | ⟨h0, pre, y, post, e1, e2, e3, e4, e5, e6, e7⟩
  · have ht : t = 0 := by
      rcases Nat.eq_zero_or_pos t with h3 | h3
      · exact h3
      · exfalso
        have h : ccc s.out[t - 1]! = 0 := by
          rcases hz with h | h
          · omega
          · exact h
        exact h2 _ (by rw [getElem!_pos s.out (t - 1) (by omega)]; exact List.getElem_mem _) h
    subst ht
    refine ⟨by omega, ?_, ?_⟩
    · intro hm; have := hm.1; omega
    · intro hm; omega
  · have hl : s.out.length = pre.length + 1 + post.length := by rw [e2]; simp; omega
    have hy : s.out[pre.length]! = y := by rw [e2]; simp
    have hpost : ∀ j, pre.length + 1 ≤ j → j < s.out.length → s.out[j]! ∈ post := fun j hj hjl => by
      rw [getElem!_pos s.out j hjl]
      have : s.out[j]? = post[j - (pre.length + 1)]? := by
        rw [e2, List.getElem?_append_right (by omega), show j - pre.length = (j - (pre.length + 1)) + 1 from by omega, List.getElem?_cons_succ]
      have h2 : j - (pre.length + 1) < post.length := by omega
      rw [List.getElem?_eq_getElem hjl, List.getElem?_eq_getElem h2] at this
      injection this with this
      rw [this]
      exact List.getElem_mem _
    have ht : t = pre.length + 1 := by
      rcases Nat.lt_trichotomy t (pre.length + 1) with h | h | h
      · exact absurd (by rw [hy]; exact e3) (b2 pre.length (by omega) (by omega))
      · exact h
      · exfalso
        rcases hz with h3 | h3
        · omega
        · exact (e4 _ (hpost (t - 1) (by omega) (by omega))).1 h3
    subst ht
    refine ⟨by omega, ?_⟩
    have hmem : ∀ m ∈ post, ∃ j, pre.length + 1 ≤ j ∧ j < s.out.length ∧ s.out[j]! = m := fun m hm => by
      obtain ⟨q, hq, rfl⟩ := List.getElem_of_mem hm
      refine ⟨pre.length + 1 + q, by omega, by omega, ?_⟩
      rw [getElem!_pos s.out _ (by omega)]
      have : s.out[pre.length + 1 + q]? = post[q]? := by
        rw [e2, List.getElem?_append_right (by omega), show pre.length + 1 + q - pre.length = q + 1 from by omega, List.getElem?_cons_succ]
      rw [List.getElem?_eq_getElem (by omega), List.getElem?_eq_getElem hq] at this
      injection this
    constructor
    · intro hm
      refine ⟨by omega, fun j hj hjl => ?_⟩
      have hp := hpost j hj hjl
      have hle := (e4 _ hp).2
      rcases hm.2 with h | h
      · exfalso
        omega
      · omega
    · rintro ⟨_, hall⟩
      refine ⟨by omega, ?_⟩
      rcases Decidable.em (post = []) with hp | hp
      · left
        rw [hp] at hl
        simp at hl
        omega
      · right
        obtain ⟨m, hm, hml⟩ := e5 hp
        obtain ⟨j, hj, hjl, hjm⟩ := hmem m hm
        have := hall j hj hjl
        rw [hjm, hml] at this
        exact this
end Go.Proofs.YtenfdnnagijfnaaGreatDoor
