import Derived.Test.YtenfdnnagijfnaaGreatDoorNormU
import Derived.Test.YtenfdnnagijfnaaGreatDoorNormW
/-
  norm: what is taken apart is made of none other; classes fall at starters alone; two marks of unlike classes may change places: as mathematics.
-/
namespace Go.Proofs.YtenfdnnagijfnaaGreatDoor
open Go.RowKit Norm

/-! what is taken apart is made of none other -/
theorem second_ok : tabP.all (fun t => full t.2.2 == [t.2.2]) = true := by decide +kernel
theorem jamo_ok : (List.range 195).all (fun i => !(decide (97 ≤ i ∧ i < 118) || decide (168 ≤ i ∧ i < 195)) || full (4352 + (i : Int)) == [4352 + (i : Int)]) = true := by decide +kernel
theorem spl_second {r : Int} {p : Int × Int} (h : spl r = some p) : full p.2 = [p.2] := by
  unfold spl at h
  split at h
  · rename_i hs
    have hr : 44032 ≤ r ∧ r ≤ 55203 := by simpa [syl] using hs
    have hp : p.2 = (sylParts r).2 := by cases h; rfl
    have hb : (4449 ≤ p.2 ∧ p.2 < 4470) ∨ (4520 ≤ p.2 ∧ p.2 < 4547) := by
      rw [hp]
      unfold sylParts
      split <;> (dsimp only; omega)
    obtain ⟨i, hi⟩ : ∃ i : Nat, p.2 = 4352 + (i : Int) := ⟨(p.2 - 4352).toNat, by omega⟩
    have := List.all_eq_true.1 jamo_ok i (List.mem_range.2 (by omega))
    rw [hi]
    simp only [Bool.or_eq_true, Bool.not_eq_true', Bool.or_eq_false_iff, decide_eq_false_iff_not, beq_iff_eq] at this
    rcases this with h1 | h1
    · omega
    · exact h1
  · unfold pairR at h
    rw [Option.map_eq_some_iff] at h
    obtain ⟨t, ht, rfl⟩ := h
    have := List.all_eq_true.1 second_ok t (List.mem_of_find?_eq_some ht)
    simpa using this
theorem full_fix : ∀ k r, ends k r → ∀ y ∈ fullN k r, full y = [y]
  | 0, _, h => h.elim
  | k + 1, r, h => by
    unfold ends at h
    obtain ⟨_, _, h⟩ := h
    unfold fullN
    by_cases h1 : r = 9001
    · rw [if_pos h1] at h ⊢
      exact full_fix k _ h
    · by_cases h2 : r = 9002
      · rw [if_neg h1, if_pos h2] at h ⊢
        exact full_fix k _ h
      · rw [if_neg h1, if_neg h2] at h ⊢
        cases hs : spl r with
        | none =>
          intro y hy
          rw [List.mem_singleton] at hy
          rw [hy]
          exact full_same h1 h2 hs
        | some p =>
          rw [hs] at h
          intro y hy
          rcases List.mem_append.1 hy with hy | hy
          · exact full_fix k _ h y hy
          · rw [List.mem_singleton] at hy
            rw [hy]
            exact spl_second hs
theorem dec_fix {l : List Int} (hC : C32 l) : ∀ x ∈ dec l, full x.1 = [x.1] ∧ x.2 = ccc x.1 := by
  intro x hx
  obtain ⟨r, hr, hx⟩ := List.mem_flatMap.1 hx
  obtain ⟨y, hy, rfl⟩ := List.mem_map.1 hx
  exact ⟨full_fix 4 r (ends_any (hC r hr).1 (hC r hr).2) y hy, rfl⟩
theorem arr_fix {l : List Int} (hC : C32 l) : ∀ x ∈ arr [] (dec l), full x.1 = [x.1] ∧ x.2 = ccc x.1 := fun x hx => dec_fix hC x (by simpa using (mem_arr (dec l) [] x).1 hx)

/-! classes fall at starters alone -/
theorem tab_pos : (List.range 166).all (fun i => decide (0 ≤ Ucd.g (Ucd.pr i) 3)) = true := by decide +kernel
theorem ccc_pos (r : Int) : 0 ≤ ccc r := by
  unfold ccc Ucd.of
  split
  · rename_i h
    have hi : Ucd.idx r < 166 := by
      rcases Nat.lt_or_ge (Ucd.idx r) 166 with h1 | h1
      · exact h1
      · exfalso
        unfold Ucd.inTab at h
        simp at h
        omega
    have := List.all_eq_true.1 tab_pos _ (List.mem_range.2 hi)
    simpa using this
  · decide
def Ordl : List C → Prop
  | [] => True
  | [_] => True
  | x :: y :: t => (y.2 ≠ 0 → x.2 ≤ y.2) ∧ Ordl (y :: t)
theorem ordl_at : ∀ {l : List C} (i : Nat), Ordl l → i + 1 < l.length → l[i + 1]!.2 ≠ 0 → l[i]!.2 ≤ l[i + 1]!.2
  | x :: y :: t, 0, h, _, hne => by simpa using h.1 (by simpa using hne)
  | x :: y :: t, i + 1, h, hl, hne => by
    have := ordl_at (l := y :: t) i h.2 (by simpa using hl) (by simpa using hne)
    simpa using this
theorem ordl_srt : ∀ {A B : List C}, Srt A → Ordl B → (∀ b ∈ B.head?, b.2 = 0) → Ordl (A ++ B)
  | [], B, _, h, _ => h
  | [x], [], _, _, _ => trivial
  | [x], b :: t, _, h, hb => ⟨fun hne => absurd (hb b rfl) hne, h⟩
  | x :: y :: A, B, hs, h, hb => by
    have h1 := List.pairwise_cons.1 hs
    exact ⟨fun _ => h1.1 y (by simp), ordl_srt h1.2 h hb⟩
theorem ordl_cons {c : C} {B : List C} (h : Ordl B) (hc : c.2 = 0) (hp : ∀ b ∈ B, 0 ≤ b.2) : Ordl (c :: B) := by
  cases B with
  | nil => trivial
  | cons b t => exact ⟨fun _ => by rw [hc]; exact hp b (by simp), h⟩
theorem arr_ordl : ∀ (l acc : List C), (∀ x ∈ l, 0 ≤ x.2) → Ordl (arr acc l)
  | [], acc, _ => by
    rw [arr]
    have := ordl_srt (A := isort acc) (B := []) (isort_srt acc) trivial (by simp)
    rwa [List.append_nil] at this
  | c :: t, acc, h => by
    rw [arr]
    have ht : ∀ x ∈ t, 0 ≤ x.2 := fun x hx => h x (by simp [hx])
    split
    · rename_i hc
      refine ordl_srt (isort_srt acc) (ordl_cons (arr_ordl t [] ht) hc fun b hb => ht b (by simpa using (mem_arr t [] b).1 hb)) ?_
      intro b hb
      simp at hb
      rw [← hb]
      exact hc
    · exact arr_ordl t (acc ++ [c]) ht
theorem nfd_ordl {l : List Int} (hC : C32 l) : Ordl (arr [] (dec l)) := arr_ordl _ _ fun x hx => by rw [(dec_fix hC x hx).2]; exact ccc_pos _

/-! two marks beside one another -/
theorem whole_0 : tabP.all (fun t => ccc t.1 == 0) = true := by decide +kernel
theorem ccc_9001 : ccc 9001 = 0 := by decide +kernel
theorem ccc_9002 : ccc 9002 = 0 := by decide +kernel
theorem hangul_row : (List.range 166).any (fun i => decide (Ucd.fr i ≤ 44032) && decide (55203 ≤ Ucd.to i) && Ucd.g (Ucd.pr i) 3 == 0) = true := by decide +kernel
theorem ccc_syl {r : Int} (h : 44032 ≤ r ∧ r ≤ 55203) : ccc r = 0 := by
  obtain ⟨i, hi, hc⟩ := List.any_eq_true.1 hangul_row
  simp only [Bool.and_eq_true, decide_eq_true_eq, beq_iff_eq] at hc
  unfold ccc
  rw [(Ucd.of_row (List.mem_range.1 hi) (by omega) (by omega)).2]
  exact hc.2
theorem full_mark {r : Int} (h : ccc r ≠ 0) : full r = [r] := by
  have h1 : r ≠ 9001 := fun e => h (by rw [e]; exact ccc_9001)
  have h2 : r ≠ 9002 := fun e => h (by rw [e]; exact ccc_9002)
  refine full_same h1 h2 ?_
  unfold spl
  split
  · rename_i hs
    exact absurd (ccc_syl (by simpa [syl] using hs)) h
  · cases hp : pairR r with
    | none => rfl
    | some p =>
      exfalso
      unfold pairR at hp
      rw [Option.map_eq_some_iff] at hp
      obtain ⟨t, ht, _⟩ := hp
      have e := List.find?_some ht
      have := List.all_eq_true.1 whole_0 t (List.mem_of_find?_eq_some ht)
      simp only [beq_iff_eq] at e this
      rw [e] at this
      exact h this
theorem arr_stb : ∀ (l acc acc' : List C), Stb acc acc' → arr acc l = arr acc' l
  | [], acc, acc', h => by rw [arr, arr]; exact isort_of (isort_srt acc) (h.symm.trans (isort_stb acc))
  | c :: t, acc, acc', h => by
    rw [arr, arr]
    have e : isort acc = isort acc' := isort_of (isort_srt acc) (h.symm.trans (isort_stb acc))
    split
    · rw [e]
    · exact arr_stb t _ _ (h.append (Stb.refl [c]))
theorem stb_pair {x y : C} (h : x.2 ≠ y.2) : Stb [x, y] [y, x] := by
  intro c
  simp only [List.filter_cons, List.filter_nil, beq_iff_eq]
  by_cases h1 : x.2 = c
  · have h2 : y.2 ≠ c := fun e => h (h1.trans e.symm)
    simp [h1, h2]
  · simp [h1]
theorem arr_swap {x y : C} (hx : x.2 ≠ 0) (hy : y.2 ≠ 0) (h : x.2 ≠ y.2) (B : List C) : ∀ (A acc : List C), arr acc (A ++ x :: y :: B) = arr acc (A ++ y :: x :: B)
  | [], acc => by
    have ec : ∀ (acc : List C) (c : C) (t : List C), arr acc (c :: t) = if c.2 = 0 then isort acc ++ c :: arr [] t else arr (acc ++ [c]) t := fun acc c t => by rw [arr]
    rw [List.nil_append, List.nil_append, ec, if_neg hx, ec, if_neg hy, ec acc, if_neg hy, ec _ x, if_neg hx]
    refine arr_stb B _ _ ?_
    rw [List.append_assoc, List.append_assoc]
    exact (Stb.refl acc).append (stb_pair h)
  | c :: A, acc => by
    have ec : ∀ (acc : List C) (c : C) (t : List C), arr acc (c :: t) = if c.2 = 0 then isort acc ++ c :: arr [] t else arr (acc ++ [c]) t := fun acc c t => by rw [arr]
    rw [List.cons_append, List.cons_append, ec, ec]
    split
    · rw [arr_swap hx hy h B A []]
    · exact arr_swap hx hy h B A (acc ++ [c])
theorem nfc_swap {x y : Int} (hx : ccc x ≠ 0) (hy : ccc y ≠ 0) (h : ccc x ≠ ccc y) (A B : List Int) : nfc (A ++ x :: y :: B) = nfc (A ++ y :: x :: B) := by
  have e : ∀ r, ccc r ≠ 0 → dec1 r = [(r, ccc r)] := fun r hr => by unfold dec1; rw [full_mark hr]; rfl
  have d : ∀ a b, ccc a ≠ 0 → ccc b ≠ 0 → dec (A ++ a :: b :: B) = dec A ++ (a, ccc a) :: (b, ccc b) :: dec B := fun a b ha hb => by
    rw [dec_eq, dec_eq, dec_eq, List.flatMap_append, List.flatMap_cons, List.flatMap_cons, e a ha, e b hb]
    rfl
  unfold nfc
  rw [d x y hx hy, d y x hy hx, arr_swap (x := (x, ccc x)) (y := (y, ccc y)) hx hy h]
end Go.Proofs.YtenfdnnagijfnaaGreatDoor

/-
  norm: put together and taken apart it is as taken apart at once: as mathematics.
-/
namespace Go.Proofs.YtenfdnnagijfnaaGreatDoor
open Go.RowKit Norm

/-! rows that are the same, wherever they stand, once in order -/
def E2 (A B : List C) : Prop := ∀ acc S, arr acc (A ++ S) = arr acc (B ++ S)
theorem arrC (acc : List C) (c : C) (t : List C) : arr acc (c :: t) = if c.2 = 0 then isort acc ++ c :: arr [] t else arr (acc ++ [c]) t := by rw [arr]
theorem E2.refl (A : List C) : E2 A A := fun _ _ => rfl
theorem E2.symm {A B : List C} (h : E2 A B) : E2 B A := fun a s => (h a s).symm
theorem E2.trans {A B D : List C} (h : E2 A B) (k : E2 B D) : E2 A D := fun a s => (h a s).trans (k a s)
theorem E2.right {A B : List C} (h : E2 A B) (Y : List C) : E2 (A ++ Y) (B ++ Y) := fun a s => by rw [List.append_assoc, List.append_assoc]; exact h a (Y ++ s)
theorem E2.left {A B : List C} (h : E2 A B) : ∀ P : List C, E2 (P ++ A) (P ++ B)
  | [] => h
  | c :: P => fun acc S => by
    have ih := E2.left h P
    rw [List.cons_append, List.cons_append, List.cons_append, List.cons_append, arrC, arrC]
    split
    · rw [ih [] S]
    · exact ih (acc ++ [c]) S
theorem E2.arr {A B : List C} (h : E2 A B) : arr [] A = arr [] B := by
  have := h [] []
  rwa [List.append_nil, List.append_nil] at this
theorem e2_stb {T T' : List C} (h : ∀ x ∈ T, isSt x = false) (h' : ∀ x ∈ T', isSt x = false) (hs : Stb T T') : E2 T T' := fun acc S => by
  have e : ∀ (M : List C), (∀ x ∈ M, isSt x = false) → arr acc (M ++ S) = arr (acc ++ M) S := fun M hM => by
    rw [arr_acc M.length (M ++ S) acc (by simp) (by simpa using hM)]
    simp
  rw [e T h, e T' h']
  exact arr_stb S _ _ ((Stb.refl acc).append hs)
theorem e2_isort {T : List C} (h : ∀ x ∈ T, isSt x = false) : E2 T (isort T) := e2_stb h (fun x hx => h x ((mem_isort T x).1 hx)) (isort_stb T)
theorem e2_arr : ∀ (n : Nat) (A : List C), A.length ≤ n → E2 A (arr [] A)
  | n, A, hn => by
    rcases cut_st A with h | ⟨T, c, S, rfl, h, hc⟩
    · rw [arr_none h]
      exact e2_isort h
    · rw [arr_hit h hc]
      cases n with
      | zero => simp at hn
      | succ n =>
        have ih := e2_arr n S (by simp at hn; omega)
        have h1 := (e2_isort h).right (c :: S)
        have h2 := ih.left (isort T ++ [c])
        simp only [List.append_assoc, List.cons_append, List.nil_append] at h2
        exact h1.trans h2
theorem arr_idem (A : List C) : arr [] (arr [] A) = arr [] A := (e2_arr A.length A (Nat.le_refl _)).arr.symm
theorem e2_swap {x y : C} (hx : x.2 ≠ 0) (hy : y.2 ≠ 0) (h : x.2 ≠ y.2) : E2 [x, y] [y, x] := fun acc S => by
  have := arr_swap hx hy h S [] acc
  simpa using this
theorem e2_move {c : C} : ∀ M : List C, (∀ m ∈ M, m.2 ≠ 0 ∧ m.2 ≠ c.2 ∧ c.2 ≠ 0) → E2 (c :: M) (M ++ [c])
  | [], _ => E2.refl _
  | m :: M, h => by
    obtain ⟨h1, h2, h3⟩ := h m (by simp)
    have a := (e2_swap h3 h1 (Ne.symm h2)).right M
    have b := (e2_move M (fun x hx => h x (by simp [hx]))).left [m]
    exact a.trans b

/-! a row in order, of those that are made of none other -/
def Fix (L : List C) : Prop := ∀ x ∈ L, full x.1 = [x.1] ∧ x.2 = ccc x.1
theorem fix_dec1 {x : C} (h : full x.1 = [x.1] ∧ x.2 = ccc x.1) : dec1 x.1 = [x] := by
  unfold dec1
  rw [h.1]
  show [(x.1, ccc x.1)] = [x]
  rw [← h.2]
theorem fix_dec : ∀ {L : List C}, Fix L → dec (L.map (·.1)) = L
  | [], _ => rfl
  | x :: t, h => by
    have := fix_dec (L := t) (fun y hy => h y (by simp [hy]))
    rw [dec_eq] at this ⊢
    rw [List.map_cons, List.flatMap_cons, this, fix_dec1 (h x (by simp))]
    rfl
theorem nfd_arr {l : List Int} (hC : C32 l) : arr [] (dec (nfd l)) = arr [] (dec l) := by
  unfold nfd
  rw [fix_dec (arr_fix hC), arr_idem]
theorem nfd_nfd {l : List Int} (hC : C32 l) : nfd (nfd l) = nfd l := by
  show (arr [] (dec (nfd l))).map (·.1) = (arr [] (dec l)).map (·.1)
  rw [nfd_arr hC]
theorem nfc_nfd {l : List Int} (hC : C32 l) : nfc (nfd l) = nfc l := by
  show comp (arr [] (dec (nfd l))) = comp (arr [] (dec l))
  rw [nfd_arr hC]

/-! compose -/
def J (L : List C) (k : Nat) (s : St) : Prop :=
  E2 (dec s.out) (L.take k) ∧ (s.st = -1 ∨ (0 < k ∧ ∃ pre y post, s.st = (pre.length : Int) ∧ s.out = pre ++ y :: post ∧ (∀ m ∈ post, full m = [m] ∧ ccc m ≠ 0 ∧ ccc m ≤ s.last) ∧ (post = [] → s.last = 0) ∧ s.last ≤ L[k - 1]!.2))
theorem J_push {L : List C} (hF : Fix L) (hO : Ordl L) {k : Nat} (hk : k < L.length) {s : St} (h : J L k s) : J L (k + 1) (s.push L[k]!) := by
  obtain ⟨h1, h2⟩ := h
  have hm : L[k]! ∈ L := by rw [getElem!_pos L k hk]; exact List.getElem_mem hk
  have hf := hF _ hm
  have ht : L.take (k + 1) = L.take k ++ [L[k]!] := by rw [List.take_add_one, List.getElem?_eq_getElem hk, getElem!_pos L k hk]; rfl
  have hpos : 0 ≤ L[k]!.2 := by rw [hf.2]; exact ccc_pos _
  have hrise : 0 < k → L[k]!.2 ≠ 0 → L[k - 1]!.2 ≤ L[k]!.2 := fun h0 hne => by
    have := ordl_at (k - 1) hO (by omega) (by rw [show k - 1 + 1 = k from by omega]; exact hne)
    rwa [show k - 1 + 1 = k from by omega] at this
  have hlast : L[k + 1 - 1]! = L[k]! := by rw [Nat.add_sub_cancel]
  generalize L[k]! = c at hf ht hpos hrise hlast
  refine ⟨?_, ?_⟩
  · show E2 (dec (s.out ++ [c.1])) _
    rw [ht, dec_eq, List.flatMap_append, ← dec_eq]
    have e : [c.1].flatMap dec1 = [c] := by simpa using fix_dec1 hf
    rw [e]
    exact h1.right [c]
  · by_cases hc : c.2 = 0
    · refine .inr ⟨by omega, s.out, c.1, [], ?_, rfl, by simp, fun _ => hc, ?_⟩
      · unfold St.push; simp [hc]
      · rw [hlast]; exact Int.le_refl _
    · rcases h2 with h2 | ⟨h0, pre, y, post, e1, e2, e3, e4, e5⟩
      · left
        unfold St.push
        simp [hc, h2]
      · right
        refine ⟨by omega, pre, y, post ++ [c.1], ?_, ?_, ?_, by simp, ?_⟩
        · unfold St.push; simp [hc, e1]
        · unfold St.push; simp [e2]
        · intro m hm
          have hle := hrise h0 hc
          rcases List.mem_append.1 hm with hm | hm
          · obtain ⟨a, b, d⟩ := e3 m hm
            refine ⟨a, b, ?_⟩
            show ccc m ≤ c.2
            omega
          · rw [List.mem_singleton] at hm
            subst hm
            refine ⟨hf.1, by rw [← hf.2]; exact hc, ?_⟩
            show ccc c.1 ≤ c.2
            rw [← hf.2]
            exact Int.le_refl _
        · rw [hlast]; exact Int.le_refl _
theorem fix_flat : ∀ {post : List Int}, (∀ m ∈ post, full m = [m]) → dec post = post.map classed
  | [], _ => rfl
  | x :: t, h => by
    have := fix_flat (post := t) (fun y hy => h y (by simp [hy]))
    rw [dec_eq] at this ⊢
    rw [List.flatMap_cons, this]
    unfold dec1
    rw [h x (by simp)]
    rfl
theorem J_step {L : List C} (hF : Fix L) (hO : Ordl L) {k : Nat} (hk : k < L.length) {s : St} (h : J L k s) : J L (k + 1) (s.step L[k]!) := by
  by_cases hm : s.may L[k]!
  · cases hj : jn (s.out.getD s.st.toNat 0) (L[k]!).1 with
    | none => rw [step_none hj]; exact J_push hF hO hk h
    | some r =>
      rw [step_some hm hj]
      obtain ⟨h1, h2⟩ := h
      have hmem : L[k]! ∈ L := by rw [getElem!_pos L k hk]; exact List.getElem_mem hk
      have hf := hF _ hmem
      have ht : L.take (k + 1) = L.take k ++ [L[k]!] := by rw [List.take_add_one, List.getElem?_eq_getElem hk, getElem!_pos L k hk]; rfl
      have hpos : 0 ≤ L[k]!.2 := by rw [hf.2]; exact ccc_pos _
      have hlast : L[k + 1 - 1]! = L[k]! := by rw [Nat.add_sub_cancel]
      generalize L[k]! = c at hf ht hpos hlast hm hj
      rcases h2 with h2 | ⟨h0, pre, y, post, e1, e2, e3, e4, e5⟩
      · exact absurd hm.1 (by omega)
      · have hto : s.st.toNat = pre.length := by omega
        have hy : s.out.getD s.st.toNat 0 = y := by rw [hto, e2, List.getD_eq_getElem?_getD, List.getElem?_append_right (Nat.le_refl _), Nat.sub_self]; rfl
        rw [hy] at hj
        have hjf := (join_full hj).1
        have hset : s.out.set s.st.toNat r = pre ++ r :: post := by rw [hto, e2, List.set_append_right _ _ (Nat.le_refl _), Nat.sub_self, List.set_cons_zero]
        have hmarks : post ≠ [] → s.last < c.2 := fun hne => by
          rcases hm.2 with hq | hq
          · exfalso
            rw [e1, e2, List.length_append, List.length_cons] at hq
            have : post.length ≠ 0 := fun e => hne (List.eq_nil_of_length_eq_zero e)
            omega
          · exact hq
        refine ⟨?_, .inr ⟨by omega, pre, r, post, e1, hset, e3, e4, ?_⟩⟩
        · show E2 (dec (s.out.set s.st.toNat r)) _
          rw [hset, ht]
          have d1 : dec1 r = dec1 y ++ [c] := by
            unfold dec1
            rw [hjf, List.map_append]
            congr 1
            show [(c.1, ccc c.1)] = [c]
            rw [← hf.2]
          have dnew : dec (pre ++ r :: post) = dec pre ++ dec1 y ++ (c :: dec post) := by
            rw [dec_eq, dec_eq, dec_eq, List.flatMap_append, List.flatMap_cons, d1]
            simp
          have dold : dec s.out = dec pre ++ dec1 y ++ dec post := by
            rw [e2, dec_eq, dec_eq, dec_eq, List.flatMap_append, List.flatMap_cons]
            simp
          have hmove : E2 (c :: dec post) (dec post ++ [c]) := by
            refine e2_move _ fun m hm2 => ?_
            rw [fix_flat (fun m hm3 => (e3 m hm3).1)] at hm2
            obtain ⟨z, hz, rfl⟩ := List.mem_map.1 hm2
            obtain ⟨_, b, d⟩ := e3 z hz
            have hl := hmarks (List.ne_nil_of_mem hz)
            have hp := ccc_pos z
            show ccc z ≠ 0 ∧ ccc z ≠ c.2 ∧ c.2 ≠ 0
            omega
          rw [dnew]
          refine (hmove.left (dec pre ++ dec1 y)).trans ?_
          rw [← List.append_assoc, ← dold]
          exact h1.right [c]
        · rw [hlast]
          show s.last ≤ c.2
          rcases Decidable.em (post = []) with hp | hp
          · rw [e4 hp]; exact hpos
          · exact Int.le_of_lt (hmarks hp)
  · rw [step_no hm]; exact J_push hF hO hk h
theorem J_at {L : List C} (hF : Fix L) (hO : Ordl L) : ∀ k, k ≤ L.length → J L k (stAt L k)
  | 0, _ => ⟨by show E2 (dec []) _; exact E2.refl _, .inl rfl⟩
  | k + 1, hk => by
    have h := J_step hF hO (show k < L.length by omega) (J_at hF hO k (by omega))
    rw [stAt_succ (by omega)]
    rwa [getElem!_pos L k (by omega)] at h
theorem nfc_arr {l : List Int} (hC : C32 l) : arr [] (dec (nfc l)) = arr [] (dec l) := by
  have h := (J_at (L := arr [] (dec l)) (arr_fix hC) (nfd_ordl hC) _ (Nat.le_refl _)).1
  rw [List.take_length, ← comp_at] at h
  have e := h.arr
  rw [arr_idem] at e
  exact e
theorem nfd_nfc {l : List Int} (hC : C32 l) : nfd (nfc l) = nfd l := by
  show (arr [] (dec (nfc l))).map (·.1) = (arr [] (dec l)).map (·.1)
  rw [nfc_arr hC]
theorem nfc_nfc {l : List Int} (hC : C32 l) : nfc (nfc l) = nfc l := by
  show comp (arr [] (dec (nfc l))) = comp (arr [] (dec l))
  rw [nfc_arr hC]
theorem same_iff {l o : List Int} (hl : C32 l) (ho : C32 o) : nfd l = nfd o ↔ nfc l = nfc o := by
  constructor
  · intro h
    rw [← nfc_nfd hl, ← nfc_nfd ho, h]
  · intro h
    rw [← nfd_nfc hl, ← nfd_nfc ho, h]
theorem nfc_le {l : List Int} (hC : C32 l) : (nfc l).length ≤ (nfd l).length := by
  rw [nfd_len, ← arr_len]
  exact comp_len_le _ (arr_w2 (dec_w2 hC))
theorem nfd_c32 {l : List Int} (hC : C32 l) : C32 (nfd l) := by
  intro x hx
  obtain ⟨c, hc, rfl⟩ := List.mem_map.1 hx
  exact arr_w2 (dec_w2 hC) c hc
theorem nfc_c32 {l : List Int} (hC : C32 l) : C32 (nfc l) := by
  unfold nfc
  rw [comp_at]
  exact (stAt_inv (arr_w2 (dec_w2 hC)) _ (Nat.le_refl _)).2.2
end Go.Proofs.YtenfdnnagijfnaaGreatDoor
