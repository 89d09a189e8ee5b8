/-
  Plain mathematics of UTF-8, third part: bytes divided into codes, encoded and decoded.
-/
import Derived.Test.YteggchjehfkppaaUtfMath2
namespace Go.Proofs.Yteggchjehfkppaa.Utf

def shift (d : Nat) (x : Cd) : Cd := (x.1, x.2.1 + d, x.2.2.1 + d, x.2.2.2)

theorem codesF_shift (d : Nat) : ∀ (f p : Nat) (bs : List Int), codesF f (p + d) bs = (codesF f p bs).map (shift d)
  | 0, _, _ => rfl
  | f + 1, p, bs => by
    unfold codesF
    split
    · rfl
    · have ih := codesF_shift d f (p + (firstC bs).2.1) (bs.drop (firstC bs).2.1)
      rw [List.map_cons, ← ih]
      simp only [shift]
      rw [show p + d + (firstC bs).2.1 = p + (firstC bs).2.1 + d from by omega]

theorem codesAt_shift (bs : List Int) (k : Nat) : codesAt bs k = (codes (bs.drop k)).map (shift k) := by
  have h := codesF_shift k (bs.length - k) 0 (bs.drop k)
  unfold codesAt codes
  rw [List.length_drop, ← h, Nat.zero_add]

theorem codes_cons {bs : List Int} (h : bs ≠ []) :
    codes bs = ((firstC bs).1, 0, (firstC bs).2.1, (firstC bs).2.2) :: (codes (bs.drop (firstC bs).2.1)).map (shift (firstC bs).2.1) := by
  have hl : 0 < bs.length := by
    cases bs with
    | nil => exact absurd rfl h
    | cons _ _ => simp
  rw [codes_eq, codesAt_step bs hl]
  simp only [List.drop_zero, Nat.zero_add]
  rw [codesAt_shift]

theorem codes_nil : codes [] = [] := rfl
theorem dec_nil : dec [] = [] := rfl
theorem valid_nil : valid [] = true := rfl
theorem dec_cons {bs : List Int} (h : bs ≠ []) : dec bs = (firstC bs).1 :: dec (bs.drop (firstC bs).2.1) := by
  unfold dec
  rw [codes_cons h, List.map_cons, List.map_map]
  rfl
theorem valid_cons {bs : List Int} (h : bs ≠ []) : valid bs = ((firstC bs).2.2 && valid (bs.drop (firstC bs).2.1)) := by
  unfold valid
  rw [codes_cons h, List.all_cons, List.all_map]
  rfl

theorem b1_ne (r : Int) : b1 r ≠ [] := by
  intro h
  have := b1_len r
  rw [h] at this
  simp at this

theorem dec_enc : ∀ l : List Int, dec (enc l) = l.map fixR
  | [] => rfl
  | r :: l => by
    have hne : enc (r :: l) ≠ [] := by rw [enc_cons]; intro h; exact b1_ne _ (List.append_eq_nil_iff.1 h).1
    have hf : firstC (enc (r :: l)) = (fixR r, (b1 (fixR r)).length, true) := by rw [enc_cons]; exact first_enc (enc l) (sca_fix r)
    rw [dec_cons hne, hf, List.map_cons]
    simp only
    rw [enc_cons]
    show fixR r :: dec ((b1 (fixR r) ++ enc l).drop (b1 (fixR r)).length) = _
    rw [List.drop_left, dec_enc l]
theorem valid_enc : ∀ l : List Int, valid (enc l) = true
  | [] => rfl
  | r :: l => by
    have hne : enc (r :: l) ≠ [] := by rw [enc_cons]; intro h; exact b1_ne _ (List.append_eq_nil_iff.1 h).1
    have hf : firstC (enc (r :: l)) = (fixR r, (b1 (fixR r)).length, true) := by rw [enc_cons]; exact first_enc (enc l) (sca_fix r)
    rw [valid_cons hne, hf]
    simp only
    rw [enc_cons]
    show (true && valid ((b1 (fixR r) ++ enc l).drop (b1 (fixR r)).length)) = _
    rw [List.drop_left, valid_enc l]
    rfl

theorem enc_dec : ∀ (n : Nat) (bs : List Int), bs.length ≤ n → Byt bs → valid bs = true → enc (dec bs) = bs
  | 0, bs, h, _, _ => by
    have : bs = [] := List.eq_nil_of_length_eq_zero (by omega)
    subst this
    rfl
  | n + 1, bs, h, hb, hv => by
    by_cases e : bs = []
    · subst e; rfl
    · rw [valid_cons e, Bool.and_eq_true] at hv
      have hl := first_len e
      obtain ⟨r, k, ok, hf⟩ : ∃ r k ok, firstC bs = (r, k, ok) := ⟨_, _, _, rfl⟩
      rw [dec_cons e]
      rw [hf] at hv hl ⊢
      simp only at hv hl ⊢
      obtain ⟨rfl, hv2⟩ := hv
      obtain ⟨hs, hb1, _⟩ := first_true hb hf
      rw [enc_cons, enc_dec n (bs.drop k) (by rw [List.length_drop]; omega) (hb.drop k) hv2]
      unfold encOne
      rw [fix_of_sca hs, hb1, List.take_append_drop]

theorem enc_dec_iff {bs : List Int} (hb : Byt bs) : decide (enc (dec bs) = bs) = valid bs := by
  cases hv : valid bs with
  | true => exact decide_eq_true (enc_dec bs.length bs (Nat.le_refl _) hb hv)
  | false =>
    refine decide_eq_false fun h => ?_
    have := valid_enc (dec bs)
    rw [h, hv] at this
    cases this

/-! A code's own bytes are that code. -/
theorem own_codes {bs : List Int} (h : bs ≠ []) : codes (bs.take (firstC bs).2.1) = [((firstC bs).1, 0, (firstC bs).2.1, (firstC bs).2.2)] := by
  have hl := first_len h
  have ht := first_take h
  have hne : bs.take (firstC bs).2.1 ≠ [] := by
    intro e
    have := congrArg List.length e
    rw [List.length_take, List.length_nil] at this
    omega
  rw [codes_cons hne, ht, List.drop_eq_nil_of_le (by rw [List.length_take]; omega)]
  rfl
theorem own_valid {bs : List Int} (h : bs ≠ []) : valid (bs.take (firstC bs).2.1) = (firstC bs).2.2 := by
  unfold valid
  rw [own_codes h]
  simp
theorem first_sca {bs : List Int} (h : bs ≠ []) (hb : Byt bs) : sca (firstC bs).1 = true := by
  obtain ⟨r, k, ok, hf⟩ : ∃ r k ok, firstC bs = (r, k, ok) := ⟨_, _, _, rfl⟩
  cases ok with
  | true => rw [hf]; exact (first_true hb hf).1
  | false =>
    have := (first_false h (by rw [hf])).1
    rw [this]
    decide

/-! Bytes in two parts. -/
theorem first_cut {bs : List Int} (h : bs ≠ []) {p : Nat} (hp : (firstC bs).2.1 ≤ p) : firstC (bs.take p) = firstC bs := by
  rcases Nat.eq_or_lt_of_le hp with e | hlt
  · rw [← e]; exact first_take h
  · exact first_same h fun j h1 _ => by rw [List.getElem?_take, if_pos (by omega)]

/-- the places where codes begin, and the end -/
def Bd (bs : List Int) (p : Nat) : Prop := ∃ pre, codes bs = pre ++ codesAt bs p ∧ p ≤ bs.length

theorem dec_parts : ∀ (n : Nat) (bs : List Int) (p : Nat), bs.length ≤ n → (∃ x ∈ codes bs, x.2.1 = p) → dec (bs.take p) ++ dec (bs.drop p) = dec bs
  | 0, bs, p, h, ⟨x, hx, _⟩ => by
    have : bs = [] := List.eq_nil_of_length_eq_zero (by omega)
    subst this
    simp [codes_nil] at hx
  | n + 1, bs, p, h, ⟨x, hx, hp⟩ => by
    by_cases e : bs = []
    · subst e; simp [codes_nil] at hx
    · have hl := first_len e
      rw [codes_cons e] at hx
      rcases List.mem_cons.1 hx with h1 | h1
      · subst h1
        simp only at hp
        subst hp
        simp [dec_nil]
      · obtain ⟨y, hy, rfl⟩ := List.mem_map.1 h1
        simp only [shift] at hp
        subst hp
        have hne : bs.take (y.2.1 + (firstC bs).2.1) ≠ [] := by
          intro e2
          have := congrArg List.length e2
          rw [List.length_take, List.length_nil] at this
          omega
        have hc := first_cut e (p := y.2.1 + (firstC bs).2.1) (by omega)
        have ih := dec_parts n (bs.drop (firstC bs).2.1) y.2.1 (by rw [List.length_drop]; omega) ⟨y, hy, rfl⟩
        rw [dec_cons hne, dec_cons e, hc, List.cons_append]
        congr 1
        rw [List.drop_take, Nat.add_sub_cancel, Nat.add_comm y.2.1, ← List.drop_drop]
        exact ih

theorem codes_from_le (bs : List Int) : ∀ (n : Nat) (k : Nat), bs.length - k ≤ n → ∀ x ∈ codesAt bs k, k ≤ x.2.1 ∧ x.2.1 < bs.length ∧ x.2.1 < x.2.2.1 ∧ x.2.2.1 ≤ bs.length
  | 0, k, h, x, hx => by rw [codesAt_end bs (by omega)] at hx; simp at hx
  | n + 1, k, h, x, hx => by
    by_cases hk : k < bs.length
    · have hl := first_len (drop_ne hk)
      rw [List.length_drop] at hl
      rw [codesAt_step bs hk] at hx
      rcases List.mem_cons.1 hx with rfl | h1
      · exact ⟨Nat.le_refl _, hk, by simp only; omega, by simp only; omega⟩
      · have := codes_from_le bs n _ (by omega) x h1
        omega
    · rw [codesAt_end bs (by omega)] at hx; simp at hx

/-! The bytes of one scalar within those of another one. -/
def isTail (b : Int) : Prop := 128 ≤ b ∧ b ≤ 191
theorem b1_head {r : Int} (hs : sca r = true) : ∃ c t, b1 r = c :: t ∧ ¬ isTail c ∧ (∀ x ∈ t, isTail x) ∧
    ((c ≤ 127 ∧ t.length = 0) ∨ (192 ≤ c ∧ c ≤ 223 ∧ t.length = 1) ∨ (224 ≤ c ∧ c ≤ 239 ∧ t.length = 2) ∨ (240 ≤ c ∧ t.length = 3)) := by
  have h := (sca_iff r).1 hs
  unfold isTail
  by_cases a1 : r ≤ 127
  · exact ⟨r, [], b1_1 a1, by omega, by simp, by simp; omega⟩
  by_cases a2 : r ≤ 2047
  · exact ⟨_, _, b1_2 (by omega) a2, by omega, by simp; omega, by simp; omega⟩
  by_cases a3 : r ≤ 65535
  · exact ⟨_, _, b1_3 (by omega) a3, by omega, by simp; omega, by simp; omega⟩
  · exact ⟨_, _, b1_4 (by omega), by omega, by simp; omega, by simp; omega⟩

theorem b1_within {r s : Int} (hr : sca r = true) (hs : sca s = true) {i : Nat} (h : ((b1 r).drop i).take (b1 s).length = b1 s) : i = 0 ∧ (b1 r).length = (b1 s).length := by
  obtain ⟨c, t, e1, n1, t1, k1⟩ := b1_head hr
  obtain ⟨d, u, e2, n2, _, k2⟩ := b1_head hs
  rw [e1, e2] at h
  cases i with
  | zero =>
    simp only [List.drop_zero, List.length_cons, List.take_succ_cons, List.cons.injEq] at h
    obtain ⟨rfl, _⟩ := h
    rw [e1, e2]
    simp only [List.length_cons, true_and]
    omega
  | succ j =>
    exfalso
    rw [List.drop_succ_cons] at h
    have hd : d ∈ t := by
      have : d ∈ (t.drop j).take (d :: u).length := by rw [h]; simp
      exact List.mem_of_mem_drop (List.mem_of_mem_take this)
    exact n2 (t1 d hd)

end Go.Proofs.Yteggchjehfkppaa.Utf
