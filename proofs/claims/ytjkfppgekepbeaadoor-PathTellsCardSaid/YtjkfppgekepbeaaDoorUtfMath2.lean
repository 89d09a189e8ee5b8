/-
  Plain mathematics of UTF-8, second part: what the first code of bytes says, and back.
-/
import Derived.Test.YtjkfppgekepbeaaDoorUtfMath
namespace Go.Proofs.YtjkfppgekepbeaaDoor.Utf
set_option maxRecDepth 100000

theorem b1_byt {r : Int} (h0 : 0 ≤ r) (h1 : r ≤ 1114111) : Byt (b1 r) := by
  intro x hx
  unfold b1 at hx
  split at hx
  · simp at hx; omega
  split at hx
  · simp at hx; omega
  split at hx
  · simp at hx; omega
  · simp at hx; omega
theorem encOne_byt (r : Int) : Byt (encOne r) := b1_byt (fix_range r).1 (fix_range r).2
theorem enc_byt (l : List Int) : Byt (enc l) := by
  intro x hx
  obtain ⟨r, _, hr⟩ := List.mem_flatMap.1 hx
  exact encOne_byt r x hr
theorem Byt.append {a b : List Int} (ha : Byt a) (hb : Byt b) : Byt (a ++ b) := fun x hx => (List.mem_append.1 hx).elim (ha x) (hb x)

theorem go_count (bs : List Int) (s : Nat) : ∀ (f i : Nat) (r lo hi : Int), i + f = s → i ≤ (go bs s f i r lo hi).2.1
  | 0, i, r, lo, hi, h => by simp only [go]; omega
  | f + 1, i, r, lo, hi, h => by
    unfold go
    split
    · exact Nat.le_refl _
    · split
      · exact Nat.le_refl _
      · have := go_count bs s f (i + 1) (r * 64 + ‹Int› % 64) 128 191 (by omega)
        omega

theorem go_false (bs : List Int) (s : Nat) : ∀ (f i : Nat) (r lo hi : Int), i + f = s → (go bs s f i r lo hi).2.2 = false → (go bs s f i r lo hi).1 = 65533 ∧ (go bs s f i r lo hi).2.1 < s
  | 0, i, r, lo, hi, h, hf => by simp [go] at hf
  | f + 1, i, r, lo, hi, h, hf => by
    unfold go at hf ⊢
    split
    · exact ⟨rfl, by show i < s; omega⟩
    · rename_i y hy
      rw [hy] at hf
      dsimp only at hf
      split
      · exact ⟨rfl, by show i < s; omega⟩
      · rename_i hn
        rw [if_neg hn] at hf
        exact go_false bs s f (i + 1) _ _ _ (by omega) hf

/-- the code is the same where its own bytes, and the one behind, are -/
theorem go_same (bs bs' : List Int) (s : Nat) : ∀ (f i : Nat) (r lo hi : Int), i + f = s →
    (∀ j, i ≤ j → j ≤ (go bs s f i r lo hi).2.1 → j < s → bs'[j]? = bs[j]?) → go bs' s f i r lo hi = go bs s f i r lo hi
  | 0, i, r, lo, hi, h, hj => rfl
  | f + 1, i, r, lo, hi, h, hj => by
    have hc := go_count bs s (f + 1) i r lo hi h
    have e := hj i (Nat.le_refl _) hc (by omega)
    unfold go at hj ⊢
    rw [e]
    split
    · rfl
    · rename_i y hy
      rw [hy] at hj
      dsimp only at hj
      split
      · rfl
      · rename_i hn
        rw [if_neg hn] at hj
        exact go_same bs bs' s f (i + 1) _ _ _ (by omega) (fun j h1 h2 h3 => hj j (by omega) h2 h3)

/-- its own bytes alone say the same code -/
theorem go_take (bs : List Int) (s : Nat) : ∀ (f i : Nat) (r lo hi : Int), i + f = s → ∀ k, k = (go bs s f i r lo hi).2.1 → go (bs.take k) s f i r lo hi = go bs s f i r lo hi
  | 0, i, r, lo, hi, h, k, hk => rfl
  | f + 1, i, r, lo, hi, h, k, hk => by
    unfold go at hk ⊢
    split at hk
    · dsimp only at hk
      subst hk
      rw [List.getElem?_eq_none (by rw [List.length_take]; omega)]
    · rename_i y hy
      split at hk
      · rename_i hb
        dsimp only at hk
        subst hk
        rw [List.getElem?_eq_none (by rw [List.length_take]; omega), if_pos hb]
      · rename_i hb
        have hc := go_count bs s f (i + 1) (r * 64 + y % 64) 128 191 (by omega)
        rw [List.getElem?_take, if_pos (by omega), hy]
        dsimp only
        rw [if_neg hb, if_neg hb]
        exact go_take bs s f (i + 1) _ _ _ (by omega) k hk

theorem first_false {bs : List Int} (h : bs ≠ []) (hf : (firstC bs).2.2 = false) : (firstC bs).1 = 65533 ∧ (firstC bs).2.1 ≤ 3 := by
  cases bs with
  | nil => exact absurd rfl h
  | cons c t =>
    simp only [firstC] at hf ⊢
    have hl := lead_size c
    split
    · exact ⟨rfl, by decide⟩
    · rename_i hn
      rw [if_neg hn] at hf
      have := go_false (c :: t) (lead c).1.toNat ((lead c).1.toNat - 1) 1 (lead c).2.1 (lead c).2.2.1 (lead c).2.2.2 (by omega) hf
      exact ⟨this.1, by omega⟩

theorem first_same {bs bs' : List Int} (h : bs ≠ []) (hj : ∀ j, j ≤ (firstC bs).2.1 → j < 4 → bs'[j]? = bs[j]?) : firstC bs' = firstC bs := by
  cases bs with
  | nil => exact absurd rfl h
  | cons c t =>
    have h0 := hj 0 (Nat.zero_le _) (by omega)
    cases bs' with
    | nil => simp at h0
    | cons c' t' =>
      simp at h0
      subst h0
      simp only [firstC] at hj ⊢
      have hl := lead_size c'
      split
      · rfl
      · rename_i hn
        rw [if_neg hn] at hj
        exact go_same _ _ _ _ _ _ _ _ (by omega) (fun j _ h2 h3 => hj j h2 (by omega))

theorem first_take {bs : List Int} (h : bs ≠ []) : firstC (bs.take (firstC bs).2.1) = firstC bs := by
  have hl := first_len h
  cases bs with
  | nil => exact absurd rfl h
  | cons c t =>
    generalize hk : (firstC (c :: t)).2.1 = k at hl ⊢
    obtain ⟨k, rfl⟩ : ∃ k', k = k' + 1 := ⟨k - 1, by omega⟩
    have hs := lead_size c
    simp only [firstC, List.take_succ_cons] at hk ⊢
    split
    · rfl
    · rename_i hn
      rw [if_neg hn] at hk
      have := go_take (c :: t) (lead c).1.toNat ((lead c).1.toNat - 1) 1 (lead c).2.1 (lead c).2.2.1 (lead c).2.2.2 (by omega) (k + 1) hk.symm
      rwa [List.take_succ_cons] at this

/-- one step of a loop that ends well -/
theorem go_true {bs : List Int} {s f i k : Nat} {r lo hi q : Int} (h : go bs s (f + 1) i r lo hi = (q, k, true)) :
    ∃ y, bs[i]? = some y ∧ lo ≤ y ∧ y ≤ hi ∧ go bs s f (i + 1) (r * 64 + y % 64) 128 191 = (q, k, true) := by
  unfold go at h
  split at h
  · simp at h
  · rename_i y hy
    split at h
    · simp at h
    · exact ⟨y, hy, by omega, by omega, h⟩

theorem b1_1 {r : Int} (h : r ≤ 127) : b1 r = [r] := by simp [b1, h]
theorem b1_2 {r : Int} (h0 : 127 < r) (h : r ≤ 2047) : b1 r = [192 + r / 64, 128 + r % 64] := by
  unfold b1
  rw [if_neg (by omega), if_pos h]
theorem b1_3 {r : Int} (h0 : 2047 < r) (h : r ≤ 65535) : b1 r = [224 + r / 4096, 128 + r / 64 % 64, 128 + r % 64] := by
  unfold b1
  rw [if_neg (by omega), if_neg (by omega), if_pos h]
theorem b1_4 {r : Int} (h0 : 65535 < r) : b1 r = [240 + r / 262144, 128 + r / 4096 % 64, 128 + r / 64 % 64, 128 + r % 64] := by
  unfold b1
  rw [if_neg (by omega), if_neg (by omega), if_neg (by omega)]

theorem loB_cases (c : Int) : (c = 224 ∧ loB c = 160) ∨ (c = 240 ∧ loB c = 144) ∨ (c ≠ 224 ∧ c ≠ 240 ∧ loB c = 128) := by
  unfold loB
  by_cases h : c = 224
  · simp [h]
  · by_cases h' : c = 240
    · simp [h']
    · simp [h, h']
theorem hiB_cases (c : Int) : (c = 237 ∧ hiB c = 159) ∨ (c = 244 ∧ hiB c = 143) ∨ (c ≠ 237 ∧ c ≠ 244 ∧ hiB c = 191) := by
  unfold hiB
  by_cases h : c = 237
  · simp [h]
  · by_cases h' : c = 244
    · simp [h']
    · simp [h, h']

theorem take_of_get {bs : List Int} {c : Int} {t : List Int} (h : bs = c :: t) : bs.take 1 = [c] := by subst h; rfl
theorem take2 {c d : Int} {t : List Int} (h1 : (c :: t)[1]? = some d) : (c :: t).take 2 = [c, d] := by
  cases t with
  | nil => simp at h1
  | cons d' t => simp at h1; subst h1; rfl
theorem take3 {c d e : Int} {t : List Int} (h1 : (c :: t)[1]? = some d) (h2 : (c :: t)[2]? = some e) : (c :: t).take 3 = [c, d, e] := by
  cases t with
  | nil => simp at h1
  | cons d' t => cases t with
    | nil => simp at h2
    | cons e' t => simp at h1 h2; subst h1 h2; rfl
theorem take4 {c d e f : Int} {t : List Int} (h1 : (c :: t)[1]? = some d) (h2 : (c :: t)[2]? = some e) (h3 : (c :: t)[3]? = some f) : (c :: t).take 4 = [c, d, e, f] := by
  cases t with
  | nil => simp at h1
  | cons d' t => cases t with
    | nil => simp at h2
    | cons e' t => cases t with
      | nil => simp at h3
      | cons f' t => simp at h1 h2 h3; subst h1 h2 h3; rfl

/-- what is read as whole is the encoding of what it says -/
theorem first_true {bs : List Int} {r : Int} {k : Nat} (hb : Byt bs) (h : firstC bs = (r, k, true)) : sca r = true ∧ b1 r = bs.take k ∧ k = (b1 r).length := by
  cases bs with
  | nil => simp [firstC] at h
  | cons c t =>
    have hc := hb c (by simp)
    by_cases a1 : c ≤ 127
    · simp [firstC, lead1 a1, go] at h
      obtain ⟨rfl, rfl⟩ := h
      exact ⟨(sca_iff _).2 (by omega), by rw [b1_1 a1]; rfl, by rw [b1_1 a1]; rfl⟩
    by_cases a2 : c < 194 ∨ 244 < c
    · simp [firstC, lead0 (show 127 < c by omega) a2] at h
    by_cases a4 : c ≤ 223
    · simp only [firstC, lead2 (show 194 ≤ c by omega) a4, show (2 : Int).toNat = 2 from rfl, show ¬ (2 : Int) = 0 by decide, if_false] at h
      obtain ⟨d, hd, h1, h2, h3⟩ := go_true h
      simp only [go, Prod.mk.injEq, and_true] at h3
      obtain ⟨rfl, rfl⟩ := h3
      have e := b1_2 (r := c % 32 * 64 + d % 64) (by omega) (by omega)
      refine ⟨(sca_iff _).2 (by omega), ?_, by rw [e]; rfl⟩
      rw [e, take2 hd]
      have e1 : 192 + (c % 32 * 64 + d % 64) / 64 = c := by omega
      have e2 : 128 + (c % 32 * 64 + d % 64) % 64 = d := by omega
      rw [e1, e2]
    by_cases a5 : c ≤ 239
    · simp only [firstC, lead3 (show 224 ≤ c by omega) a5, show (3 : Int).toNat = 3 from rfl, show ¬ (3 : Int) = 0 by decide, if_false] at h
      obtain ⟨d, hd, h1, h2, h3⟩ := go_true h
      obtain ⟨e, he, h4, h5, h6⟩ := go_true h3
      simp only [go, Prod.mk.injEq, and_true] at h6
      obtain ⟨rfl, rfl⟩ := h6
      have hlo := loB_cases c
      have hhi := hiB_cases c
      have q := b1_3 (r := (c % 16 * 64 + d % 64) * 64 + e % 64) (by omega) (by omega)
      refine ⟨(sca_iff _).2 (by omega), ?_, by rw [q]; rfl⟩
      rw [q, take3 hd he]
      have e1 : 224 + ((c % 16 * 64 + d % 64) * 64 + e % 64) / 4096 = c := by omega
      have e2 : 128 + ((c % 16 * 64 + d % 64) * 64 + e % 64) / 64 % 64 = d := by omega
      have e3 : 128 + ((c % 16 * 64 + d % 64) * 64 + e % 64) % 64 = e := by omega
      rw [e1, e2, e3]
    · simp only [firstC, lead4 (show 240 ≤ c by omega) (show c ≤ 244 by omega), show (4 : Int).toNat = 4 from rfl, show ¬ (4 : Int) = 0 by decide, if_false] at h
      obtain ⟨d, hd, h1, h2, h3⟩ := go_true h
      obtain ⟨e, he, h4, h5, h6⟩ := go_true h3
      obtain ⟨f, hf, h7, h8, h9⟩ := go_true h6
      simp only [go, Prod.mk.injEq, and_true] at h9
      obtain ⟨rfl, rfl⟩ := h9
      have hlo := loB_cases c
      have hhi := hiB_cases c
      have q := b1_4 (r := ((c % 8 * 64 + d % 64) * 64 + e % 64) * 64 + f % 64) (by omega)
      refine ⟨(sca_iff _).2 (by omega), ?_, by rw [q]; rfl⟩
      rw [q, take4 hd he hf]
      have e1 : 240 + (((c % 8 * 64 + d % 64) * 64 + e % 64) * 64 + f % 64) / 262144 = c := by omega
      have e2 : 128 + (((c % 8 * 64 + d % 64) * 64 + e % 64) * 64 + f % 64) / 4096 % 64 = d := by omega
      have e3 : 128 + (((c % 8 * 64 + d % 64) * 64 + e % 64) * 64 + f % 64) / 64 % 64 = e := by omega
      have e4 : 128 + (((c % 8 * 64 + d % 64) * 64 + e % 64) * 64 + f % 64) % 64 = f := by omega
      rw [e1, e2, e3, e4]

/-- an encoding, whatever stands behind, is read as its scalar -/
theorem first_enc {r : Int} (t : List Int) (hs : sca r = true) : firstC (b1 r ++ t) = (r, (b1 r).length, true) := by
  have h := (sca_iff r).1 hs
  by_cases a1 : r ≤ 127
  · rw [b1_1 a1]
    simp [firstC, lead1 a1, go]
  by_cases a2 : r ≤ 2047
  · rw [b1_2 (by omega) a2]
    simp only [firstC, List.cons_append, List.nil_append, lead2 (show 194 ≤ 192 + r / 64 by omega) (show 192 + r / 64 ≤ 223 by omega), show (2 : Int).toNat = 2 from rfl, show ¬ (2 : Int) = 0 by decide, if_false]
    simp [go, show ¬ (128 + r % 64 < 128 ∨ 191 < 128 + r % 64) by omega]
    omega
  by_cases a3 : r ≤ 65535
  · rw [b1_3 (by omega) a3]
    simp only [firstC, List.cons_append, List.nil_append, lead3 (show 224 ≤ 224 + r / 4096 by omega) (show 224 + r / 4096 ≤ 239 by omega), show (3 : Int).toNat = 3 from rfl, show ¬ (3 : Int) = 0 by decide, if_false]
    have hlo := loB_cases (224 + r / 4096)
    have hhi := hiB_cases (224 + r / 4096)
    simp [go, show ¬ (128 + r / 64 % 64 < loB (224 + r / 4096) ∨ hiB (224 + r / 4096) < 128 + r / 64 % 64) by omega, show ¬ (128 + r % 64 < 128 ∨ 191 < 128 + r % 64) by omega]
    omega
  · rw [b1_4 (by omega)]
    simp only [firstC, List.cons_append, List.nil_append, lead4 (show 240 ≤ 240 + r / 262144 by omega) (show 240 + r / 262144 ≤ 244 by omega), show (4 : Int).toNat = 4 from rfl, show ¬ (4 : Int) = 0 by decide, if_false]
    have hlo := loB_cases (240 + r / 262144)
    have hhi := hiB_cases (240 + r / 262144)
    simp [go, show ¬ (128 + r / 4096 % 64 < loB (240 + r / 262144) ∨ hiB (240 + r / 262144) < 128 + r / 4096 % 64) by omega, show ¬ (128 + r / 64 % 64 < 128 ∨ 191 < 128 + r / 64 % 64) by omega, show ¬ (128 + r % 64 < 128 ∨ 191 < 128 + r % 64) by omega]
    omega

end Go.Proofs.YtjkfppgekepbeaaDoor.Utf
