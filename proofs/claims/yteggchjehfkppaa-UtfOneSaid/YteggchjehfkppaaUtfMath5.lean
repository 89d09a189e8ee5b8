/-
  Plain mathematics of UTF-8: one byte that is another one changes only codes that are near it.
-/
import Derived.Test.YteggchjehfkppaaUtfMath4
namespace Go.Proofs.Yteggchjehfkppaa.Utf

theorem go_inner (bs : List Int) (s : Nat) : ∀ (f i : Nat) (r lo hi : Int), i + f = s → 128 ≤ lo → hi ≤ 191 → ∀ j, i ≤ j → j < (go bs s f i r lo hi).2.1 → ∃ b, bs[j]? = some b ∧ isTail b
  | 0, i, r, lo, hi, h, _, _, j, h1, h2 => by simp only [go] at h2; omega
  | f + 1, i, r, lo, hi, h, hl, hh, j, h1, h2 => by
    unfold go at h2
    split at h2
    · simp only at h2; omega
    · rename_i b hb
      split at h2
      · simp only at h2; omega
      · rename_i hn
        rcases Nat.eq_or_lt_of_le h1 with e | h3
        · subst e; exact ⟨b, hb, by unfold isTail; omega⟩
        · exact go_inner bs s f (i + 1) _ _ _ (by omega) (by omega) (by omega) j h3 h2

/-- within a code all bytes but the first one are such as go on, and the first one is not -/
theorem first_inner {bs : List Int} {j : Nat} (h1 : 1 ≤ j) (h2 : j < (firstC bs).2.1) : (∃ b, bs[j]? = some b ∧ isTail b) ∧ ∃ c, bs[0]? = some c ∧ ¬ isTail c := by
  cases bs with
  | nil => simp [firstC] at h2
  | cons c t =>
    simp only [firstC] at h2
    split at h2
    · simp only at h2; omega
    · rename_i hn
      have key : 194 ≤ c ∧ 128 ≤ (lead c).2.2.1 ∧ (lead c).2.2.2 ≤ 191 := by
        by_cases c1 : c ≤ 127
        · rw [lead1 c1] at h2
          simp [go] at h2
          omega
        · by_cases c2 : c < 194 ∨ 244 < c
          · rw [lead0 (by omega) c2] at hn
            exact absurd rfl hn
          · have hlo := loB_cases c
            have hhi := hiB_cases c
            by_cases c3 : c ≤ 223
            · rw [lead2 (by omega) c3]
              exact ⟨by omega, by simp, by simp⟩
            · by_cases c4 : c ≤ 239
              · rw [lead3 (by omega) c4]
                exact ⟨by omega, by simp only; omega, by simp only; omega⟩
              · rw [lead4 (by omega) (by omega)]
                exact ⟨by omega, by simp only; omega, by simp only; omega⟩
      have hl := lead_size c
      exact ⟨go_inner _ _ _ _ _ _ _ (by omega) key.2.1 key.2.2 j h1 h2, c, rfl, by unfold isTail; omega⟩

/-- the code that begins at p -/
def cd (bs : List Int) (p : Nat) : Cd := ((firstC (bs.drop p)).1, p, p + (firstC (bs.drop p)).2.1, (firstC (bs.drop p)).2.2)

theorem mem_cd (bs : List Int) : ∀ (n k : Nat), bs.length - k ≤ n → ∀ x ∈ codesAt bs k, x = cd bs x.2.1
  | 0, k, h, x, hx => by rw [codesAt_end bs (by omega)] at hx; simp at hx
  | n + 1, k, h, x, hx => by
    by_cases hk : k < bs.length
    · have hl := first_len (drop_ne hk)
      rw [codesAt_step bs hk] at hx
      rcases List.mem_cons.1 hx with rfl | h1
      · rfl
      · exact mem_cd bs n _ (by omega) x h1
    · rw [codesAt_end bs (by omega)] at hx; simp at hx

theorem cover (bs : List Int) : ∀ (n k : Nat), bs.length - k ≤ n → ∀ p, k ≤ p → p < bs.length → ∃ x ∈ codesAt bs k, x.2.1 ≤ p ∧ p < x.2.2.1
  | 0, k, h, p, h1, h2 => by omega
  | n + 1, k, h, p, h1, h2 => by
    have hk : k < bs.length := by omega
    have hl := first_len (drop_ne hk)
    rw [codesAt_step bs hk]
    by_cases hp : p < k + (firstC (bs.drop k)).2.1
    · exact ⟨_, List.mem_cons_self, h1, hp⟩
    · obtain ⟨x, hx, h3⟩ := cover bs n _ (by omega) p (Nat.le_of_not_lt hp) h2
      exact ⟨x, List.mem_cons_of_mem _ hx, h3⟩

theorem apart (bs : List Int) : ∀ (n k : Nat), bs.length - k ≤ n → (codesAt bs k).Pairwise fun x y => x.2.2.1 ≤ y.2.1
  | 0, k, h => by rw [codesAt_end bs (by omega)]; exact List.Pairwise.nil
  | n + 1, k, h => by
    by_cases hk : k < bs.length
    · have hl := first_len (drop_ne hk)
      rw [codesAt_step bs hk]
      refine List.Pairwise.cons (fun y hy => ?_) (apart bs n _ (by omega))
      exact (codes_from_le bs (bs.length - (k + (firstC (bs.drop k)).2.1)) _ (Nat.le_refl _) y hy).1
    · rw [codesAt_end bs (by omega)]; exact List.Pairwise.nil

theorem mem_apart {bs : List Int} {x y : Cd} (hx : x ∈ codes bs) (hy : y ∈ codes bs) (h : x.2.1 < y.2.1) : x.2.2.1 ≤ y.2.1 := by
  have hp := apart bs bs.length 0 (by omega)
  rw [← codes_eq] at hp
  obtain ⟨i, hi, rfl⟩ := List.getElem_of_mem hx
  obtain ⟨j, hj, rfl⟩ := List.getElem_of_mem hy
  have key := List.pairwise_iff_getElem.1 hp
  rcases Nat.lt_trichotomy i j with h1 | h1 | h1
  · exact key i j hi hj h1
  · subst h1; omega
  · have h2 := key j i hj hi h1
    have hc := codes_from_le bs bs.length 0 (by omega) _ (by rw [← codes_eq]; exact hy)
    omega

theorem from_inj {bs : List Int} {i j : Nat} (hi : i < (codes bs).length) (hj : j < (codes bs).length) (h : (codes bs)[i].2.1 = (codes bs)[j].2.1) : i = j := by
  have hp := apart bs bs.length 0 (by omega)
  rw [← codes_eq] at hp
  have key := List.pairwise_iff_getElem.1 hp
  have c1 := codes_from_le bs bs.length 0 (by omega) (codes bs)[i] (by rw [← codes_eq]; exact List.getElem_mem _)
  have c2 := codes_from_le bs bs.length 0 (by omega) (codes bs)[j] (by rw [← codes_eq]; exact List.getElem_mem _)
  rcases Nat.lt_trichotomy i j with h1 | h1 | h1
  · have := key i j hi hj h1; omega
  · exact h1
  · have := key j i hj hi h1; omega

theorem drop_same {bs os : List Int} {k p : Nat} (h : ∀ j, j ≠ k → os[j]? = bs[j]?) (hp : k < p) : os.drop p = bs.drop p := by
  apply List.ext_getElem?
  intro i
  rw [List.getElem?_drop, List.getElem?_drop]
  exact h _ (by omega)

theorem behind {bs os : List Int} {k : Nat} (hlen : os.length = bs.length) (h : ∀ j, j ≠ k → os[j]? = bs[j]?) {x : Cd} (hx : x ∈ codes os) (hp : k + 3 < x.2.1) : x ∈ codes bs := by
  have hco := codes_from_le os os.length 0 (by omega) x (by rw [← codes_eq]; exact hx)
  obtain ⟨y, hy, hy1, hy2⟩ := cover bs bs.length 0 (by omega) x.2.1 (Nat.zero_le _) (by omega)
  rw [← codes_eq] at hy
  have ey := mem_cd bs bs.length 0 (by omega) y (by rw [← codes_eq]; exact hy)
  have ex := mem_cd os os.length 0 (by omega) x (by rw [← codes_eq]; exact hx)
  have hcy := codes_from_le bs bs.length 0 (by omega) y (by rw [← codes_eq]; exact hy)
  rcases Nat.eq_or_lt_of_le hy1 with e | hlt
  · have : x = y := by rw [ex, ey, e]; unfold cd; rw [drop_same h (by omega)]
    rw [this]; exact hy
  · exfalso
    have hy4 := first_len (drop_ne hcy.2.1)
    have eyt : y.2.2.1 = y.2.1 + (firstC (bs.drop y.2.1)).2.1 := congrArg (fun z : Cd => z.2.2.1) ey
    have hf : k < y.2.1 := by omega
    obtain ⟨_, c, hc0, hct⟩ := first_inner (bs := bs.drop y.2.1) (j := x.2.1 - y.2.1) (by omega) (by omega)
    obtain ⟨z, hz, hz1, hz2⟩ := cover os os.length 0 (by omega) y.2.1 (Nat.zero_le _) (by omega)
    rw [← codes_eq] at hz
    have ez := mem_cd os os.length 0 (by omega) z (by rw [← codes_eq]; exact hz)
    have ezt : z.2.2.1 = z.2.1 + (firstC (os.drop z.2.1)).2.1 := congrArg (fun z : Cd => z.2.2.1) ez
    rcases Nat.eq_or_lt_of_le hz1 with e2 | hlt2
    · have h3 := mem_apart hz hx (by omega)
      rw [e2, drop_same h hf] at ezt
      omega
    · obtain ⟨⟨b, hb, hbt⟩, _⟩ := first_inner (bs := os.drop z.2.1) (j := y.2.1 - z.2.1) (by omega) (by omega)
      rw [List.getElem?_drop, show z.2.1 + (y.2.1 - z.2.1) = y.2.1 from by omega, h _ (by omega)] at hb
      rw [List.getElem?_drop, Nat.add_zero, hb] at hc0
      injection hc0 with e3
      exact hct (e3 ▸ hbt)

theorem ahead {bs os : List Int} {k : Nat} (hlen : os.length = bs.length) (h : ∀ j, j ≠ k → os[j]? = bs[j]?) {x : Cd} (hk : x.2.2.1 + 3 ≤ k) : ∀ (n p : Nat), os.length - p ≤ n → x ∈ codesAt os p → x ∈ codesAt bs p
  | 0, p, h1, hx => by rw [codesAt_end os (by omega)] at hx; simp at hx
  | n + 1, p, h1, hx => by
    by_cases hp : p < os.length
    · have hne := drop_ne hp
      have hl := first_len hne
      have same : p + (firstC (os.drop p)).2.1 < k → firstC (bs.drop p) = firstC (os.drop p) := fun hq => first_same hne fun j h2 _ => by
        rw [List.getElem?_drop, List.getElem?_drop]
        exact (h _ (by omega)).symm
      rw [codesAt_step os hp] at hx
      rw [codesAt_step bs (by omega)]
      rcases List.mem_cons.1 hx with e | hx2
      · have e3 : x.2.2.1 = p + (firstC (os.drop p)).2.1 := congrArg (fun z : Cd => z.2.2.1) e
        rw [same (by omega), e]
        exact List.mem_cons_self
      · have h3 := codes_from_le os _ _ (Nat.le_refl _) x hx2
        rw [same (by omega)]
        exact List.mem_cons_of_mem _ (ahead hlen h hk n _ (by omega) hx2)
    · rw [codesAt_end os (by omega)] at hx; simp at hx

theorem one_byte {bs os : List Int} {k : Nat} (hlen : os.length = bs.length) (h : ∀ j, j ≠ k → os[j]? = bs[j]?) {x : Cd} (hx : x ∈ codes os) (hk : x.2.2.1 + 3 ≤ k ∨ k + 3 < x.2.1) : x ∈ codes bs := by
  rcases hk with h1 | h1
  · rw [codes_eq] at hx ⊢
    exact ahead hlen h h1 os.length 0 (by omega) hx
  · exact behind hlen h hx h1

end Go.Proofs.Yteggchjehfkppaa.Utf
