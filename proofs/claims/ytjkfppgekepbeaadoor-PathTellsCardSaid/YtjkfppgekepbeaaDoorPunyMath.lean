/-
  Plain mathematics of Punycode: digits of a delta, deltas of insertions, and back. Nothing of the program.
-/
namespace Puny

/-! ### digits -/
def thr (lead k : Nat) : Nat := min (max (36 * k - lead) 1) 26
theorem thr_lo (lead k : Nat) : 1 ≤ thr lead k := by unfold thr; omega
theorem thr_hi (lead k : Nat) : thr lead k ≤ 26 := by unfold thr; omega

theorem digs_dec {t d : Nat} (h : ¬ d < t) (h1 : 1 ≤ t) : (d - t) / (36 - t) < d := by
  have := Nat.div_le_self (d - t) (36 - t)
  omega

def digs (lead k d : Nat) : List Nat :=
  if h : d < thr lead k then [d]
  else (thr lead k + (d - thr lead k) % (36 - thr lead k)) :: digs lead (k + 1) ((d - thr lead k) / (36 - thr lead k))
termination_by d
decreasing_by exact digs_dec h (thr_lo lead k)

theorem digs_last {lead k d : Nat} (h : d < thr lead k) : digs lead k d = [d] := by rw [digs, dif_pos h]
theorem digs_more {lead k d : Nat} (h : ¬ d < thr lead k) : digs lead k d = (thr lead k + (d - thr lead k) % (36 - thr lead k)) :: digs lead (k + 1) ((d - thr lead k) / (36 - thr lead k)) := by
  rw [digs, dif_neg h]
theorem digs_ne (lead k d : Nat) : digs lead k d ≠ [] := by
  rw [digs]; split <;> simp

theorem digs_lt (lead k d : Nat) : ∀ x ∈ digs lead k d, x < 36 := by
  fun_induction digs lead k d with
  | case1 k d h => intro x hx; have := thr_hi lead k; simp at hx; omega
  | case2 k d h ih =>
    intro x hx
    rcases List.mem_cons.1 hx with rfl | hx
    · have := thr_hi lead k
      have := Nat.mod_lt (d - thr lead k) (show 0 < 36 - thr lead k by omega)
      omega
    · exact ih x hx

/-- digits, as numbers below 36, as signs and back -/
def sign (d : Nat) : UInt8 := if d < 26 then UInt8.ofNat (97 + d) else UInt8.ofNat (22 + d)
def worth (c : UInt8) : Option Nat := if 97 ≤ c.toNat ∧ c.toNat ≤ 122 then some (c.toNat - 97) else if 48 ≤ c.toNat ∧ c.toNat ≤ 57 then some (c.toNat - 22) else none

theorem sign_nat {d : Nat} (h : d < 36) : (sign d).toNat = if d < 26 then 97 + d else 22 + d := by
  unfold sign; split <;> simp <;> omega
theorem worth_sign {d : Nat} (h : d < 36) : worth (sign d) = some d := by
  unfold worth
  rw [sign_nat h]
  split
  · rw [if_pos (by omega)]; congr 1; omega
  · rw [if_neg (by omega), if_pos (by omega)]; congr 1; omega
theorem sign_worth {c : UInt8} {d : Nat} (h : worth c = some d) : sign d = c ∧ d < 36 := by
  unfold worth at h
  split at h
  · injection h with h
    subst h
    refine ⟨UInt8.toNat_inj.1 ?_, by omega⟩
    rw [sign_nat (by omega)]; split <;> omega
  · split at h
    · injection h with h
      subst h
      refine ⟨UInt8.toNat_inj.1 ?_, by omega⟩
      rw [sign_nat (by omega)]; split <;> omega
    · cases h
theorem sign_ne_hyphen {d : Nat} (h : d < 36) : sign d ≠ 45 := by
  intro e
  have := congrArg UInt8.toNat e
  rw [sign_nat h] at this
  have h45 : (45 : UInt8).toNat = 45 := rfl
  rw [h45] at this
  split at this <;> omega

/-- what a row of signs begins with: its value, and how many signs it has -/
def num (lead : Nat) : Nat → List UInt8 → Option (Nat × Nat)
  | _, [] => none
  | k, c :: cs =>
    match worth c with
    | none => none
    | some x => if x < thr lead k then some (x, 1) else
      match num lead (k + 1) cs with
      | none => none
      | some (v, n) => some (x + (36 - thr lead k) * v, n + 1)

theorem num_digs (lead k d : Nat) (rest : List UInt8) : num lead k ((digs lead k d).map sign ++ rest) = some (d, (digs lead k d).length) := by
  fun_induction digs lead k d with
  | case1 k d h =>
    have := thr_hi lead k
    simp only [List.map_cons, List.map_nil, List.cons_append, num, List.nil_append, worth_sign (show d < 36 by omega)]
    rw [if_pos h]; rfl
  | case2 k d h ih =>
    have h1 := thr_hi lead k
    have h2 := Nat.mod_lt (d - thr lead k) (show 0 < 36 - thr lead k by omega)
    have h3 := Nat.div_add_mod (d - thr lead k) (36 - thr lead k)
    simp only [List.map_cons, List.cons_append, num, worth_sign (show thr lead k + (d - thr lead k) % (36 - thr lead k) < 36 by omega)]
    rw [if_neg (by omega), ih]
    simp only [List.length_cons, Option.some.injEq, Prod.mk.injEq, and_true]
    omega

theorem num_back (lead : Nat) : ∀ (s : List UInt8) (k v n : Nat), num lead k s = some (v, n) → s.take n = (digs lead k v).map sign ∧ n = (digs lead k v).length ∧ 0 < n ∧ n ≤ s.length
  | [], _, _, _, h => by simp [num] at h
  | c :: cs, k, v, n, h => by
    have h1 := thr_hi lead k
    unfold num at h
    cases hc : worth c with
    | none => rw [hc] at h; cases h
    | some x =>
      rw [hc] at h
      obtain ⟨hs, hx⟩ := sign_worth hc
      simp only at h
      split at h
      · rename_i hlt
        simp only [Option.some.injEq, Prod.mk.injEq] at h
        obtain ⟨rfl, rfl⟩ := h
        rw [digs_last hlt]
        simp [hs]
      · rename_i hlt
        cases hr : num lead (k + 1) cs with
        | none => rw [hr] at h; cases h
        | some r =>
          obtain ⟨v', n'⟩ := r
          rw [hr] at h
          simp only [Option.some.injEq, Prod.mk.injEq] at h
          obtain ⟨rfl, rfl⟩ := h
          obtain ⟨i1, i2, i3, i4⟩ := num_back lead cs (k + 1) v' n' hr
          have e1 : (x + (36 - thr lead k) * v' - thr lead k) % (36 - thr lead k) = x - thr lead k := by
            rw [show x + (36 - thr lead k) * v' - thr lead k = (x - thr lead k) + (36 - thr lead k) * v' by omega, Nat.add_mul_mod_self_left, Nat.mod_eq_of_lt (by omega)]
          have e2 : (x + (36 - thr lead k) * v' - thr lead k) / (36 - thr lead k) = v' := by
            rw [show x + (36 - thr lead k) * v' - thr lead k = (x - thr lead k) + (36 - thr lead k) * v' by omega, Nat.add_mul_div_left _ _ (by omega), Nat.div_eq_of_lt (by omega), Nat.zero_add]
          have hge : ¬ x + (36 - thr lead k) * v' < thr lead k := by omega
          rw [digs_more hge, e1, e2]
          refine ⟨?_, by simp [i2], by omega, by simp; omega⟩
          rw [List.take_succ_cons, i1, List.map_cons, show thr lead k + (x - thr lead k) = x by omega, hs]

/-! ### the bias -/
def adapt (d k : Nat) : Nat := if h : 455 < d then adapt (d / 35) (k + 36) else k + 36 * d / (d + 38)
termination_by d
decreasing_by omega
/-- the bias behind a delta -/
def next (d part h : Nat) : Nat := adapt (d / part + d / part / h) 0

/-! ### deltas as text, and back -/
def encD : List Nat → Nat → Nat → Nat → List Nat
  | [], _, _, _ => []
  | d :: ds, h, lead, part => digs lead 1 d ++ encD ds (h + 1) (next d part (h + 1)) 2

theorem encD_lt : ∀ (ds : List Nat) (h lead part : Nat), ∀ x ∈ encD ds h lead part, x < 36
  | [], _, _, _, x, hx => by simp [encD] at hx
  | d :: ds, h, lead, part, x, hx => by
    rw [encD] at hx
    rcases List.mem_append.1 hx with hx | hx
    · exact digs_lt _ _ _ x hx
    · exact encD_lt ds _ _ _ x hx

/-- the number of code points -/
abbrev many : Nat := 1114112

/-- the deltas that a text of digits says; none: it says none (or one that is not below its limit) -/
def rdD (s : List UInt8) (h lead part : Nat) : Option (List Nat) :=
  if _hs : s = [] then some [] else
  match hn : num lead 1 s with
  | none => none
  | some (d, n) => if d < many * (h + 1) then (rdD (s.drop n) (h + 1) (next d part (h + 1)) 2).map (d :: ·) else none
termination_by s.length
decreasing_by
  have := num_back lead s 1 d n hn
  rw [List.length_drop]
  omega

theorem rdD_nil (h lead part : Nat) : rdD [] h lead part = some [] := by rw [rdD, dif_pos rfl]
theorem rdD_none {s : List UInt8} {h lead part : Nat} (hs : s ≠ []) (hn : num lead 1 s = none) : rdD s h lead part = none := by
  rw [rdD, dif_neg hs]
  split
  · rfl
  · rename_i d n hh; rw [hn] at hh; cases hh
theorem rdD_some {s : List UInt8} {h lead part d n : Nat} (hs : s ≠ []) (hn : num lead 1 s = some (d, n)) :
    rdD s h lead part = if d < many * (h + 1) then (rdD (s.drop n) (h + 1) (next d part (h + 1)) 2).map (d :: ·) else none := by
  rw [rdD, dif_neg hs]
  split
  · rename_i hh; rw [hn] at hh; cases hh
  · rename_i d' n' hh
    rw [hn] at hh
    injection hh with hh
    injection hh with h1 h2
    subst h1 h2
    rfl

/-- each delta is below its limit -/
def Small : List Nat → Nat → Prop
  | [], _ => True
  | d :: ds, h => d < many * (h + 1) ∧ Small ds (h + 1)

theorem rdD_encD : ∀ (ds : List Nat) (h lead part : Nat), Small ds h → rdD ((encD ds h lead part).map sign) h lead part = some ds
  | [], h, lead, part, _ => by simp [encD, rdD_nil]
  | d :: ds, h, lead, part, hs => by
    have hne : (encD (d :: ds) h lead part).map sign ≠ [] := by
      rw [encD, List.map_append]
      simp [digs_ne]
    have hn : num lead 1 ((encD (d :: ds) h lead part).map sign) = some (d, (digs lead 1 d).length) := by
      rw [encD, List.map_append]; exact num_digs lead 1 d _
    rw [rdD_some hne hn, if_pos hs.1]
    have : ((encD (d :: ds) h lead part).map sign).drop (digs lead 1 d).length = (encD ds (h + 1) (next d part (h + 1)) 2).map sign := by
      rw [encD, List.map_append, List.drop_append_of_le_length (by simp), List.drop_of_length_le (by simp), List.nil_append]
    rw [this, rdD_encD ds _ _ _ hs.2]
    rfl

theorem encD_rdD (s : List UInt8) (h lead part : Nat) : ∀ ds, rdD s h lead part = some ds → (encD ds h lead part).map sign = s ∧ Small ds h := by
  fun_induction rdD s h lead part with
  | case1 h lead part => intro ds hd; injection hd with hd; subst hd; simp [encD, Small]
  | case2 s h lead part hs hn => intro ds hd; cases hd
  | case3 s h lead part hs d n hn hlt ih =>
    intro ds hd
    cases hr : rdD (s.drop n) (h + 1) (next d part (h + 1)) 2 with
    | none => rw [hr] at hd; cases hd
    | some ds' =>
      rw [hr] at hd
      injection hd with hd
      subst hd
      obtain ⟨i1, i2⟩ := ih ds' hr
      obtain ⟨j1, _, _, _⟩ := num_back lead s 1 d n hn
      refine ⟨?_, hlt, i2⟩
      rw [encD, List.map_append, i1, ← j1, List.take_append_drop]
  | case4 s h lead part hs d n hn hlt => intro ds hd; cases hd

end Puny
