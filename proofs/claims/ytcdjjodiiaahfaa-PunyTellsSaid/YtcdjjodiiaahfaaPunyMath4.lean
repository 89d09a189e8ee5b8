/-
  Plain mathematics of Punycode: the text of a row of deltas, delta by delta; how long it is. Nothing of the program.
-/
import Derived.Test.YtcdjjodiiaahfaaPunyMath3
namespace Puny

/-- the bias behind a row of deltas: where the thresholds lie, what the next delta is divided by -/
def bias : List Nat → Nat → Nat → Nat → Nat × Nat
  | [], _, lead, part => (lead, part)
  | d :: ds, h, _, part => bias ds (h + 1) (next d part (h + 1)) 2
theorem encD_snoc : ∀ (ds : List Nat) (h lead part d : Nat), encD (ds ++ [d]) h lead part = encD ds h lead part ++ digs (bias ds h lead part).1 1 d
  | [], h, lead, part, d => by simp [encD, bias]
  | x :: ds, h, lead, part, d => by rw [List.cons_append, encD, encD, encD_snoc, bias, List.append_assoc]
theorem bias_snoc : ∀ (ds : List Nat) (h lead part d : Nat), bias (ds ++ [d]) h lead part = (next d (bias ds h lead part).2 (h + ds.length + 1), 2)
  | [], h, lead, part, d => by simp [bias]
  | x :: ds, h, lead, part, d => by
    rw [List.cons_append, bias, bias, bias_snoc, List.length_cons, show h + 1 + ds.length + 1 = h + (ds.length + 1) + 1 by omega]

theorem adapt_le (d k : Nat) : adapt d k ≤ d + k + 36 := by
  fun_induction adapt d k with
  | case1 d k h ih => omega
  | case2 d k h =>
    have : 36 * d / (d + 38) ≤ 36 := by
      rw [Nat.div_le_iff_le_mul (by omega)]
      omega
    omega
theorem next_le (d part h : Nat) : next d part h ≤ 2 * d + 36 := by
  unfold next
  have h1 := adapt_le (d / part + d / part / h) 0
  have h2 := Nat.div_le_self d part
  have h3 := Nat.div_le_self (d / part) h
  omega

theorem digs_len (lead : Nat) : ∀ (e k d : Nat), d < 10 ^ e → (digs lead k d).length ≤ e + 1
  | 0, k, d, h => by
    have := thr_lo lead k
    rw [digs_last (by simp at h; omega)]; simp
  | e + 1, k, d, h => by
    by_cases hlt : d < thr lead k
    · rw [digs_last hlt]; simp
    · have h1 := thr_hi lead k
      have h2 : (d - thr lead k) / (36 - thr lead k) ≤ (d - thr lead k) / 10 := Nat.div_le_div_left (by omega) (by omega)
      have h3 : (d - thr lead k) / 10 < 10 ^ e := by
        rw [Nat.div_lt_iff_lt_mul (by omega)]
        rw [Nat.pow_succ] at h
        omega
      rw [digs_more hlt, List.length_cons]
      have := digs_len lead e (k + 1) _ (Nat.lt_of_le_of_lt h2 h3)
      omega
theorem digs_len10 (lead k d : Nat) (h : d ≤ 3000000000) : (digs lead k d).length ≤ 11 := digs_len lead 10 k d (by omega)

theorem ms_scan_len (m : Nat) : ∀ (l : List Nat) (p : Nat), (scan m l p).length = l.count m
  | [], _ => rfl
  | r :: l, p => by
    rw [scan, List.count_cons]
    by_cases h : r = m
    · rw [if_pos h, List.length_cons, ms_scan_len]; simp [h]
    · rw [if_neg h]
      split <;> rw [ms_scan_len] <;> simp [h]

end Puny
