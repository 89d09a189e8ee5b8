/-
  Digits of ten and sixteen, read from a row of bytes. No program here.
-/
namespace Ucd

/-- what a digit (of either base) is worth -/
def dig (c : UInt8) : Nat := if c.toNat ≤ 57 then c.toNat - 48 else c.toNat - 55
/-- is it a digit of the base, in upper case -/
def isDig (b : Nat) (c : UInt8) : Bool := (decide (48 ≤ c.toNat) && decide (c.toNat ≤ 57)) || (decide (b = 16) && decide (65 ≤ c.toNat) && decide (c.toNat ≤ 70))
/-- what digits say behind acc -/
def num (b : Nat) (acc : Nat) : List UInt8 → Nat
  | [] => acc
  | c :: l => num b (acc * b + dig c) l
/-- a number of one to four digits of the base -/
def isNum (b : Nat) (l : List UInt8) : Bool := decide (1 ≤ l.length) && decide (l.length ≤ 4) && l.all (isDig b)

/-- more than what k digits say -/
def bd (k : Nat) : Nat := if k = 0 then 1 else if k = 1 then 16 else if k = 2 then 256 else if k = 3 then 4096 else 65536

theorem isDig_lt {b : Nat} {c : UInt8} (h : isDig b c = true) (hb : b = 10 ∨ b = 16) : dig c < b := by
  unfold isDig at h
  unfold dig
  simp at h
  split <;> omega
theorem isDig_cases {b : Nat} {c : UInt8} (h : isDig b c = true) : (48 ≤ c.toNat ∧ c.toNat ≤ 57 ∧ dig c = c.toNat - 48) ∨ (b = 16 ∧ 65 ≤ c.toNat ∧ c.toNat ≤ 70 ∧ dig c = c.toNat - 55) := by
  unfold isDig at h
  unfold dig
  simp at h
  rcases h with h | h
  · exact .inl ⟨h.1, h.2, by rw [if_pos h.2]⟩
  · exact .inr ⟨h.1.1, h.1.2, h.2, by rw [if_neg (by omega)]⟩
theorem bd_step {k : Nat} {acc b d : Nat} (hk : k < 4) (h : acc < bd k) (hb : b = 10 ∨ b = 16) (hd : d < b) : acc * b + d < bd (k + 1) := by
  have : k = 0 ∨ k = 1 ∨ k = 2 ∨ k = 3 := by omega
  rcases this with rfl | rfl | rfl | rfl <;> simp [bd] at h ⊢ <;> rcases hb with rfl | rfl <;> omega
theorem bd_le {k acc : Nat} (h : acc < bd k) : acc < 65536 := by
  unfold bd at h
  repeat (split at h; · omega)
  exact h
theorem num_lt {b : Nat} (hb : b = 10 ∨ b = 16) : ∀ (l : List UInt8) (k acc : Nat), k + l.length ≤ 4 → acc < bd k → l.all (isDig b) = true → num b acc l < 65536
  | [], _, acc, _, h, _ => bd_le h
  | c :: l, k, acc, hk, h, hl => by
    simp at hk
    rw [List.all_cons, Bool.and_eq_true] at hl
    exact num_lt hb l (k + 1) _ (by omega) (bd_step (by omega) h hb (isDig_lt hl.1 hb)) hl.2
theorem num_small {b : Nat} (hb : b = 10 ∨ b = 16) {l : List UInt8} (h : isNum b l = true) : num b 0 l < 65536 := by
  unfold isNum at h
  simp only [Bool.and_eq_true, decide_eq_true_eq] at h
  exact num_lt hb l 0 0 (by omega) (by decide) h.2

end Ucd
