/-
  Plain mathematics of Punycode: reading a text, delta by delta; a text is a row's just if it is read as that row. Nothing of the program.
-/
import Derived.Test.YtcdjjodiiaahfaaPunyMath4
namespace Puny

/-- the deltas that a row of digits yields, each with true; (0, false) where there is none -/
def rdL (s : List UInt8) (h lead part : Nat) : List (Nat × Bool) :=
  if _hs : s = [] then [] else
  match hn : num lead 1 s with
  | none => [(0, false)]
  | some (d, n) => if d < many * (h + 1) then (d, true) :: rdL (s.drop n) (h + 1) (next d part (h + 1)) 2 else [(0, false)]
termination_by s.length
decreasing_by
  have := num_back lead s 1 d n hn
  rw [List.length_drop]
  omega

theorem rdL_nil (h lead part : Nat) : rdL [] h lead part = [] := by rw [rdL, dif_pos rfl]
theorem rdL_none {s : List UInt8} {h lead part : Nat} (hs : s ≠ []) (hn : num lead 1 s = none) : rdL s h lead part = [(0, false)] := by
  rw [rdL, dif_neg hs]
  split
  · rfl
  · rename_i d n hh; rw [hn] at hh; cases hh
theorem rdL_some {s : List UInt8} {h lead part d n : Nat} (hs : s ≠ []) (hn : num lead 1 s = some (d, n)) :
    rdL s h lead part = if d < many * (h + 1) then (d, true) :: rdL (s.drop n) (h + 1) (next d part (h + 1)) 2 else [(0, false)] := by
  rw [rdL, dif_neg hs]
  split
  · rename_i hh; rw [hn] at hh; cases hh
  · rename_i d' n' hh
    rw [hn] at hh
    injection hh with hh
    injection hh with h1 h2
    subst h1 h2
    rfl

/-- what a row becomes by what is yielded -/
def insL : List Nat → Nat → Nat → List (Nat × Bool) → Option (List Nat × Nat × Nat)
  | out, n, i, [] => some (out, n, i)
  | out, n, i, (d, ok) :: ds =>
    if ok && sca (n + (i + d) / (out.length + 1)) then
      insL (out.take ((i + d) % (out.length + 1)) ++ (n + (i + d) / (out.length + 1)) :: out.drop ((i + d) % (out.length + 1))) (n + (i + d) / (out.length + 1)) ((i + d) % (out.length + 1) + 1) ds
    else none

theorem insL_append : ∀ (a b : List (Nat × Bool)) (out : List Nat) (n i : Nat), insL out n i (a ++ b) = (insL out n i a).bind fun r => insL r.1 r.2.1 r.2.2 b
  | [], b, out, n, i => rfl
  | (d, ok) :: a, b, out, n, i => by
    rw [List.cons_append, insL, insL]
    split
    · rw [insL_append]
    · rfl
theorem insL_none_prefix {a c : List (Nat × Bool)} {out : List Nat} {n i : Nat} (h : insL out n i a = none) (hp : a <+: c) : insL out n i c = none := by
  obtain ⟨b, rfl⟩ := hp
  rw [insL_append, h]; rfl
theorem insL_true : ∀ (ds out : List Nat) (n i : Nat), (insL out n i (ds.map fun d => (d, true))).map (·.1) = ins out n i ds
  | [], out, n, i => rfl
  | d :: ds, out, n, i => by
    rw [List.map_cons, insL, ins, Bool.true_and]
    split
    · exact insL_true ds _ _ _
    · rfl
theorem insL_len : ∀ (a : List (Nat × Bool)) (out : List Nat) (n i : Nat) (r : List Nat × Nat × Nat), insL out n i a = some r → r.1.length = out.length + a.length
  | [], out, n, i, r, h => by injection h with h; subst h; rfl
  | (d, ok) :: a, out, n, i, r, h => by
    rw [insL] at h
    split at h
    · have := insL_len a _ _ _ r h
      have hp := Nat.mod_lt (i + d) (show 0 < out.length + 1 by omega)
      rw [this]; simp; omega
    · cases h

theorem rdL_rdD (s : List UInt8) (h lead part : Nat) : (∃ ds, rdD s h lead part = some ds ∧ rdL s h lead part = ds.map fun d => (d, true)) ∨ (rdD s h lead part = none ∧ ∃ ds : List Nat, rdL s h lead part = (ds.map fun d => (d, true)) ++ [(0, false)]) := by
  fun_induction rdL s h lead part with
  | case1 h lead part => exact .inl ⟨[], rdD_nil _ _ _, rfl⟩
  | case2 s h lead part hs hn => exact .inr ⟨rdD_none hs hn, [], rfl⟩
  | case3 s h lead part hs d n hn hlt ih =>
    rw [rdD_some hs hn, if_pos hlt]
    rcases ih with ⟨ds, h1, h2⟩ | ⟨h1, ds, h2⟩
    · exact .inl ⟨d :: ds, by rw [h1]; rfl, by rw [h2]; rfl⟩
    · exact .inr ⟨by rw [h1]; rfl, d :: ds, by rw [h2]; rfl⟩
  | case4 s h lead part hs d n hn hlt => exact .inr ⟨by rw [rdD_some hs hn, if_neg hlt], [], rfl⟩

/-- what digits make of the basic ones -/
def decD (b : List Nat) (digits : List UInt8) : Option (List Nat) := (insL b 128 0 (rdL digits b.length 72 700)).map (·.1)
theorem decD_eq (b : List Nat) (digits : List UInt8) : decD b digits = (rdD digits b.length 72 700).bind (ins b 128 0) := by
  unfold decD
  rcases rdL_rdD digits b.length 72 700 with ⟨ds, h1, h2⟩ | ⟨h1, ds, h2⟩
  · rw [h1, h2, insL_true]; rfl
  · rw [h1, h2, insL_append]
    cases insL b 128 0 (ds.map fun d => (d, true)) with
    | none => rfl
    | some r => simp [insL]

theorem decD_enc {l : List Nat} (hs : ∀ x ∈ l, sca x = true) : decD (basics l) ((encD (deltas l) (basics l).length 72 700).map sign) = some l := by
  obtain ⟨h1, h2⟩ := ins_deltas l hs
  rw [decD_eq, rdD_encD _ _ _ _ h2]
  exact h1
theorem enc_decD {b r : List Nat} {digits : List UInt8} (hb : ∀ x ∈ b, x < 128) (h : decD b digits = some r) :
    basics r = b ∧ (encD (deltas r) b.length 72 700).map sign = digits ∧ (∀ x ∈ r, sca x = true) ∧ r.length ≤ b.length + digits.length := by
  rw [decD_eq] at h
  cases hd : rdD digits b.length 72 700 with
  | none => rw [hd] at h; cases h
  | some ds =>
    rw [hd] at h
    obtain ⟨h1, h2, h3, h4⟩ := deltas_ins hb h
    obtain ⟨h5, _⟩ := encD_rdD digits b.length 72 700 ds hd
    refine ⟨h2, by rw [h1]; exact h5, h3, ?_⟩
    have hle : ∀ (ds : List Nat) (h lead part : Nat), ds.length ≤ (encD ds h lead part).length := by
      intro ds
      induction ds with
      | nil => intro h lead part; exact Nat.zero_le _
      | cons d ds ih =>
        intro h lead part
        rw [encD, List.length_append, List.length_cons]
        have h1 := ih (h + 1) (next d part (h + 1)) 2
        have h2 : 0 < (digs lead 1 d).length := List.length_pos_iff.2 (digs_ne _ _ _)
        omega
    have := hle ds b.length 72 700
    rw [← h5, List.length_map]
    omega

end Puny
