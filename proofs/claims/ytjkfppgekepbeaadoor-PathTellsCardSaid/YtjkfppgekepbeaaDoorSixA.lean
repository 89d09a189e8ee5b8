/-
  six, as mathematics: digits, pieces, texts parted at a sign, addresses.
-/
import Derived.Lib.Strings
import Derived.Lib.Join
import Derived.Lib.Case
import Derived.Lib.IndexMore
namespace Go.Proofs.YtjkfppgekepbeaaDoor.Sx
set_option maxRecDepth 100000

/-- what a digit is worth; 99: it is none -/
def dv (c : UInt8) : Nat := if 48 ≤ c.toNat ∧ c.toNat ≤ 57 then c.toNat - 48 else if 97 ≤ c.toNat ∧ c.toNat ≤ 102 then c.toNat - 87 else if 65 ≤ c.toNat ∧ c.toNat ≤ 70 then c.toNat - 55 else 99
/-- the number of digits, behind a number -/
def vgo (b : Nat) : Nat → List UInt8 → Option Nat
  | n, [] => some n
  | n, c :: t => if dv c < b then vgo b (n * b + dv c) t else none
theorem vgo_app (b : Nat) (k : List UInt8) : ∀ (l : List UInt8) (n : Nat), vgo b n (l ++ k) = (vgo b n l).bind fun m => vgo b m k
  | [], n => rfl
  | x :: t, n => by
    rw [List.cons_append, vgo, vgo]
    split
    · exact vgo_app b k t _
    · rfl
theorem vgo_lt (b : Nat) : ∀ (l : List UInt8) (n m : Nat), vgo b n l = some m → m < (n + 1) * b ^ l.length
  | [], n, m, h => by simp only [vgo, Option.some.injEq] at h; subst h; simp
  | x :: t, n, m, h => by
    rw [vgo] at h
    split at h
    · rename_i hx
      have := vgo_lt b t _ _ h
      rw [List.length_cons, Nat.pow_succ, Nat.mul_comm (b ^ t.length) b, ← Nat.mul_assoc]
      refine Nat.lt_of_lt_of_le this (Nat.mul_le_mul_right _ ?_)
      rw [Nat.add_mul, Nat.one_mul]
      omega
    · cases h
theorem vgo_mem (b : Nat) : ∀ (l : List UInt8) (n m : Nat), vgo b n l = some m → ∀ c ∈ l, dv c < b
  | x :: t, n, m, h, c, hc => by
    rw [vgo] at h
    split at h
    · rename_i hx
      rcases List.mem_cons.1 hc with h1 | h1
      · subst h1; exact hx
      · exact vgo_mem b t _ _ h c h1
    · cases h
theorem vgo_bad (b : Nat) : ∀ (l : List UInt8) (n : Nat) (c : UInt8), c ∈ l → ¬ dv c < b → vgo b n l = none
  | x :: t, n, c, hc, hb => by
    rw [vgo]
    split
    · rename_i hx
      rcases List.mem_cons.1 hc with h1 | h1
      · subst h1; exact absurd hx hb
      · exact vgo_bad b t _ c h1 hb
    · rfl
/-- a piece -/
def pce (p : List UInt8) : Option Nat := if p = [] ∨ 4 < p.length then none else vgo 16 0 p
theorem pce_lt {p : List UInt8} {n : Nat} (h : pce p = some n) : n < 65536 := by
  unfold pce at h
  split at h
  · cases h
  · rename_i hp
    have := vgo_lt 16 p 0 n h
    have h4 : 16 ^ p.length ≤ 16 ^ 4 := Nat.pow_le_pow_right (by decide) (by omega)
    rw [Nat.zero_add, Nat.one_mul] at this
    exact Nat.lt_of_lt_of_le this h4
theorem pce_mem {p : List UInt8} {n : Nat} (h : pce p = some n) : p ≠ [] ∧ p.length ≤ 4 ∧ ∀ c ∈ p, dv c < 16 := by
  unfold pce at h
  split at h
  · cases h
  · rename_i hp
    exact ⟨fun e => hp (.inl e), by omega, vgo_mem 16 p 0 n h⟩
theorem pce_bad {p : List UInt8} {c : UInt8} (hc : c ∈ p) (h : ¬ dv c < 16) : pce p = none := by
  unfold pce
  split
  · rfl
  · exact vgo_bad 16 p 0 c hc h
theorem pce_nil : pce [] = none := rfl
/-- a number of an embedded address -/
def dec (p : List UInt8) : Option Nat := if p = [] ∨ (1 < p.length ∧ p.head? = some 48) then none else match vgo 10 0 p with
  | some n => if n < 256 then some n else none
  | none => none
theorem dec_some {p : List UInt8} {n : Nat} (h : dec p = some n) : p ≠ [] ∧ vgo 10 0 p = some n ∧ n < 256 ∧ ∀ c ∈ p, dv c < 10 := by
  unfold dec at h
  split at h
  · cases h
  · rename_i hp
    split at h
    · rename_i m hm
      split at h
      · obtain rfl := Option.some.inj h
        exact ⟨fun e => hp (.inl e), hm, ‹_›, vgo_mem 10 p 0 _ hm⟩
      · cases h
    · cases h
theorem dec_bad {p : List UInt8} {c : UInt8} (hc : c ∈ p) (h : ¬ dv c < 10) : dec p = none := by
  unfold dec
  split
  · rfl
  · rw [vgo_bad 10 p 0 c hc h]

/-- a text, cut at the first place of another one -/
def cutg (sep : List UInt8) : List UInt8 → Option (List UInt8 × List UInt8)
  | [] => none
  | c :: t => if sep.isPrefixOf (c :: t) then some ([], (c :: t).drop sep.length) else (cutg sep t).map fun p => (c :: p.1, p.2)
theorem cutg_app {sep : List UInt8} : ∀ {l : List UInt8} {p : List UInt8 × List UInt8}, cutg sep l = some p → l = p.1 ++ sep ++ p.2
  | c :: t, p, h => by
    rw [cutg] at h
    split at h
    · rename_i hp
      obtain rfl := Option.some.inj h
      obtain ⟨r, hr⟩ := List.isPrefixOf_iff_prefix.1 hp
      rw [← hr]
      simp
    · obtain ⟨q, hq, rfl⟩ := Option.map_eq_some_iff.1 h
      have := cutg_app hq
      rw [this]
      simp
theorem index_eq {sep : List UInt8} (hs : sep ≠ []) : ∀ l : List UInt8, Lib.index l sep = match cutg sep l with | some p => (p.1.length : Int) | none => -1
  | [] => by
    cases sep with
    | nil => exact absurd rfl hs
    | cons a b => rfl
  | c :: t => by
    rw [Lib.index, cutg]
    split
    · rfl
    · rw [index_eq hs t]
      cases cutg sep t with
      | none => rfl
      | some q =>
        simp only [Option.map_some]
        have : ((q.1.length : Int) == -1) = false := by rw [beq_eq_false_iff_ne]; omega
        rw [this]
        simp
theorem cut_eq {sep : List UInt8} (hs : sep ≠ []) (l : List UInt8) : Lib.cut l sep = match cutg sep l with | some p => (p.1, p.2, true) | none => (l, [], false) := by
  unfold Lib.cut
  rw [index_eq hs]
  cases h : cutg sep l with
  | none => rfl
  | some p =>
    simp only
    rw [if_pos (by omega), Int.toNat_natCast]
    have := cutg_app h
    rw [this]
    simp
theorem contains_eq {sep : List UInt8} (hs : sep ≠ []) (l : List UInt8) : Lib.contains l sep = (cutg sep l).isSome := by
  unfold Lib.contains
  rw [index_eq hs]
  cases h : cutg sep l with
  | none => rfl
  | some p => simp only [Option.isSome_some]; rw [decide_eq_true]; omega
theorem pre1 (c x : UInt8) (t : List UInt8) : [c].isPrefixOf (x :: t) = (c == x) := by simp [List.isPrefixOf]
theorem cut1_app {c : UInt8} (b : List UInt8) : ∀ {a : List UInt8}, c ∉ a → cutg [c] (a ++ c :: b) = some (a, b)
  | [], _ => by rw [List.nil_append, cutg, pre1, if_pos (by simp)]; rfl
  | x :: t, h => by
    rw [List.cons_append, cutg, pre1, if_neg (by simp; exact fun e => h (by rw [e]; exact List.mem_cons_self ..)), cut1_app b (fun e => h (List.mem_cons_of_mem _ e))]
    rfl
theorem cut1_none {c : UInt8} : ∀ {a : List UInt8}, c ∉ a → cutg [c] a = none
  | [], _ => rfl
  | x :: t, h => by
    rw [cutg, pre1, if_neg (by simp; exact fun e => h (by rw [e]; exact List.mem_cons_self ..)), cut1_none (fun e => h (List.mem_cons_of_mem _ e))]
    rfl
theorem cut1_some {c : UInt8} : ∀ {l : List UInt8} {p : List UInt8 × List UInt8}, cutg [c] l = some p → l = p.1 ++ c :: p.2 ∧ c ∉ p.1
  | x :: t, p, h => by
    rw [cutg, pre1] at h
    split at h
    · rename_i e
      obtain rfl := Option.some.inj h
      have := eq_of_beq e
      subst this
      exact ⟨rfl, by simp⟩
    · rename_i e
      obtain ⟨q, hq, rfl⟩ := Option.map_eq_some_iff.1 h
      obtain ⟨h1, h2⟩ := cut1_some hq
      refine ⟨by rw [h1]; rfl, ?_⟩
      simp only [List.mem_cons, not_or]
      exact ⟨fun e' => e (by simp [e']), h2⟩
theorem first_of {c : UInt8} : ∀ {l : List UInt8}, c ∈ l → ∃ a b, l = a ++ c :: b ∧ c ∉ a
  | x :: t, hc => by
    by_cases e : x = c
    · subst e; exact ⟨[], t, rfl, by simp⟩
    · obtain ⟨a, b, e1, e2⟩ := first_of (l := t) (by rcases List.mem_cons.1 hc with h | h; exact absurd h.symm e; exact h)
      exact ⟨x :: a, b, by rw [e1]; rfl, by simp only [List.mem_cons, not_or]; exact ⟨fun h => e h.symm, e2⟩⟩
theorem cut1_mem {c : UInt8} {l : List UInt8} (h : cutg [c] l = none) : c ∉ l := fun hc => by
  obtain ⟨a, b, rfl, hn⟩ := first_of hc
  rw [cut1_app b hn] at h
  cases h

/-- a text, parted at its colons -/
def spl : List UInt8 → List (List UInt8)
  | [] => [[]]
  | c :: t => if c = 58 then [] :: spl t else match spl t with
    | [] => [[c]]
    | p :: r => (c :: p) :: r
theorem spl_ne (l : List UInt8) : spl l ≠ [] := by
  cases l with
  | nil => simp [spl]
  | cons c t =>
    rw [spl]
    split
    · simp
    · split <;> simp
theorem spl_one : ∀ a : List UInt8, (58 : UInt8) ∉ a → spl a = [a]
  | [], _ => rfl
  | c :: t, h => by
    rw [spl, if_neg (fun e => h (by rw [e]; exact List.mem_cons_self ..)), spl_one t (fun e => h (List.mem_cons_of_mem _ e))]
theorem spl_app (b : List UInt8) : ∀ a : List UInt8, (58 : UInt8) ∉ a → spl (a ++ 58 :: b) = a :: spl b
  | [], _ => by rw [List.nil_append, spl, if_pos rfl]
  | c :: t, h => by
    rw [List.cons_append, spl, if_neg (fun e => h (by rw [e]; exact List.mem_cons_self ..)), spl_app b t (fun e => h (List.mem_cons_of_mem _ e))]
theorem spl_no : ∀ (l : List UInt8), ∀ p ∈ spl l, (58 : UInt8) ∉ p
  | [], p, hp => by simp [spl] at hp; subst hp; simp
  | c :: t, p, hp => by
    rw [spl] at hp
    split at hp
    · rcases List.mem_cons.1 hp with h | h
      · subst h; simp
      · exact spl_no t p h
    · rename_i hc
      cases h : spl t with
      | nil => exact absurd h (spl_ne t)
      | cons q r =>
        rw [h] at hp
        rcases List.mem_cons.1 hp with h1 | h1
        · subst h1
          have := spl_no t q (by rw [h]; exact List.mem_cons_self ..)
          simp only [List.mem_cons, not_or]
          exact ⟨fun e => hc e.symm, this⟩
        · exact spl_no t p (by rw [h]; exact List.mem_cons_of_mem _ h1)
theorem spl_mem : ∀ (l : List UInt8) (c : UInt8), c ∈ l → c = 58 ∨ ∃ p ∈ spl l, c ∈ p
  | x :: t, c, hc => by
    rw [spl]
    split
    · rename_i hx
      rcases List.mem_cons.1 hc with h | h
      · left; rw [h, hx]
      · rcases spl_mem t c h with h | ⟨p, h1, h2⟩
        · exact .inl h
        · exact .inr ⟨p, List.mem_cons_of_mem _ h1, h2⟩
    · cases h : spl t with
      | nil => exact absurd h (spl_ne t)
      | cons q r =>
        rcases List.mem_cons.1 hc with h1 | h1
        · exact .inr ⟨x :: q, List.mem_cons_self .., by rw [h1]; exact List.mem_cons_self ..⟩
        · rcases spl_mem t c h1 with h1 | ⟨p, h1, h2⟩
          · exact .inl h1
          · rw [h] at h1
            rcases List.mem_cons.1 h1 with h3 | h3
            · subst h3; exact .inr ⟨x :: p, List.mem_cons_self .., List.mem_cons_of_mem _ h2⟩
            · exact .inr ⟨p, List.mem_cons_of_mem _ h3, h2⟩
abbrev jn (ps : List (List UInt8)) : List UInt8 := Lib.join ps [58]
theorem jn_two (p q : List UInt8) (r : List (List UInt8)) : jn (p :: q :: r) = p ++ 58 :: jn (q :: r) := by
  simp [jn, Lib.join, List.intercalate, List.intersperse]
theorem jn_nil : jn [] = [] := rfl
theorem jn_one (p : List UInt8) : jn [p] = p := Lib.join_one p [58]
theorem spl_jn : ∀ ps : List (List UInt8), ps ≠ [] → (∀ p ∈ ps, (58 : UInt8) ∉ p) → spl (jn ps) = ps
  | [], h, _ => absurd rfl h
  | [p], _, h => by
    rw [jn_one]
    exact spl_one p (h p (by simp))
  | p :: q :: r, _, h => by
    rw [jn_two, spl_app _ _ (h p (List.mem_cons_self ..)), spl_jn (q :: r) (by simp) (fun x hx => h x (List.mem_cons_of_mem _ hx))]
theorem jn_spl : ∀ l : List UInt8, jn (spl l) = l
  | [] => rfl
  | c :: t => by
    have ih := jn_spl t
    rw [spl]
    split
    · rename_i hc
      cases h : spl t with
      | nil => exact absurd h (spl_ne t)
      | cons q r => rw [jn_two, ← h, ih, hc]; rfl
    · cases h : spl t with
      | nil => exact absurd h (spl_ne t)
      | cons q r =>
        rw [h] at ih
        cases r with
        | nil => rw [jn_one] at ih ⊢; rw [ih]
        | cons s r => rw [jn_two] at ih ⊢; rw [List.cons_append, ih]

/-- no two colons beside one another -/
abbrev nd (l : List UInt8) : Prop := cutg [58, 58] l = none
theorem pre2 (x : UInt8) (t : List UInt8) : [58, 58].isPrefixOf (x :: t) = (x == 58 && (t.head? == some 58)) := by
  cases t with
  | nil => simp [List.isPrefixOf]
  | cons y r =>
    simp only [List.isPrefixOf, List.head?_cons, Bool.and_true]
    rw [Bool.eq_iff_iff]
    simp only [Bool.and_eq_true, beq_iff_eq, Option.some.injEq]
    exact ⟨fun h => ⟨h.1.symm, h.2.symm⟩, fun h => ⟨h.1.symm, h.2.symm⟩⟩
theorem nd_not {x : UInt8} {t : List UInt8} (h : ¬ (x = 58 ∧ t.head? = some 58)) : cutg [58, 58] (x :: t) = (cutg [58, 58] t).map fun p => (x :: p.1, p.2) := by
  rw [cutg, pre2, if_neg (by simpa using h)]
theorem cut2_now (b : List UInt8) : cutg [58, 58] (58 :: 58 :: b) = some ([], b) := by
  rw [cutg, pre2, if_pos (by simp)]
  rfl
theorem cut2_walk (r : List UInt8) : ∀ {p : List UInt8}, (58 : UInt8) ∉ p → cutg [58, 58] (p ++ r) = (cutg [58, 58] r).map fun q => (p ++ q.1, q.2)
  | [], _ => by
    cases h : cutg [58, 58] r with
    | none => rw [List.nil_append, h]; rfl
    | some q => rw [List.nil_append, h]; rfl
  | x :: t, h => by
    rw [List.cons_append, nd_not (fun e => h (by rw [e.1]; exact List.mem_cons_self ..)), cut2_walk r (fun e => h (List.mem_cons_of_mem _ e))]
    cases cutg [58, 58] r <;> rfl
theorem nd_plain {p : List UInt8} (h : (58 : UInt8) ∉ p) : nd p := by
  have := cut2_walk [] h
  rw [List.append_nil] at this
  exact this
/-- pieces that are not empty, without colons -/
def gd (ps : List (List UInt8)) : Prop := ∀ p ∈ ps, p ≠ [] ∧ (58 : UInt8) ∉ p
theorem gd.tail {p : List UInt8} {ps : List (List UInt8)} (h : gd (p :: ps)) : gd ps := fun x hx => h x (List.mem_cons_of_mem _ hx)
theorem gd.head {p : List UInt8} {ps : List (List UInt8)} (h : gd (p :: ps)) : p ≠ [] ∧ (58 : UInt8) ∉ p := h p (List.mem_cons_self ..)
theorem gd.app {a b : List (List UInt8)} (h1 : gd a) (h2 : gd b) : gd (a ++ b) := fun x hx => by
  rcases List.mem_append.1 hx with h | h
  · exact h1 x h
  · exact h2 x h
theorem gd.take {a : List (List UInt8)} (h : gd a) (k : Nat) : gd (a.take k) := fun x hx => h x (List.mem_of_mem_take hx)
theorem gd.drop {a : List (List UInt8)} (h : gd a) (k : Nat) : gd (a.drop k) := fun x hx => h x (List.mem_of_mem_drop hx)
theorem head_no {p : List UInt8} (r : List UInt8) (h1 : p ≠ []) (h2 : (58 : UInt8) ∉ p) : (p ++ r).head? ≠ some 58 := by
  cases p with
  | nil => exact absurd rfl h1
  | cons a t =>
    intro e
    exact h2 (by rw [← Option.some.inj e]; exact List.mem_cons_self ..)
theorem jn_head {p : List UInt8} {ps : List (List UInt8)} (r : List UInt8) (h : gd (p :: ps)) : (jn (p :: ps) ++ r).head? ≠ some 58 := by
  cases ps with
  | nil => rw [jn_one]; exact head_no r h.head.1 h.head.2
  | cons q t => rw [jn_two, List.append_assoc]; exact head_no _ h.head.1 h.head.2
theorem cut2_jn (r : List UInt8) : ∀ {ps : List (List UInt8)}, gd ps → cutg [58, 58] (jn ps ++ r) = (cutg [58, 58] r).map fun q => (jn ps ++ q.1, q.2)
  | [], _ => by
    cases h : cutg [58, 58] r with
    | none => rw [jn_nil, List.nil_append, h]; rfl
    | some q => rw [jn_nil, List.nil_append, h]; rfl
  | [p], h => by rw [jn_one]; exact cut2_walk r h.head.2
  | p :: q :: t, h => by
    rw [jn_two, List.append_assoc, cut2_walk _ h.head.2, List.cons_append, nd_not (fun e => jn_head r h.tail e.2), cut2_jn r h.tail]
    cases cutg [58, 58] r with
    | none => rfl
    | some u => simp
theorem nd_jn {ps : List (List UInt8)} (h : gd ps) : nd (jn ps) := by
  have := cut2_jn [] h
  rw [List.append_nil] at this
  exact this
theorem nd_jn_colon {ps : List (List UInt8)} (h : gd ps) : nd (jn ps ++ [58]) := by
  rw [nd, cut2_jn _ h]
  rfl
theorem nd_colon_jn {p : List UInt8} {ps : List (List UInt8)} (h : gd (p :: ps)) : nd (58 :: jn (p :: ps)) := by
  have := jn_head [] h
  rw [List.append_nil] at this
  rw [nd, nd_not (fun e => this e.2), nd_jn h]
  rfl
theorem cut2_both {ps : List (List UInt8)} (h : gd ps) (b : List UInt8) : cutg [58, 58] (jn ps ++ 58 :: 58 :: b) = some (jn ps, b) := by
  rw [cut2_jn _ h, cut2_now]
  simp
theorem nd_tail {x : UInt8} {t : List UInt8} (h : nd (x :: t)) : nd t := by
  rw [nd, cutg] at h
  split at h
  · cases h
  · exact Option.map_eq_none_iff.1 h

/-- the two pieces of an embedded address -/
def four (p : List UInt8) : Option (List Nat) := (cutg [46] p).bind fun q => (cutg [46] q.2).bind fun r => (cutg [46] r.2).bind fun s =>
  (dec q.1).bind fun a => (dec r.1).bind fun b => (dec s.1).bind fun c => (dec s.2).bind fun d => some [a * 256 + b, c * 256 + d]
/-- the pieces of parts -/
def rd (emb : Bool) : List (List UInt8) → Option (List Nat)
  | [] => some []
  | [p] => if emb = true ∧ (46 : UInt8) ∈ p then four p else (pce p).map fun a => [a]
  | p :: q :: r => (pce p).bind fun a => (rd emb (q :: r)).map fun l => a :: l
/-- the pieces of a text, at most eight -/
def prt (l : List UInt8) : List (List UInt8) := if l = [] then [] else spl l
def rdt (emb : Bool) (l : List UInt8) : Option (List Nat) := match rd emb (prt l) with
  | some x => if x.length ≤ 8 then some x else none
  | none => none
/-- the address that a text says -/
def prs (l : List UInt8) : Option (List Nat) := match cutg [58, 58] l with
  | none => match rdt true l with
    | some x => if x.length = 8 then some x else none
    | none => none
  | some p => match rdt false p.1, rdt true p.2 with
    | some x, some y => if x.length + y.length < 8 then some (x ++ List.replicate (8 - x.length - y.length) 0 ++ y) else none
    | _, _ => none
theorem four_some {p : List UInt8} {x : List Nat} (h : four p = some x) : ∃ a b c d : Nat, (a < 256 ∧ b < 256) ∧ (c < 256 ∧ d < 256) ∧ x = [a * 256 + b, c * 256 + d] ∧ p ≠ [] ∧ ∀ k ∈ p, dv k < 16 ∨ k = 46 := by
  obtain ⟨q, hq, h⟩ := Option.bind_eq_some_iff.1 h
  obtain ⟨r, hr, h⟩ := Option.bind_eq_some_iff.1 h
  obtain ⟨s, hs, h⟩ := Option.bind_eq_some_iff.1 h
  obtain ⟨a, ha, h⟩ := Option.bind_eq_some_iff.1 h
  obtain ⟨b, hb, h⟩ := Option.bind_eq_some_iff.1 h
  obtain ⟨c, hc, h⟩ := Option.bind_eq_some_iff.1 h
  obtain ⟨d, hd, h⟩ := Option.bind_eq_some_iff.1 h
  have e1 := (cut1_some hq).1
  have e2 := (cut1_some hr).1
  have e3 := (cut1_some hs).1
  have da := dec_some ha
  have db := dec_some hb
  have dc := dec_some hc
  have dd := dec_some hd
  refine ⟨a, b, c, d, ⟨da.2.2.1, db.2.2.1⟩, ⟨dc.2.2.1, dd.2.2.1⟩, (Option.some.inj h).symm, by rw [e1]; simp, fun k hk => ?_⟩
  rw [e1, e2, e3] at hk
  simp only [List.mem_append, List.mem_cons] at hk
  rcases hk with h | h | h | h | h | h | h
  · exact .inl (Nat.lt_trans (da.2.2.2 k h) (by decide))
  · exact .inr h
  · exact .inl (Nat.lt_trans (db.2.2.2 k h) (by decide))
  · exact .inr h
  · exact .inl (Nat.lt_trans (dc.2.2.2 k h) (by decide))
  · exact .inr h
  · exact .inl (Nat.lt_trans (dd.2.2.2 k h) (by decide))
theorem rd_some (emb : Bool) : ∀ {ps : List (List UInt8)} {x : List Nat}, rd emb ps = some x → (∀ n ∈ x, n < 65536) ∧ ∀ p ∈ ps, p ≠ [] ∧ ∀ c ∈ p, dv c < 16 ∨ c = 46
  | [], x, h => by
    obtain rfl := Option.some.inj h
    exact ⟨fun n hn => by simp at hn, fun p hp => by simp at hp⟩
  | [p], x, h => by
    rw [rd] at h
    split at h
    · obtain ⟨a, b, c, d, ⟨h1, h2⟩, ⟨h3, h4⟩, rfl, hp, hk⟩ := four_some h
      refine ⟨fun n hn => ?_, fun q hq => ?_⟩
      · simp at hn
        omega
      · simp at hq
        subst hq
        exact ⟨hp, hk⟩
    · obtain ⟨a, ha, rfl⟩ := Option.map_eq_some_iff.1 h
      refine ⟨fun n hn => ?_, fun q hq => ?_⟩
      · simp at hn
        subst hn
        exact pce_lt ha
      · simp at hq
        subst hq
        exact ⟨(pce_mem ha).1, fun c hc => .inl ((pce_mem ha).2.2 c hc)⟩
  | p :: q :: r, x, h => by
    rw [rd] at h
    obtain ⟨a, ha, h⟩ := Option.bind_eq_some_iff.1 h
    obtain ⟨l, hl, rfl⟩ := Option.map_eq_some_iff.1 h
    obtain ⟨h1, h2⟩ := rd_some emb hl
    refine ⟨fun n hn => ?_, fun s hs => ?_⟩
    · rcases List.mem_cons.1 hn with e | e
      · subst e; exact pce_lt ha
      · exact h1 n e
    · rcases List.mem_cons.1 hs with e | e
      · subst e; exact ⟨(pce_mem ha).1, fun c hc => .inl ((pce_mem ha).2.2 c hc)⟩
      · exact h2 s e
theorem rdt_some {emb : Bool} {l : List UInt8} {x : List Nat} (h : rdt emb l = some x) : rd emb (prt l) = some x ∧ x.length ≤ 8 := by
  unfold rdt at h
  split at h
  · split at h
    · rename_i y hy hl
      obtain rfl := Option.some.inj h
      exact ⟨hy, hl⟩
    · cases h
  · cases h
theorem prs_some {l : List UInt8} {x : List Nat} (h : prs l = some x) : x.length = 8 ∧ ∀ n ∈ x, n < 65536 := by
  unfold prs at h
  split at h
  · split at h
    · split at h
      · rename_i y hy hl
        obtain rfl := Option.some.inj h
        exact ⟨hl, (rd_some _ (rdt_some hy).1).1⟩
      · cases h
    · cases h
  · split at h
    · split at h
      · rename_i y z hy hz hl
        obtain rfl := Option.some.inj h
        refine ⟨by simp; omega, fun n hn => ?_⟩
        rcases List.mem_append.1 hn with hn | hn
        · rcases List.mem_append.1 hn with hn | hn
          · exact (rd_some _ (rdt_some hy).1).1 n hn
          · have := (List.mem_replicate.1 hn).2
            omega
        · exact (rd_some _ (rdt_some hz).1).1 n hn
      · cases h
    · cases h
theorem prt_jn : ∀ {ps : List (List UInt8)}, gd ps → prt (jn ps) = ps
  | [], _ => rfl
  | p :: r, h => by
    have hne : jn (p :: r) ≠ [] := by
      cases r with
      | nil => rw [jn_one]; exact h.head.1
      | cons q t => rw [jn_two]; simp
    rw [prt, if_neg hne, spl_jn _ (by simp) (fun x hx => (h x hx).2)]
/-- eight pieces -/
theorem prs_jn {ps : List (List UInt8)} {x : List Nat} (hg : gd ps) (h : rd true ps = some x) (h8 : x.length = 8) : prs (jn ps) = some x := by
  unfold prs
  rw [nd_jn hg]
  simp only
  rw [rdt, prt_jn hg, h]
  simp only
  rw [if_pos (by omega)]
  simp only
  rw [if_pos h8]
/-- fewer, with noughts between -/
theorem prs_two {ps qs : List (List UInt8)} {x y : List Nat} (hp : gd ps) (hq : gd qs) (h1 : rd false ps = some x) (h2 : rd true qs = some y) (h8 : x.length + y.length < 8) :
    prs (jn ps ++ 58 :: 58 :: jn qs) = some (x ++ List.replicate (8 - x.length - y.length) 0 ++ y) := by
  unfold prs
  rw [cut2_both hp]
  simp only
  rw [rdt, prt_jn hp, h1, rdt, prt_jn hq, h2]
  simp only
  rw [if_pos (by omega), if_pos (by omega)]
  simp only
  rw [if_pos h8]
theorem prs_two_no {ps qs : List (List UInt8)} {x y : List Nat} (hp : gd ps) (hq : gd qs) (h1 : rd false ps = some x) (h2 : rd true qs = some y) (h8 : ¬ x.length + y.length < 8) :
    prs (jn ps ++ 58 :: 58 :: jn qs) = none := by
  unfold prs
  rw [cut2_both hp]
  simp only
  rw [rdt, prt_jn hp, h1, rdt, prt_jn hq, h2]
  simp only
  by_cases hx : x.length ≤ 8
  · by_cases hy : y.length ≤ 8
    · rw [if_pos hx, if_pos hy]
      simp only
      rw [if_neg h8]
    · rw [if_neg hy]
      split <;> first | rfl | simp_all
  · rw [if_neg hx]
theorem prs_nd {l : List UInt8} (h : nd l) (h2 : ∀ x, rd true (prt l) = some x → x.length ≠ 8) : prs l = none := by
  unfold prs
  rw [h]
  simp only
  split
  · rename_i x hx
    rw [if_neg (h2 x (rdt_some hx).1)]
  · rfl
/-- pieces that are numbers -/
theorem rd_pieces (emb : Bool) : ∀ {ps : List (List UInt8)} {x : List Nat}, ps.map pce = x.map some → rd emb ps = some x
  | [], [], _ => rfl
  | [], _ :: _, h => by cases h
  | _ :: _, [], h => by cases h
  | [p], [a], h => by
    simp only [List.map_cons, List.map_nil, List.cons.injEq, and_true] at h
    rw [rd, if_neg, h]
    · rfl
    · intro e
      have := (pce_mem h).2.2 _ e.2
      revert this
      decide
  | [p], a :: b :: r, h => by simp at h
  | p :: q :: t, [a], h => by simp at h
  | p :: q :: t, a :: b :: r, h => by
    have h1 : pce p = some a := (List.cons.injEq .. ▸ h :).1
    have h2 : (q :: t).map pce = (b :: r).map some := (List.cons.injEq .. ▸ h :).2
    rw [rd, h1, rd_pieces emb h2]
    rfl
theorem gd_pieces : ∀ {ps : List (List UInt8)} {x : List Nat}, ps.map pce = x.map some → gd ps
  | [], _, _ => fun p hp => by simp at hp
  | _ :: _, [], h => by cases h
  | p :: t, a :: r, h => by
    have h1 : pce p = some a := (List.cons.injEq .. ▸ h :).1
    have h2 : t.map pce = r.map some := (List.cons.injEq .. ▸ h :).2
    intro q hq
    rcases List.mem_cons.1 hq with e | e
    · subst e
      have := pce_mem h1
      exact ⟨this.1, fun e => by have := this.2.2 _ e; revert this; decide⟩
    · exact gd_pieces h2 q e
theorem rd_bad (emb : Bool) {p : List UInt8} (h : pce p = none) (h2 : four p = none) : ∀ {ps : List (List UInt8)}, p ∈ ps → rd emb ps = none
  | [q], hp => by
    simp at hp
    subst hp
    rw [rd, h, h2]
    split <;> rfl
  | q :: r :: t, hp => by
    rw [rd]
    rcases List.mem_cons.1 hp with e | e
    · subst e; rw [h]; rfl
    · rw [rd_bad emb h h2 e]
      cases pce q <;> rfl
theorem rd_len (emb : Bool) : ∀ {ps : List (List UInt8)} {x : List Nat}, rd emb ps = some x → (∀ p ∈ ps, (46 : UInt8) ∉ p) → x.length = ps.length
  | [], x, h, _ => by obtain rfl := Option.some.inj h; rfl
  | [p], x, h, hn => by
    rw [rd, if_neg (fun e => hn p (by simp) e.2)] at h
    obtain ⟨a, ha, rfl⟩ := Option.map_eq_some_iff.1 h
    rfl
  | p :: q :: r, x, h, hn => by
    rw [rd] at h
    obtain ⟨a, ha, h⟩ := Option.bind_eq_some_iff.1 h
    obtain ⟨l, hl, rfl⟩ := Option.map_eq_some_iff.1 h
    rw [List.length_cons, rd_len emb hl (fun s hs => hn s (List.mem_cons_of_mem _ hs))]
    rfl
end Go.Proofs.YtjkfppgekepbeaaDoor.Sx
