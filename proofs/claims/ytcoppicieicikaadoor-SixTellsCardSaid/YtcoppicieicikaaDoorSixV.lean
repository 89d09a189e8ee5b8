/-
  Texts that say no address; what a text that says one is made of.
-/
import Derived.Test.YtcoppicieicikaaDoorSixN
namespace Go.Proofs.YtcoppicieicikaaDoor.Sx
open Go.RowKit

theorem jn_snoc (q : List UInt8) : ∀ {ps : List (List UInt8)}, ps ≠ [] → jn (ps ++ [q]) = jn ps ++ 58 :: q
  | [p], _ => by have h := jn_two p q []; rw [jn_one] at h; rw [jn_one]; exact h
  | p :: r :: t, _ => by
    show jn (p :: r :: (t ++ [q])) = _
    rw [jn_two, jn_two, List.append_assoc]
    show _ = p ++ 58 :: (jn (r :: t) ++ 58 :: q)
    rw [← jn_snoc q (ps := r :: t) (by simp)]
    rfl
theorem four_no {p : List UInt8} (h : (46 : UInt8) ∉ p) : four p = none := by
  unfold four
  rw [cut1_none h]
  rfl
/-- a bad piece, and no '::' -/
theorem prs_bad {qs : List (List UInt8)} {p : List UInt8} (h58 : ∀ q ∈ qs, (58 : UInt8) ∉ q) (hne : jn qs ≠ []) (hnd : nd (jn qs)) (hp : p ∈ qs) (h1 : pce p = none) (h2 : four p = none) : prs (jn qs) = none := by
  refine prs_nd hnd fun x hx => ?_
  have hq : qs ≠ [] := fun e => by rw [e] at hp; simp at hp
  rw [prt, if_neg hne, spl_jn qs hq h58, rd_bad true h1 h2 hp] at hx
  cases hx
theorem prs_bad_gd {qs : List (List UInt8)} {p : List UInt8} (hg : gd qs) (hp : p ∈ qs) (h1 : pce p = none) (h2 : four p = none) : prs (jn qs) = none := by
  refine prs_bad (fun q hq => (hg q hq).2) ?_ (nd_jn hg) hp h1 h2
  intro e
  have := prt_jn hg
  rw [e] at this
  rw [← this] at hp
  simp [prt] at hp
theorem prs_many {qs : List (List UInt8)} (hg : gd qs) (h46 : ∀ q ∈ qs, (46 : UInt8) ∉ q) (h8 : qs.length ≠ 8) : prs (jn qs) = none :=
  prs_nd (nd_jn hg) fun x hx => by
    rw [prt_jn hg] at hx
    rw [rd_len true hx h46]
    exact h8
theorem hx_ne {x : List Nat} (h8 : x.length = 8) : hx x ≠ [] := fun e => by
  have := congrArg List.length e
  rw [hx, List.length_map, h8] at this
  simp at this
section
variable {x : List Nat} (h8 : x.length = 8) (h16 : ∀ m ∈ x, m < 65536)
include h16
theorem hx_no46 : ∀ q ∈ hx x, (46 : UInt8) ∉ q := fun q hq h => by
  obtain ⟨m, hm, rfl⟩ := List.mem_map.1 hq
  have := (pce_mem (pce_hex (h16 m hm))).2.2 _ h
  exact absurd this (by decide)
include h8
theorem w_colon : prs (jn (hx x) ++ [58]) = none := by
  have e := jn_snoc [] (hx_ne h8)
  rw [← e]
  refine prs_bad (p := []) (fun q hq => ?_) (by rw [e]; simp) (by rw [e]; exact nd_jn_colon (hx_gd h16)) (by simp) rfl rfl
  rcases List.mem_append.1 hq with h | h
  · exact ((hx_gd h16) q h).2
  · obtain rfl := List.mem_singleton.1 h; simp
theorem colon_w : prs (58 :: jn (hx x)) = none := by
  obtain ⟨a, b, c, d, e', f, g, i, rfl⟩ := eight h8
  have e : jn ([] :: hx [a, b, c, d, e', f, g, i]) = 58 :: jn (hx [a, b, c, d, e', f, g, i]) := jn_two [] _ _
  rw [← e]
  refine prs_bad (p := []) (fun q hq => ?_) (by rw [e]; simp) (by rw [e]; exact nd_colon_jn (hx_gd h16)) (by simp) rfl rfl
  rcases List.mem_cons.1 hq with h | h
  · subst h; simp
  · exact ((hx_gd h16) q h).2
theorem w_one : prs (jn (hx x) ++ [58, 49]) = none := by
  have e := jn_snoc [49] (hx_ne h8)
  rw [← e]
  refine prs_many ((hx_gd h16).app (fun q hq => by obtain rfl := List.mem_singleton.1 hq; exact ⟨by simp, by decide⟩)) (fun q hq => ?_) (by rw [List.length_append, hx, List.length_map, h8]; simp)
  rcases List.mem_append.1 hq with h | h
  · exact hx_no46 h16 q h
  · obtain rfl := List.mem_singleton.1 h; decide
theorem w_two : prs (jn (hx x) ++ [58, 58]) = none :=
  prs_two_no (qs := []) (y := []) (hx_gd h16) (fun q hq => by simp at hq) ((tld_hx h16).rd false) rfl (by rw [h8]; simp)
theorem two_w : prs (58 :: 58 :: jn (hx x)) = none :=
  prs_two_no (ps := []) (x := []) (fun q hq => by simp at hq) (hx_gd h16) rfl ((tld_hx h16).rd true) (by rw [h8]; simp)
theorem set_bad (k : Nat) (hk : k < 8) {p : List UInt8} (hp : p ≠ [] ∧ (58 : UInt8) ∉ p) (h1 : pce p = none) (h2 : four p = none) : prs (jn ((hx x).set k p)) = none :=
  prs_bad_gd (fun q hq => by
    rcases List.mem_or_eq_of_mem_set hq with h | h
    · exact (hx_gd h16) q h
    · subst h; exact hp) (List.mem_set (by rw [hx, List.length_map, h8]; exact hk) p) h1 h2
theorem less_bad (k : Nat) (hk : k < 8) : prs (jn ((hx x).take k ++ (hx x).drop (k + 1))) = none := by
  refine prs_many (((hx_gd h16).take k).app ((hx_gd h16).drop (k + 1))) (fun q hq => ?_) (by rw [List.length_append, List.length_take, List.length_drop, hx, List.length_map, h8]; omega)
  rcases List.mem_append.1 hq with h | h
  · exact hx_no46 h16 q (List.mem_of_mem_take h)
  · exact hx_no46 h16 q (List.mem_of_mem_drop h)
end
theorem three_bad : prs [58, 58, 58] = none := by decide +kernel
theorem three_in : prs [49, 58, 58, 58, 50] = none := by decide +kernel
/-- five bytes are no piece -/
theorem pce_five {p : List UInt8} (h : 4 < p.length) : pce p = none := by
  unfold pce
  rw [if_pos (.inr h)]
/-- a byte that is none of 0-9 a-f A-F and no colon -/
def hexc : List UInt8 := [48, 49, 50, 51, 52, 53, 54, 55, 56, 57, 97, 98, 99, 100, 101, 102, 65, 66, 67, 68, 69, 70, 58]
theorem odd_fin : ∀ c : Fin 256, UInt8.ofNat c.1 ∉ hexc → pce [UInt8.ofNat c.1] = none ∧ four [UInt8.ofNat c.1] = none ∧ (58 : UInt8) ∉ [UInt8.ofNat c.1] := by decide +kernel
theorem ok_fin : ∀ c : Fin 256, (dv (UInt8.ofNat c.1) < 16 ∨ UInt8.ofNat c.1 = 46 ∨ UInt8.ofNat c.1 = 58) → (hexc ++ [46]).contains (UInt8.ofNat c.1) = true := by decide +kernel
theorem ok_byte (c : UInt8) (h : dv c < 16 ∨ c = 46 ∨ c = 58) : (hexc ++ [46]).contains c = true := by
  have := ok_fin ⟨c.toNat, c.toNat_lt⟩
  simp only [UInt8.ofNat_toNat] at this
  exact this h
theorem prt_mem {l : List UInt8} {c : UInt8} (hc : c ∈ l) : c = 58 ∨ ∃ p ∈ prt l, c ∈ p := by
  unfold prt
  rw [if_neg (fun e => by rw [e] at hc; simp at hc)]
  exact spl_mem l c hc
theorem rdt_mem {emb : Bool} {l : List UInt8} {x : List Nat} (h : rdt emb l = some x) : ∀ c ∈ l, dv c < 16 ∨ c = 46 ∨ c = 58 := fun c hc => by
  rcases prt_mem hc with e | ⟨p, hp, hcp⟩
  · exact .inr (.inr e)
  · rcases ((rd_some emb (rdt_some h).1).2 p hp).2 c hcp with e | e
    · exact .inl e
    · exact .inr (.inl e)
theorem prs_cut {l : List UInt8} {x : List Nat} (h : prs l = some x) : (cutg [58, 58] l = none ∧ ∃ y, rdt true l = some y) ∨ ∃ p y z, cutg [58, 58] l = some p ∧ rdt false p.1 = some y ∧ rdt true p.2 = some z := by
  unfold prs at h
  split at h
  · rename_i hc
    split at h
    · rename_i y hy
      exact .inl ⟨hc, y, hy⟩
    · cases h
  · rename_i p hc
    split at h
    · rename_i y z hy hz
      exact .inr ⟨p, y, z, hc, hy, hz⟩
    · cases h
theorem prs_mem {l : List UInt8} {x : List Nat} (h : prs l = some x) : ∀ c ∈ l, (hexc ++ [46]).contains c = true := fun c hc => ok_byte c (by
  rcases prs_cut h with ⟨_, y, hy⟩ | ⟨p, y, z, hp, hy, hz⟩
  · exact rdt_mem hy c hc
  · rw [cutg_app hp] at hc
    rcases List.mem_append.1 hc with h1 | h1
    · rcases List.mem_append.1 h1 with h2 | h2
      · exact rdt_mem hy c h2
      · right; right; simpa using h2
    · exact rdt_mem hz c h1)
theorem spl_cons (c : UInt8) (t : List UInt8) : spl (c :: t) = if c = 58 then [] :: spl t else match spl t with
    | [] => [[c]]
    | p :: r => (c :: p) :: r := rfl
/-- behind '::' stands an empty piece -/
theorem two_empty : ∀ {l : List UInt8} {p : List UInt8 × List UInt8}, cutg [58, 58] l = some p → l ≠ [] ∧ [] ∈ (spl l).tail
  | [], _, h => by simp [cutg] at h
  | c :: t, p, h => by
    refine ⟨by simp, ?_⟩
    by_cases hc : c = 58 ∧ t.head? = some 58
    · obtain ⟨rfl, ht⟩ := hc
      cases t with
      | nil => simp at ht
      | cons d r =>
        obtain rfl : d = 58 := by simpa using ht
        rw [spl_cons, if_pos rfl, spl_cons, if_pos rfl]
        simp
    · rw [nd_not hc] at h
      cases ht : cutg [58, 58] t with
      | none => rw [ht] at h; cases h
      | some q =>
        have := (two_empty ht).2
        rw [spl_cons]
        split
        · exact List.mem_of_mem_tail this
        · split
          · rename_i e; exact absurd e (spl_ne t)
          · rename_i e; rw [e] at this; exact this
theorem rdt_nd {emb : Bool} {l : List UInt8} {x : List Nat} (h : rdt emb l = some x) : nd l := by
  cases hc : cutg [58, 58] l with
  | none => exact hc
  | some p =>
    obtain ⟨h1, h2⟩ := two_empty hc
    have h3 := (rdt_some h).1
    rw [prt, if_neg h1] at h3
    exact absurd rfl ((rd_some emb h3).2 [] (List.mem_of_mem_tail h2)).1
theorem prs_count {l : List UInt8} {x : List Nat} (h : prs l = some x) : Lib.count l [58, 58] ≤ 1 := by
  rcases prs_cut h with ⟨hc, _⟩ | ⟨p, y, z, hp, hy, hz⟩
  · rw [count_none hc]; omega
  · rw [count_one hp (rdt_nd hz)]; omega
theorem pre3 (c : UInt8) (t : List UInt8) : [58, 58, 58].isPrefixOf (c :: t) = true → c = 58 ∧ ∃ r, t = 58 :: 58 :: r := by
  intro h
  rcases t with _ | ⟨d, _ | ⟨e, r⟩⟩
  · simp [List.isPrefixOf] at h
  · simp [List.isPrefixOf] at h
  · simp [List.isPrefixOf] at h
    obtain ⟨h1, h2, h3⟩ := h
    exact ⟨h1.symm, r, by rw [← h2, ← h3]⟩
theorem three_two : ∀ {l : List UInt8} {q : List UInt8 × List UInt8}, cutg [58, 58, 58] l = some q → ∃ p, cutg [58, 58] l = some p ∧ (p.2.head? = some 58 ∨ ∃ r, cutg [58, 58] p.2 = some r)
  | [], _, h => by simp [cutg] at h
  | c :: t, q, h => by
    rw [cutg] at h
    split at h
    · rename_i hp
      obtain ⟨rfl, r, rfl⟩ := pre3 c t hp
      exact ⟨([], 58 :: r), cut2_now _, .inl rfl⟩
    · cases ht : cutg [58, 58, 58] t with
      | none => rw [ht] at h; cases h
      | some q' =>
        obtain ⟨p, hp, h2⟩ := three_two ht
        by_cases hc : c = 58 ∧ t.head? = some 58
        · obtain ⟨rfl, hh⟩ := hc
          cases t with
          | nil => simp at hh
          | cons d r =>
            obtain rfl : d = 58 := by simpa using hh
            refine ⟨([], r), cut2_now r, ?_⟩
            by_cases hr : r.head? = some 58
            · exact .inl hr
            · right
              rw [nd_not (fun e => hr e.2)] at hp
              cases hr2 : cutg [58, 58] r with
              | none => rw [hr2] at hp; cases hp
              | some s => exact ⟨s, rfl⟩
        · exact ⟨(c :: p.1, p.2), by rw [nd_not hc, hp]; rfl, h2⟩
theorem prs_three {l : List UInt8} {x : List Nat} (h : prs l = some x) : (cutg [58, 58, 58] l).isSome = false := by
  cases hq : cutg [58, 58, 58] l with
  | none => rfl
  | some q =>
    obtain ⟨p, hp, h2⟩ := three_two hq
    rcases prs_cut h with ⟨hc, _⟩ | ⟨p', y, z, hp', hy, hz⟩
    · rw [hp] at hc; cases hc
    · rw [hp] at hp'
      obtain rfl := Option.some.inj hp'
      rcases h2 with h2 | ⟨r, h2⟩
      · cases hl : p.2 with
        | nil => rw [hl] at h2; simp at h2
        | cons d t =>
          rw [hl] at h2 hz
          obtain rfl : d = 58 := by simpa using h2
          have h3 := (rdt_some hz).1
          rw [prt, if_neg (by simp), spl_cons, if_pos rfl] at h3
          exact absurd rfl ((rd_some true h3).2 [] (List.mem_cons_self ..)).1
      · have := rdt_nd hz
        rw [nd, h2] at this
        cases this
/-- a text of a set's bytes alone is trimmed away -/
theorem trim_all {l cs : List UInt8} (h : ∀ c ∈ l, cs.contains c = true) : Lib.trimS l cs = [] := by
  have hd : ∀ l : List UInt8, (∀ c ∈ l, cs.contains c = true) → l.dropWhile (cs.contains ·) = [] := by
    intro l
    induction l with
    | nil => intro _; rfl
    | cons a t ih =>
      intro h
      rw [List.dropWhile_cons, if_pos (h a (List.mem_cons_self ..))]
      exact ih fun c hc => h c (List.mem_cons_of_mem _ hc)
  unfold Lib.trimS Lib.trimRightS Lib.trimLeftS
  rw [hd l.reverse fun c hc => h c (List.mem_reverse.1 hc)]
  rfl
end Go.Proofs.YtcoppicieicikaaDoor.Sx
