/-
  Plain facts on the text of a row: its head and its digits; a text is read as a row just if it is that row's text; with one digit less, or one that is another one.
-/
import Derived.Test.YtcdjjodiiaahfaaPunyP
namespace Go.Proofs.Ytcdjjodiiaahfaa
open Go.RowKit Go.Shelf Puny

def hd (l : List Nat) : List UInt8 := (Puny.basics l).map UInt8.ofNat ++ (if Puny.basics l = [] then [] else [45])
def tl (l : List Nat) : List UInt8 := (encD (deltas l) (Puny.basics l).length 72 700).map sign
theorem encT_parts (l : List Nat) : encT l = hd l ++ tl l := rfl
theorem hd_nil {l : List Nat} (h : Puny.basics l = []) : hd l = [] := by simp [hd, h]
theorem hd_cons {l : List Nat} (h : Puny.basics l ≠ []) : hd l = (Puny.basics l).map UInt8.ofNat ++ [45] := by simp [hd, h]

theorem basics_lt (l : List Nat) : ∀ x ∈ Puny.basics l, x < 128 := fun x hx => by
  unfold Puny.basics at hx
  simpa using (List.mem_filter.1 hx).2
theorem nat8_of {l : List Nat} (h : ∀ x ∈ l, x < 128) : nat8 (l.map UInt8.ofNat) = l := by
  unfold nat8
  rw [List.map_map]
  conv => rhs; rw [← List.map_id l]
  refine List.map_congr_left fun x hx => ?_
  have := h x hx
  simp; omega
theorem of_nat8 (l : List UInt8) : (nat8 l).map UInt8.ofNat = l := by
  unfold nat8
  rw [List.map_map]
  conv => rhs; rw [← List.map_id l]
  exact List.map_congr_left fun x _ => by simp

theorem tl_sign (l : List Nat) : ∀ c ∈ tl l, ∃ d, d < 36 ∧ c = sign d := fun c hc => by
  obtain ⟨d, hd, rfl⟩ := List.mem_map.1 hc
  exact ⟨d, encD_lt _ _ _ _ d hd, rfl⟩
theorem tl_no45 (l : List Nat) : 45 ∉ tl l := fun h => by
  obtain ⟨d, hd, e⟩ := tl_sign l _ h
  exact sign_ne_hyphen hd e.symm
theorem tl_worth (l : List Nat) : ∀ c ∈ tl l, worth c ≠ none := fun c hc => by
  obtain ⟨d, hd, rfl⟩ := tl_sign l _ hc
  rw [worth_sign hd]; simp

theorem splitLast_none_inv : ∀ {l : List UInt8}, splitLast l = none → 45 ∉ l
  | [], _ => by simp
  | x :: l, h => by
    rw [splitLast] at h
    cases hs : splitLast l with
    | some p => rw [hs] at h; cases h
    | none =>
      rw [hs] at h
      have hx : x ≠ 45 := fun e => by simp [e] at h
      have := splitLast_none_inv hs
      simp only [List.mem_cons, not_or]
      exact ⟨fun e => hx e.symm, this⟩
theorem splitLast_some_inv : ∀ {l a b : List UInt8}, splitLast l = some (a, b) → l = a ++ 45 :: b ∧ 45 ∉ b
  | [], _, _, h => by cases h
  | x :: l, a, b, h => by
    rw [splitLast] at h
    cases hs : splitLast l with
    | some p =>
      obtain ⟨p1, p2⟩ := p
      rw [hs] at h
      simp only [Option.some.injEq, Prod.mk.injEq] at h
      obtain ⟨h1, h2⟩ := splitLast_some_inv hs
      obtain ⟨rfl, rfl⟩ := h
      exact ⟨by rw [h1]; rfl, h2⟩
    | none =>
      rw [hs] at h
      by_cases hx : x = 45
      · simp only [hx, if_true, Option.some.injEq, Prod.mk.injEq] at h
        obtain ⟨rfl, rfl⟩ := h
        exact ⟨by rw [hx]; rfl, splitLast_none_inv hs⟩
      · simp [hx] at h

theorem dt_enc {l : List Nat} (hs : ∀ x ∈ l, sca x = true) : dt (encT l) = some l := by
  have h := decD_enc hs
  rw [encT_parts]
  by_cases hb : Puny.basics l = []
  · rw [hd_nil hb, List.nil_append]
    unfold dt
    rw [splitLast_none (tl_no45 l)]
    unfold tl
    rw [hb] at h ⊢
    exact h
  · rw [hd_cons hb, List.append_assoc]
    unfold dt
    rw [List.singleton_append, splitLast_mk (tl_no45 l)]
    have h1 : ((Puny.basics l).map UInt8.ofNat).all (fun x => decide (x.toNat < 128)) = true := by
      rw [List.all_eq_true]
      intro x hx
      obtain ⟨y, hy, rfl⟩ := List.mem_map.1 hx
      have := basics_lt l y hy
      simp; omega
    have h2 : 0 < ((Puny.basics l).map UInt8.ofNat).length := by rw [List.length_map]; exact List.length_pos_iff.2 hb
    simp only [h1, h2, and_self, if_true]
    rw [nat8_of (basics_lt l)]
    exact h

theorem enc_dt {s : List UInt8} {r : List Nat} (h : dt s = some r) : encT r = s ∧ (∀ x ∈ r, sca x = true) ∧ r.length ≤ s.length := by
  unfold dt at h
  cases hs : splitLast s with
  | none =>
    rw [hs] at h
    obtain ⟨h1, h2, h3, h4⟩ := enc_decD (b := []) (by simp) h
    refine ⟨?_, h3, by simpa using h4⟩
    rw [encT_parts, hd_nil h1, List.nil_append]
    unfold tl
    rw [h1]
    exact h2
  | some p =>
    obtain ⟨a, b⟩ := p
    obtain ⟨hsp, hnb⟩ := splitLast_some_inv hs
    rw [hs] at h
    by_cases hc : a.all (fun x => decide (x.toNat < 128)) = true ∧ 0 < a.length
    · simp only [hc, and_self, if_true] at h
      have hlt : ∀ x ∈ nat8 a, x < 128 := fun x hx => by
        unfold nat8 at hx
        obtain ⟨y, hy, rfl⟩ := List.mem_map.1 hx
        simpa using List.all_eq_true.1 hc.1 y hy
      obtain ⟨h1, h2, h3, h4⟩ := enc_decD hlt h
      have hl : (nat8 a).length = a.length := by unfold nat8; rw [List.length_map]
      have hne : Puny.basics r ≠ [] := by rw [h1]; intro e; rw [e] at hl; simp at hl; omega
      refine ⟨?_, h3, by rw [hsp, List.length_append, List.length_cons]; omega⟩
      rw [encT_parts, hd_cons hne, h1, of_nat8, hsp, List.append_assoc]
      unfold tl
      rw [h1, h2]
      rfl
    · have e : (a.all (fun x => decide (x.toNat < 128)) = true ∧ 0 < a.length) = False := eq_false hc
      simp only [e, if_false] at h
      cases h

theorem enc_inj {a b : List Nat} (ha : ∀ x ∈ a, sca x = true) (hb : ∀ x ∈ b, sca x = true) : encT a = encT b ↔ a = b :=
  ⟨fun h => by have h1 := dt_enc ha; rw [h, dt_enc hb] at h1; exact (Option.some.inj h1).symm, fun h => by rw [h]⟩

theorem deltas_len {l : List Nat} (hs : ∀ x ∈ l, sca x = true) : l.length = (Puny.basics l).length + (deltas l).length :=
  (deltas_ins (basics_lt l) (ins_deltas l hs).1).2.2.2
theorem encD_len : ∀ (ds : List Nat) (h lead part : Nat), ds.length ≤ (encD ds h lead part).length
  | [], _, _, _ => Nat.zero_le _
  | d :: ds, h, lead, part => by
    rw [encD, List.length_append, List.length_cons]
    have h1 := encD_len ds (h + 1) (next d part (h + 1)) 2
    have h2 : 0 < (digs lead 1 d).length := List.length_pos_iff.2 (digs_ne _ _ _)
    omega
theorem tl_len (l : List Nat) : (deltas l).length ≤ (tl l).length := by
  unfold tl; rw [List.length_map]; exact encD_len _ _ _ _
theorem tl_nil {l : List Nat} (h : (deltas l).length = 0) : tl l = [] := by
  unfold tl; rw [List.length_eq_zero_iff.1 h]; rfl
theorem encD_long : ∀ (ds : List Nat) (h lead part : Nat), Small ds h → h + ds.length ≤ 2000 → (encD ds h lead part).length ≤ 11 * ds.length
  | [], _, _, _, _, _ => Nat.zero_le _
  | d :: ds, h, lead, part, hs, hh => by
    rw [encD, List.length_append, List.length_cons]
    rw [List.length_cons] at hh
    have h1 := encD_long ds (h + 1) (next d part (h + 1)) 2 hs.2 (by omega)
    have h2 : many * (h + 1) ≤ many * 2001 := Nat.mul_le_mul_left _ (by omega)
    have h3 := digs_len10 lead 1 d (by have := hs.1; unfold many at *; omega)
    omega
theorem encT_len {l : List Nat} (hs : ∀ x ∈ l, sca x = true) (hl : l.length ≤ 900) : (encT l).length ≤ 10000 := by
  have h0 := deltas_len hs
  have h1 := encD_long _ _ 72 700 (ins_deltas l hs).2 (by omega)
  rw [encT_parts, List.length_append]
  have h2 : (tl l).length ≤ 11 * (deltas l).length := by unfold tl; rw [List.length_map]; exact h1
  have h3 : (hd l).length ≤ (Puny.basics l).length + 1 := by
    unfold hd; rw [List.length_append, List.length_map]; split <;> simp
  omega

/-! one digit less -/
theorem num_ext (lead : Nat) : ∀ (s : List UInt8) (k v n : Nat) (t : List UInt8), num lead k s = some (v, n) → num lead k (s ++ t) = some (v, n)
  | [], _, _, _, _, h => by simp [num] at h
  | c :: cs, k, v, n, t, h => by
    rw [num] at h
    rw [List.cons_append, num]
    cases hw : worth c with
    | none => rw [hw] at h; cases h
    | some x =>
      rw [hw] at h
      simp only [] at h ⊢
      split at h
      · rename_i hx; rw [if_pos hx]; exact h
      · rename_i hx
        rw [if_neg hx]
        cases hn : num lead (k + 1) cs with
        | none => rw [hn] at h; cases h
        | some p =>
          obtain ⟨p1, p2⟩ := p
          rw [num_ext lead cs (k + 1) p1 p2 t hn]
          rw [hn] at h
          exact h
theorem encD_cut : ∀ (ds1 : List Nat) (h lead part : Nat) (ds2 : List Nat), ((encD ds1 h lead part).map sign).dropLast = (encD ds2 h lead part).map sign → ds1 ≠ [] → ds2.length < ds1.length
  | [], _, _, _, _, _, hne => absurd rfl hne
  | d :: rest, h, lead, part, [], _, _ => by simp
  | d :: rest, h, lead, part, d2 :: rest2, he, _ => by
    rw [encD, encD, List.map_append, List.map_append] at he
    have hX : (digs lead 1 d).map sign ≠ [] := by simpa using digs_ne lead 1 d
    have n2 := num_digs lead 1 d2 ((encD rest2 (h + 1) (next d2 part (h + 1)) 2).map sign)
    by_cases hr : rest = []
    · subst hr
      rw [encD, List.map_nil, List.append_nil] at he
      have hl := congrArg List.length he
      rw [List.length_dropLast, List.length_append, List.length_map, List.length_map] at hl
      have n1 := num_digs lead 1 d []
      rw [List.append_nil] at n1
      rw [← he] at n2
      have n3 := num_ext lead _ _ _ _ [((digs lead 1 d).map sign).getLast hX] n2
      rw [List.dropLast_concat_getLast hX, n1] at n3
      simp only [Option.some.injEq, Prod.mk.injEq] at n3
      have h0 : 0 < (digs lead 1 d).length := List.length_pos_iff.2 (digs_ne _ _ _)
      omega
    · have hR : (encD rest (h + 1) (next d part (h + 1)) 2).map sign ≠ [] := fun e => by
        have h1 := encD_len rest (h + 1) (next d part (h + 1)) 2
        have h2 := congrArg List.length e
        rw [List.length_map] at h2
        have h3 : 0 < rest.length := List.length_pos_iff.2 hr
        simp at h2
        rw [h2] at h1
        simp at h1
        exact hr h1
      rw [List.dropLast_append_of_ne_nil hR] at he
      have n1 := num_digs lead 1 d ((encD rest (h + 1) (next d part (h + 1)) 2).map sign).dropLast
      rw [he, n2] at n1
      simp only [Option.some.injEq, Prod.mk.injEq] at n1
      obtain ⟨rfl, _⟩ := n1
      have := encD_cut rest (h + 1) (next d2 part (h + 1)) 2 rest2 (List.append_cancel_left he) hr
      simp only [List.length_cons]
      omega

theorem mem_hd {l : List Nat} (h : Puny.basics l ≠ []) : 45 ∈ hd l := by rw [hd_cons h]; simp
theorem split_uniq {m l : List Nat} {t : List UInt8} (h : encT m = hd l ++ t) (ht : 45 ∉ t) : Puny.basics m = Puny.basics l ∧ tl m = t := by
  rw [encT_parts] at h
  by_cases h1 : Puny.basics m = []
  · by_cases h2 : Puny.basics l = []
    · rw [hd_nil h1, hd_nil h2] at h
      exact ⟨h1.trans h2.symm, h⟩
    · have := mem_hd h2
      rw [hd_nil h1, List.nil_append] at h
      exact absurd (by rw [h]; exact List.mem_append_left _ this) (tl_no45 m)
  · by_cases h2 : Puny.basics l = []
    · have := mem_hd h1
      rw [hd_nil h2, List.nil_append] at h
      exact absurd (by rw [← h]; exact List.mem_append_left _ this) ht
    · rw [hd_cons h1, hd_cons h2, List.append_assoc, List.append_assoc, List.singleton_append, List.singleton_append] at h
      have e1 := splitLast_mk (a := (Puny.basics m).map UInt8.ofNat) (tl_no45 m)
      rw [h, splitLast_mk ht] at e1
      simp only [Option.some.injEq, Prod.mk.injEq] at e1
      refine ⟨?_, e1.2.symm⟩
      rw [← nat8_of (basics_lt m), ← nat8_of (basics_lt l), e1.1]

theorem cut_one {l m : List Nat} (hd0 : deltas l ≠ []) (h : dt (encT l).dropLast = some m) (hs : ∀ x ∈ l, sca x = true) : m.length < l.length := by
  obtain ⟨h1, h2, _⟩ := enc_dt h
  have hne : tl l ≠ [] := fun e => by
    have h1 := tl_len l
    rw [e] at h1
    exact hd0 (List.length_eq_zero_iff.1 (by simpa using h1))
  rw [encT_parts l, List.dropLast_append_of_ne_nil hne] at h1
  obtain ⟨h3, h4⟩ := split_uniq h1 (fun hh => tl_no45 l ((List.dropLast_sublist _).subset hh))
  unfold tl at h4
  rw [h3] at h4
  have h5 := encD_cut _ _ _ _ _ h4.symm hd0
  have h6 := deltas_len hs
  have h7 := deltas_len h2
  rw [h3] at h7
  omega
/-- a sign that is none -/
theorem bad_one {l : List Nat} {k : Nat} {c : UInt8} (hk : k < (tl l).length) (hc : worth c = none) (h45 : c ≠ 45) : dt (hd l ++ (tl l).set k c) = none := by
  cases h : dt (hd l ++ (tl l).set k c) with
  | none => rfl
  | some m =>
    obtain ⟨h1, _, _⟩ := enc_dt h
    obtain ⟨_, h4⟩ := split_uniq h1 (fun hh => by
      rcases List.mem_or_eq_of_mem_set hh with h | h
      · exact tl_no45 l h
      · exact h45 h.symm)
    have hm : c ∈ tl m := by rw [h4]; exact List.mem_iff_getElem.2 ⟨k, by simpa using hk, by simp⟩
    exact absurd hc (tl_worth m c hm)
end Go.Proofs.Ytcdjjodiiaahfaa
