/-
  fascialaw09: one code point put into a label that fails nothing. No program here but the table.
-/
import Derived.Test.YtnmijmhgmcapcaaDoorRulH
namespace Go.Proofs.YtnmijmhgmcapcaaDoor.Rul
open Go.RowKit Ucd

theorem fold_last : ∀ (cs : List Int) (a : Int), cs.foldl (fun a c => if c = 8 then a else c) a = if lastC cs = 8 then a else lastC cs
  | [], a => rfl
  | c :: t, a => by
    have h1 : lastC (c :: t) = if lastC t = 8 then c else lastC t := by
      show t.foldl (fun a c => if c = 8 then a else c) (if c = 8 then 8 else c) = _
      rw [fold_last t]
      by_cases h : c = 8
      · rw [if_pos h, h]
      · rw [if_neg h]
    rw [List.foldl_cons, fold_last t, h1]
    by_cases h : lastC t = 8
    · rw [if_pos h, if_pos h]
    · rw [if_neg h, if_neg h, if_neg h]
theorem lastC_cons {cs : List Int} (a : Int) (h : lastC cs ≠ 8) : lastC (a :: cs) = lastC cs := by
  show cs.foldl (fun a c => if c = 8 then a else c) (if a = 8 then 8 else a) = _
  rw [fold_last, if_neg h]
theorem vioC_10 {ins lst : Int} {cs : List Int} (h : cs.all (hs ins) = false) : vio ins lst cs = 10 := by
  unfold vio; rw [if_pos h]
theorem vioC_11 {ins lst : Int} {cs : List Int} (h : cs.all (hs ins) = true) (h2 : hs lst (lastC cs) = false) : vio ins lst cs = 11 := by
  unfold vio; rw [if_neg (by rw [h]; decide), if_pos h2]
theorem vioC_0 {ins lst : Int} {cs : List Int} : vio ins lst cs = 0 ↔ cs.all (hs ins) = true ∧ hs lst (lastC cs) = true ∧ (cs.any (hs 8) && cs.any (hs 64)) = false := by
  unfold vio
  cases h1 : cs.all (hs ins) with
  | false => simp
  | true =>
    cases h2 : hs lst (lastC cs) with
    | false => simp
    | true =>
      cases h3 : (cs.any (hs 8) && cs.any (hs 64)) <;> simp
theorem chkC_9 {c : Int} (h6 : hs 6 c = false) (h1 : hs 1 c = false) (cs : List Int) : chkC (c :: cs) = 9 := by
  show (if hs 6 c = true then vio 9214 78 (c :: cs) else if hs 1 c = true then vio 9145 9 (c :: cs) else 9) = 9
  rw [if_neg (by rw [h6]; decide), if_neg (by rw [h1]; decide)]
/-- what a direction is -/
structure Dir (f ins lst x y : Int) : Prop where
  h : ∀ (c : Int) (cs : List Int), 0 ≤ c ∧ c ≤ 22 → hs f c = true → chkC (c :: cs) = vio ins lst (c :: cs)
  x0 : hs f (bc x) = true
  x1 : hs ins (bc x) = true
  x2 : hs lst (bc x) = true
  x3 : bc x ≠ 8
  x4 : hs 8 (bc x) = false
  x5 : hs 64 (bc x) = false
  y1 : hs ins (bc y) = false
  d1 : hs ins 4 = true
  d2 : hs lst 4 = false
  n8 : hs lst 8 = false
theorem bc45 : bc 45 = 4 := by decide +kernel
theorem dir_r : Dir 6 9214 78 1488 97 := ⟨fun c cs _ h => if_pos h, by decide +kernel, by decide +kernel, by decide +kernel, by decide +kernel, by decide +kernel, by decide +kernel, by decide +kernel, by decide +kernel, by decide +kernel, by decide +kernel⟩
theorem hs_61 {c : Int} (h : 0 ≤ c ∧ c ≤ 22) (h1 : hs 1 c = true) : hs 6 c = false := by
  obtain ⟨k, rfl⟩ : ∃ k : Nat, c = (k : Int) := ⟨c.toNat, by omega⟩
  have : ∀ k : Nat, k < 23 → hs 1 (k : Int) = true → hs 6 (k : Int) = false := by decide +kernel
  exact this k (by omega) h1
theorem dir_l : Dir 1 9145 9 97 1488 := ⟨fun c cs hb h => by
  show (if hs 6 c = true then _ else _) = _
  rw [if_neg (by rw [hs_61 hb h]; decide)]
  exact if_pos h, by decide +kernel, by decide +kernel, by decide +kernel, by decide +kernel, by decide +kernel, by decide +kernel, by decide +kernel, by decide +kernel, by decide +kernel, by decide +kernel⟩

section
variable {f ins lst x y r : Int} {t : List Int}
theorem put_in (D : Dir f ins lst x y) (hf : hs f (bc r) = true) (A B : List Int) : chk (r :: A ++ y :: B) = 10 := by
  show chkC (bc r :: (A ++ y :: B).map bc) = 10
  rw [D.h _ _ (bc_bd r) hf]
  refine vioC_10 ?_
  rw [List.map_append, List.map_cons, List.all_cons, List.all_append, List.all_cons, D.y1]
  simp
theorem put_last (D : Dir f ins lst x y) (hf : hs f (bc r) = true) (h : vio ins lst (bc r :: t.map bc) = 0) : chk (r :: t ++ [x]) = 0 := by
  show chkC (bc r :: (t ++ [x]).map bc) = 0
  rw [D.h _ _ (bc_bd r) hf, List.map_append, List.map_singleton, ← List.cons_append]
  obtain ⟨h1, _, h3⟩ := vioC_0.1 h
  refine vioC_0.2 ⟨by rw [List.all_append, h1, List.all_cons, D.x1]; rfl, by rw [lastC_snoc, if_neg D.x3]; exact D.x2, ?_⟩
  have e1 : ((bc r :: t.map bc) ++ [bc x]).any (hs 8) = (bc r :: t.map bc).any (hs 8) := by rw [List.any_append]; simp [D.x4]
  have e2 : ((bc r :: t.map bc) ++ [bc x]).any (hs 64) = (bc r :: t.map bc).any (hs 64) := by rw [List.any_append]; simp [D.x5]
  rw [e1, e2]
  exact h3
theorem put_first (D : Dir f ins lst x y) (h : vio ins lst (bc r :: t.map bc) = 0) : chk (x :: r :: t) = 0 := by
  show chkC (bc x :: bc r :: t.map bc) = 0
  rw [D.h _ _ (bc_bd x) D.x0]
  obtain ⟨h1, h2, h3⟩ := vioC_0.1 h
  refine vioC_0.2 ⟨by rw [List.all_cons, h1, D.x1]; rfl, ?_, ?_⟩
  · rw [lastC_cons _ (fun e => by rw [e, D.n8] at h2; cases h2)]; exact h2
  · have e1 : (bc x :: bc r :: t.map bc).any (hs 8) = (bc r :: t.map bc).any (hs 8) := by rw [List.any_cons, D.x4, Bool.false_or]
    have e2 : (bc x :: bc r :: t.map bc).any (hs 64) = (bc r :: t.map bc).any (hs 64) := by rw [List.any_cons, D.x5, Bool.false_or]
    rw [e1, e2]
    exact h3
theorem put_hyphen (D : Dir f ins lst x y) (hf : hs f (bc r) = true) (h : vio ins lst (bc r :: t.map bc) = 0) : chk (r :: t ++ [45]) = 11 := by
  show chkC (bc r :: (t ++ [45]).map bc) = 11
  rw [D.h _ _ (bc_bd r) hf, List.map_append, List.map_singleton, ← List.cons_append, bc45]
  obtain ⟨h1, _, _⟩ := vioC_0.1 h
  exact vioC_11 (by rw [List.all_append, h1, List.all_cons, D.d1]; rfl) (by rw [lastC_snoc, if_neg (by decide)]; exact D.d2)
theorem put_ahead (l : List Int) : chk (45 :: l) = 9 := by
  show chkC (bc 45 :: l.map bc) = 9
  rw [bc45]
  exact chkC_9 (by decide +kernel) (by decide +kernel) _
end
/-- what a label that fails nothing is, and what becomes of it -/
theorem put_all {l : List Int} (h : chk l = 0) : ∃ r t own other, l = r :: t ∧ ((bc r = 0 ∧ own = 97 ∧ other = 1488) ∨ (bc r ≠ 0 ∧ own = 1488 ∧ other = 97)) ∧
    (∀ k, 0 < k → k ≤ l.length → chk (l.take k ++ other :: l.drop k) = 10) ∧ chk (l.take l.length ++ own :: l.drop l.length) = 0 ∧ chk (l.take 0 ++ own :: l.drop 0) = 0 ∧ chk (l.take l.length ++ 45 :: l.drop l.length) = 11 ∧ chk (l.take 0 ++ 45 :: l.drop 0) = 9 := by
  cases l with
  | nil => cases h
  | cons r t =>
    have key : ∀ {f ins lst x y : Int}, Dir f ins lst x y → hs f (bc r) = true → vio ins lst (bc r :: t.map bc) = 0 → (∀ k, 0 < k → k ≤ (r :: t).length → chk ((r :: t).take k ++ y :: (r :: t).drop k) = 10) ∧ chk ((r :: t).take (r :: t).length ++ x :: (r :: t).drop (r :: t).length) = 0 ∧ chk ((r :: t).take 0 ++ x :: (r :: t).drop 0) = 0 ∧ chk ((r :: t).take (r :: t).length ++ 45 :: (r :: t).drop (r :: t).length) = 11 ∧ chk ((r :: t).take 0 ++ 45 :: (r :: t).drop 0) = 9 := by
      intro f ins lst x y D hf hv
      refine ⟨fun k hk _ => ?_, ?_, ?_, ?_, ?_⟩
      · cases k with
        | zero => omega
        | succ k => rw [List.take_succ_cons]; exact put_in D hf _ _
      · rw [List.take_length, List.drop_length]; exact put_last D hf hv
      · exact put_first D hv
      · rw [List.take_length, List.drop_length]; exact put_hyphen D hf hv
      · exact put_ahead _
    have h' : (if hs 6 (bc r) = true then vio 9214 78 (bc r :: t.map bc) else if hs 1 (bc r) = true then vio 9145 9 (bc r :: t.map bc) else 9) = 0 := h
    by_cases h6 : hs 6 (bc r) = true
    · rw [if_pos h6] at h'
      refine ⟨r, t, 1488, 97, rfl, .inr ⟨fun e => ?_, rfl, rfl⟩, key dir_r h6 h'⟩
      rw [e] at h6
      exact absurd h6 (by decide +kernel)
    · rw [if_neg h6] at h'
      by_cases h1 : hs 1 (bc r) = true
      · rw [if_pos h1] at h'
        refine ⟨r, t, 97, 1488, rfl, .inl ⟨?_, rfl, rfl⟩, key dir_l h1 h'⟩
        rw [(hs_all (bc_bd r)).2.1] at h1
        simpa [S] using h1
      · rw [if_neg h1] at h'
        cases h'
end Go.Proofs.YtnmijmhgmcapcaaDoor.Rul
