/-
  fascialaw09.RuleClauses: a map that counts classes; what clauses say of the classes.
-/
import Derived.Test.YtnmijmhgmcapcaaDoorRulI
import Derived.Maps.OwnOps
import Derived.Maps.Views
import Derived.Maps.OwnSet
import Derived.Maps.RangeWalk
namespace Go.Proofs.YtnmijmhgmcapcaaDoor.Rul
open Go.RowKit Go.Maps Ucd

theorem law8 : Keyed Tryd.prog 5 := int_keyed Tryd.underlying5
theorem zero8 (w : World) : (zeroValue 3).run Tryd.prog w = .ok (.int .i64 0) w := by kernel_rfl
abbrev CM (w : World) (b n : Nat) (D : DataW Unit) : Prop := w.ownsMap Tryd.prog 5 (plainElem Tryd.prog 3) b n D
/-- how often each class stands in cs; what is a key stands there -/
def Cnt (cs : List Int) (D : DataW Unit) : Prop := IsMap D ∧ (∀ c, (Lit.int .u8 c).wf = true → D.atKey (.int .u8 c) (.lit (.int .i64 0)) = .lit (.int .i64 ((cs.count c : Nat) : Int))) ∧ ∀ c, Maps.has D (.int .u8 c) = true → c ∈ cs
theorem cnt_nil : Cnt [] (.map []) := ⟨isMap_empty, fun _ _ => rfl, fun c h => by simp [Maps.has] at h⟩
theorem wf_cls {c : Int} (h : 0 ≤ c ∧ c ≤ 22) : (Lit.int .u8 c).wf = true := by
  simp [Lit.wf, IntKind.min, IntKind.max, IntKind.bits, IntKind.signed]; omega
theorem cnt_step {cs : List Int} {D : DataW Unit} {x v : Int} (h : Cnt cs D) (hx : (Lit.int .u8 x).wf = true) (hc : D.atKey (.int .u8 x) (.lit (.int .i64 0)) = .lit (.int .i64 v)) :
    v = (cs.count x : Nat) ∧ Cnt (cs ++ [x]) (D.put (.int .u8 x) (.lit (.int .i64 (v + 1)))) := by
  have e := h.2.1 x hx
  rw [hc] at e
  have e1 : v = (cs.count x : Nat) := (Lit.int.inj (DataW.lit.inj e)).2
  refine ⟨e1, h.1.put _ _, fun y hy => ?_, fun y hy => ?_⟩
  · by_cases hxy : y = x
    · subst hxy
      rw [atKey_put_same h.1 (law8.key (keyOf_int_mk Tryd.underlying5 hy)), e1, List.count_append, List.count_singleton_self]
      rfl
    · rw [atKey_put_other (fun k => hxy (Lit.int.inj k).2), h.2.1 y hy, List.count_append, List.count_singleton, if_neg (by simpa using fun e => hxy e.symm)]
      rfl
  · by_cases hxy : y = x
    · rw [hxy]; simp
    · rw [has_put_other (fun k => hxy (Lit.int.inj k).2)] at hy
      exact List.mem_append.2 (.inl (h.2.2 y hy))
theorem count_bd {cs : List Int} {D : DataW Unit} {x v : Int} (h : Cnt cs D) (hx : (Lit.int .u8 x).wf = true) (hc : D.atKey (.int .u8 x) (.lit (.int .i64 0)) = .lit (.int .i64 v)) (hl : cs.length ≤ 200) : 0 ≤ v ∧ v ≤ 200 := by
  rw [(cnt_step h hx hc).1]
  have : cs.count x ≤ cs.length := List.count_le_length
  omega
theorem below_drew {w wA : World} (h : Below w.drew.heap.size w.drew wA) : Below w.heap.size w wA := ⟨h.os, h.tape, h.output, h.size, h.block⟩
theorem cm_drew {w : World} {b n : Nat} {D : DataW Unit} (h : CM w b n D) : CM w.drew b n D := h
theorem map_below {w w1 : World} {b n : Nat} {D : DataW Unit} (h : CM w b n D) (hB : Below w.heap.size w w1) : CM w1 b n D :=
  h.kept (row := none) ⟨hB.os, hB.tape, hB.output, hB.size, fun j hj _ => hB.block j hj⟩ (by simp)
/-- a look-up of a class -/
theorem cm_look {w : World} {b n : Nat} {D : DataW Unit} {cs : List Int} (h : CM w b n D) (hC : Cnt cs D) (c : Int) (hc : (Lit.int .u8 c).wf = true) : (Instr.lookup 26 (.map (some b)) (.int .u8 c) false).run Tryd.prog w = .ok (.int .i64 ((cs.count c : Nat) : Int)) w := by
  obtain ⟨v, hrun, hat, _⟩ := h.lookup_int law8 Tryd.underlying26 Tryd.underlying3 (zero8 w) (keyOf_int_mk Tryd.underlying5 hc)
  rw [hC.2.1 c hc] at hat
  rw [hrun, ← (Lit.int.inj (DataW.lit.inj hat)).2]

theorem any_count (cs : List Int) (h : ∀ c ∈ cs, 0 ≤ c ∧ c ≤ 22) : cs.any (hs 70) = decide (0 < ((cs.count 1 : Nat) : Int) + ((cs.count 2 : Nat) : Int) + ((cs.count 6 : Nat) : Int)) := by
  by_cases hq : cs.any (hs 70) = true
  · rw [hq]
    obtain ⟨c, hc, hh⟩ := List.any_eq_true.1 hq
    rw [(hs_all (h c hc)).2.2.1] at hh
    have : c = 1 ∨ c = 2 ∨ c = 6 := by simpa [S] using hh
    symm
    rw [decide_eq_true_eq]
    have hp := List.count_pos_iff.2 hc
    rcases this with rfl | rfl | rfl <;> omega
  · have hq' : cs.any (hs 70) = false := by simpa using hq
    rw [hq']
    symm
    rw [decide_eq_false_iff_not]
    have key : ∀ c, hs 70 c = true → cs.count c = 0 := fun c hc => List.count_eq_zero.2 (fun hm => by
      rw [List.any_eq_false] at hq'
      exact hq' c hm hc)
    rw [key 1 (by decide +kernel), key 2 (by decide +kernel), key 6 (by decide +kernel)]
    decide
theorem bid_count (l : List Int) : bid l = decide (0 < (((l.map bc).count 1 : Nat) : Int) + (((l.map bc).count 2 : Nat) : Int) + (((l.map bc).count 6 : Nat) : Int)) := any_count _ (map_bd l)
theorem vio_cases (ins lst : Int) (cs : List Int) : vio ins lst cs = 0 ∨ vio ins lst cs = 10 ∨ vio ins lst cs = 11 ∨ (vio ins lst cs = 12 ∧ cs.any (hs 8) = true ∧ cs.any (hs 64) = true) := by
  unfold vio
  split
  · exact .inr (.inl rfl)
  · split
    · exact .inr (.inr (.inl rfl))
    · split
      · rename_i h
        rw [Bool.and_eq_true] at h
        exact .inr (.inr (.inr ⟨rfl, h⟩))
      · exact .inl rfl
theorem one_count {cs : List Int} {s : Int} (c : Int) (h : ∀ x ∈ cs, 0 ≤ x ∧ x ≤ 22) (hc : ∀ x, 0 ≤ x ∧ x ≤ 22 → hs s x = true → x = c) (ha : cs.any (hs s) = true) : 0 < cs.count c := by
  obtain ⟨x, hx, hh⟩ := List.any_eq_true.1 ha
  rw [← hc x (h x hx) hh]
  exact List.count_pos_iff.2 hx
theorem only8 (x : Int) (h : 0 ≤ x ∧ x ≤ 22) (hh : hs 8 x = true) : x = 3 := by
  rw [(hs_all h).2.2.2.1] at hh; simpa [S] using hh
theorem only64 (x : Int) (h : 0 ≤ x ∧ x ≤ 22) (hh : hs 64 x = true) : x = 6 := by
  rw [(hs_all h).2.2.2.2.1] at hh; simpa [S] using hh
theorem zero_count {cs : List Int} {s c : Int} (hc : hs s c = true) (ha : cs.any (hs s) = false) : cs.count c = 0 :=
  List.count_eq_zero.2 (fun hm => by rw [List.any_eq_false] at ha; exact ha c hm hc)
/-- by the first one's class -/
theorem first_other {l : List Int} (h : bc l[0]! ≠ 0 ∧ bc l[0]! ≠ 1 ∧ bc l[0]! ≠ 2) : chk l = 9 := by
  cases l with
  | nil => rfl
  | cons r t =>
    have e : (r :: t)[0]! = r := rfl
    rw [e] at h
    refine chkC_9 ?_ ?_ _
    · rw [(hs_all (bc_bd r)).1]; simp [S]; omega
    · rw [(hs_all (bc_bd r)).2.1]; simp [S]; omega
theorem first_l {l : List Int} (hl : 0 < l.length) (h : bc l[0]! = 0) : chk l = vio 9145 9 (l.map bc) := by
  cases l with
  | nil => simp at hl
  | cons r t =>
    have e : (r :: t)[0]! = r := rfl
    rw [e] at h
    refine chk_1 ?_ ?_
    · show hs 6 (bc r) = false; rw [h]; decide +kernel
    · show hs 1 (bc r) = true; rw [h]; decide +kernel
theorem first_r {l : List Int} (hl : 0 < l.length) (h : bc l[0]! = 1 ∨ bc l[0]! = 2) : chk l = vio 9214 78 (l.map bc) := by
  cases l with
  | nil => simp at hl
  | cons r t =>
    have e : (r :: t)[0]! = r := rfl
    rw [e] at h
    refine chk_6 ?_
    show hs 6 (bc r) = true
    rcases h with h | h <;> (rw [h]; decide +kernel)
theorem in9145 (x : Int) (h : 0 ≤ x ∧ x ≤ 22) (hh : hs 9145 x = true) : x ≠ 10 ∧ x ≠ 11 ∧ x ≠ 12 ∧ ¬ 14 ≤ x ∧ hs 70 x = false := by
  obtain ⟨k, rfl⟩ : ∃ k : Nat, x = (k : Int) := ⟨x.toNat, by omega⟩
  have : ∀ k : Nat, k < 23 → hs 9145 (k : Int) = true → (k : Int) ≠ 10 ∧ (k : Int) ≠ 11 ∧ (k : Int) ≠ 12 ∧ ¬ 14 ≤ (k : Int) ∧ hs 70 (k : Int) = false := by decide +kernel
  exact this k (by omega) hh
theorem in9214 (x : Int) (h : 0 ≤ x ∧ x ≤ 22) (hh : hs 9214 x = true) : x ≠ 10 ∧ x ≠ 11 ∧ x ≠ 12 ∧ ¬ 14 ≤ x ∧ x ≠ 0 := by
  obtain ⟨k, rfl⟩ : ∃ k : Nat, x = (k : Int) := ⟨x.toNat, by omega⟩
  have : ∀ k : Nat, k < 23 → hs 9214 (k : Int) = true → (k : Int) ≠ 10 ∧ (k : Int) ≠ 11 ∧ (k : Int) ≠ 12 ∧ ¬ 14 ≤ (k : Int) ∧ (k : Int) ≠ 0 := by decide +kernel
  exact this k (by omega) hh
theorem no6 {l : List Int} (h : l.all (hb 9145) = true) : l.any (hb 64) = false := by
  rw [List.any_eq_false]
  intro r hr
  have h1 := List.all_eq_true.1 h r hr
  have : hb 64 r = false := by
    obtain ⟨k, hk⟩ : ∃ k : Nat, bc r = (k : Int) := ⟨(bc r).toNat, by have := bc_bd r; omega⟩
    have key : ∀ k : Nat, k < 23 → hs 9145 (k : Int) = true → hs 64 (k : Int) = false := by decide +kernel
    have hb' := bc_bd r
    unfold hb at h1 ⊢
    rw [hk] at h1 ⊢
    exact key k (by omega) h1
  rw [this]
  decide
/-- a label that begins with L -/
theorem facts_l {l : List Int} (hl : 0 < l.length) (h : bc l[0]! = 0) : chk l = 10 ∨ chk l = 11 ∨ (chk l = 0 ∧ (∀ x ∈ l.map bc, x ≠ 10 ∧ x ≠ 11 ∧ x ≠ 12 ∧ ¬ 14 ≤ x) ∧ bid l = false ∧ (lastC (l.map bc) = 0 ∨ lastC (l.map bc) = 3)) := by
  have e := first_l hl h
  have hb := map_bd l
  rcases vio_cases 9145 9 (l.map bc) with h0 | h0 | h0 | ⟨h0, _, h2⟩
  · obtain ⟨h1, h2, _⟩ := vioC_0.1 h0
    have hall : ∀ x ∈ l.map bc, x ≠ 10 ∧ x ≠ 11 ∧ x ≠ 12 ∧ ¬ 14 ≤ x ∧ hs 70 x = false := fun x hx => in9145 x (hb x hx) (List.all_eq_true.1 h1 x hx)
    refine .inr (.inr ⟨e.trans h0, fun x hx => ?_, ?_, ?_⟩)
    · obtain ⟨a, b, c, d, _⟩ := hall x hx
      exact ⟨a, b, c, d⟩
    · unfold bid bidC
      rw [List.any_eq_false]
      intro x hx
      rw [(hall x hx).2.2.2.2]
      decide
    · rw [(hs_all (lastC_bd _ hb)).2.2.2.2.2.2.2.2.2] at h2
      simpa [S] using h2
  · exact .inl (e.trans h0)
  · exact .inr (.inl (e.trans h0))
  · exfalso
    have h1 : (l.map bc).all (hs 9145) = true := by
      cases hq : (l.map bc).all (hs 9145) with
      | true => rfl
      | false => rw [vioC_10 hq] at h0; exact absurd h0 (by decide)
    rw [← all_hb] at h1
    have := no6 h1
    rw [any_hb] at this
    rw [this] at h2
    cases h2
/-- a label that begins with R or AL -/
theorem facts_r {l : List Int} (hl : 0 < l.length) (h : bc l[0]! = 1 ∨ bc l[0]! = 2) : chk l = 10 ∨ chk l = 11 ∨ (chk l = 12 ∧ 0 < (l.map bc).count 3 ∧ 0 < (l.map bc).count 6) ∨ (chk l = 0 ∧ (∀ x ∈ l.map bc, x ≠ 10 ∧ x ≠ 11 ∧ x ≠ 12 ∧ ¬ 14 ≤ x) ∧ (l.map bc).count 0 = 0 ∧ ((l.map bc).count 3 = 0 ∨ (l.map bc).count 6 = 0) ∧ (lastC (l.map bc) = 1 ∨ lastC (l.map bc) = 2 ∨ lastC (l.map bc) = 3 ∨ lastC (l.map bc) = 6)) := by
  have e := first_r hl h
  have hb := map_bd l
  rcases vio_cases 9214 78 (l.map bc) with h0 | h0 | h0 | ⟨h0, h1, h2⟩
  · obtain ⟨h1, h2, h3⟩ := vioC_0.1 h0
    have hall : ∀ x ∈ l.map bc, x ≠ 10 ∧ x ≠ 11 ∧ x ≠ 12 ∧ ¬ 14 ≤ x ∧ x ≠ 0 := fun x hx => in9214 x (hb x hx) (List.all_eq_true.1 h1 x hx)
    refine .inr (.inr (.inr ⟨e.trans h0, fun x hx => ?_, ?_, ?_, ?_⟩))
    · obtain ⟨a, b, c, d, _⟩ := hall x hx
      exact ⟨a, b, c, d⟩
    · exact List.count_eq_zero.2 (fun hm => (hall 0 hm).2.2.2.2 rfl)
    · rw [Bool.and_eq_false_iff] at h3
      rcases h3 with h3 | h3
      · exact .inl (zero_count (by decide +kernel) h3)
      · exact .inr (zero_count (by decide +kernel) h3)
    · rw [(hs_all (lastC_bd _ hb)).2.2.2.2.2.2.2.1] at h2
      simpa [S] using h2
  · exact .inl (e.trans h0)
  · exact .inr (.inl (e.trans h0))
  · exact .inr (.inr (.inl ⟨e.trans h0, one_count 3 hb only8 h1, one_count 6 hb only64 h2⟩))
end Go.Proofs.YtnmijmhgmcapcaaDoor.Rul
