/-
  norm: the pairs as a map's datum; what two make; the pure functions of the layer.
-/
import Derived.Maps.OwnOps
import Derived.Maps.Views
import Derived.Maps.OwnSet
import Derived.WideKeyEntry
import Derived.DeepKeys4
import Derived.Test.YtncnagagigalhaaGreatDoorNormI
import Derived.Test.YtncnagagigalhaaGreatDoorUcdFind
namespace Go.Proofs.YtncnagagigalhaaGreatDoor
open Go.RowKit Go.Maps Norm

/-! what two make -/
def pjN (j : Nat) (x y : Int) : Option Int := ((tabP.take j).find? (fun t => t.2.1 == x && t.2.2 == y)).map (·.1)
def jn (a b : Int) : Option Int := match sylJoin a b with
  | some r => some r
  | none => pjN 81 a b

theorem tabP_len : tabP.length = 81 := by kernel_rfl
theorem tabP_get {j : Nat} (h : j < 81) : tabP[j]? = some (wh j, p1 j, p2 j) := by
  have h1 : j < tabP.length := by rw [tabP_len]; exact h
  unfold wh p1 p2
  rw [List.getD_eq_getElem?_getD, List.getElem?_eq_getElem h1]
  rfl
theorem pjN_fresh : ∀ j, j < 81 → pjN j (p1 j) (p2 j) = none := by
  have h : (List.range 81).all (fun j => (pjN j (p1 j) (p2 j)).isNone) = true := by kernel_rfl
  intro j hj
  have := List.all_eq_true.1 h j (List.mem_range.2 hj)
  exact Option.isNone_iff_eq_none.1 this
theorem pjN_same {j : Nat} (h : j < 81) : pjN (j + 1) (p1 j) (p2 j) = some (wh j) := by
  have h1 := pjN_fresh j h
  unfold pjN at h1 ⊢
  rw [Option.map_eq_none_iff] at h1
  rw [List.take_add_one, tabP_get h, List.find?_append, h1]
  simp
theorem pjN_other {j : Nat} (h : j < 81) {x y : Int} (hne : ¬ (x = p1 j ∧ y = p2 j)) : pjN (j + 1) x y = pjN j x y := by
  unfold pjN
  rw [List.take_add_one, tabP_get h, List.find?_append]
  have : ([(wh j, p1 j, p2 j)] : List (Int × Int × Int)).find? (fun t => t.2.1 == x && t.2.2 == y) = none := by
    rw [List.find?_eq_none]
    intro t ht
    rw [List.mem_singleton] at ht
    subst ht
    simp only [Bool.and_eq_true, beq_iff_eq]
    exact fun e => hne ⟨e.1.symm, e.2.symm⟩
  simp only [Option.toList_some, this, Option.or_none]

/-! the map's datum -/
theorem lawP : WideMaps.KeyLaw Tryz.prog 45 := deep_law_laid (by kernel_rfl) (m := 2) (by omega) (of_decide_eq_true (by kernel_rfl)) (by kernel_rfl) (by kernel_rfl)
theorem zeroR (w : World) : (zeroValue 21).run Tryz.prog w = .ok (.int .i32 0) w := by kernel_rfl
theorem cellsP : Tryz.prog.cellsOf 45 = 2 := by kernel_rfl
theorem cells32 : Tryz.prog.cellsOf 21 = 1 := by kernel_rfl
theorem keyTyP : Tryz.prog.keyType 45 = true := by kernel_rfl

def kp (a b : Int) : Lit := .string (keyBytes [.int .i32 a, .int .i32 b])
theorem key2_any {P : Program} {k tR : TypeId} {f0 f1 : Field} (hu : P.underlying k = some (.struct #[f0, f1])) (h0 : f0.name = "first" ∧ f0.type = tR ∧ f0.offset = 0) (h1 : f1.name = "second" ∧ f1.type = tR ∧ f1.offset = 1)
    (hR : P.underlying tR = some (.int .i32)) (hk : P.keyType k = true)
    (hc : P.cellsOf k = 2) (hcR : P.cellsOf tR = 1) (hp : 0 < P.types.size) (a b : Int) (ha : (Lit.int .i32 a).wf = true) (hb : (Lit.int .i32 b).wf = true) :
    keyOf P k (.agg #[.int .i32 a, .int .i32 b]) = some (kp a b) := by
  obtain ⟨m, hm⟩ : ∃ m, P.types.size = m + 1 := ⟨P.types.size - 1, by omega⟩
  obtain ⟨n0, t0, o0⟩ := h0
  obtain ⟨n1, t1, o1⟩ := h1
  simp [keyOf, hu, hk, Value.formed, hc, hm, Program.keyLits, Value.cells, n0, t0, o0, n1, t1, o1, hcR, hR, ha, hb, kp]
theorem key_parts (a b : Int) (ha : (Lit.int .i32 a).wf = true) (hb : (Lit.int .i32 b).wf = true) : keyOf Tryz.prog 45 (.agg #[.int .i32 a, .int .i32 b]) = some (kp a b) :=
  key2_any Tryz.underlying45 ⟨rfl, rfl, rfl⟩ ⟨rfl, rfl, rfl⟩ Tryz.underlying21 keyTyP cellsP cells32 (of_decide_eq_true (by kernel_rfl)) a b ha hb
theorem kp_inj {a b c d : Int} (ha : (Lit.int .i32 a).wf = true) (hb : (Lit.int .i32 b).wf = true) (hc : (Lit.int .i32 c).wf = true) (hd : (Lit.int .i32 d).wf = true) (h : kp a b = kp c d) : a = c ∧ b = d := by
  have e1 := key_parts a b ha hb
  have e2 := key_parts c d hc hd
  rw [← h] at e2
  have e3 := lawP.inj e1 e2
  simp only [Value.agg.injEq, Array.mk.injEq, List.cons.injEq, Value.int.injEq, and_true, true_and] at e3
  exact e3
theorem wf_p (j : Nat) (h : j < 81) : (Lit.int .i32 (p1 j)).wf = true ∧ (Lit.int .i32 (p2 j)).wf = true ∧ (Lit.int .i32 (wh j)).wf = true := by
  have hb : (List.range 81).all (fun j => (Lit.int .i32 (p1 j)).wf && (Lit.int .i32 (p2 j)).wf && (Lit.int .i32 (wh j)).wf) = true := by kernel_rfl
  have := List.all_eq_true.1 hb j (List.mem_range.2 h)
  simp only [Bool.and_eq_true] at this
  exact ⟨this.1.1, this.1.2, this.2⟩

/-- D maps the first j pairs -/
def Prs (j : Nat) (D : DataW Unit) : Prop := IsMap D ∧ ∀ a b, (Lit.int .i32 a).wf = true → (Lit.int .i32 b).wf = true → D.atKey (kp a b) (.lit (.int .i32 0)) = .lit (.int .i32 ((pjN j a b).getD 0)) ∧ has D (kp a b) = (pjN j a b).isSome
theorem prs_nil : Prs 0 (.map []) := ⟨isMap_empty, fun _ _ _ _ => ⟨rfl, rfl⟩⟩
theorem prs_step {j : Nat} {D : DataW Unit} (h : Prs j D) (hj : j < 81) : Prs (j + 1) (D.put (kp (p1 j) (p2 j)) (.lit (.int .i32 (wh j)))) := by
  obtain ⟨w1, w2, w3⟩ := wf_p j hj
  refine ⟨h.1.put _ _, fun a b ha hb => ?_⟩
  by_cases he : a = p1 j ∧ b = p2 j
  · obtain ⟨rfl, rfl⟩ := he
    have hk := (Keyed.of_law lawP).key (key_parts _ _ w1 w2)
    rw [atKey_put_same h.1 hk, has_put_same h.1 hk, pjN_same hj]
    exact ⟨rfl, rfl⟩
  · have hne : kp a b ≠ kp (p1 j) (p2 j) := fun e => he (kp_inj ha hb w1 w2 e)
    rw [atKey_put_other hne, has_put_other hne, pjN_other hj he]
    exact h.2 a b ha hb

/-- block b is a map of the first j pairs -/
def PMap (w : World) (b j : Nat) : Prop := ∃ D : DataW Unit, w.ownsMap Tryz.prog 45 (plainElem Tryz.prog 21) b j D ∧ Prs j D
theorem PMap.kept {w w' : World} {b j : Nat} (h : PMap w b j) {row : Option Nat} (hg : w.grownBy w' row) (hne : some b ≠ row) : PMap w' b j := by
  obtain ⟨D, h1, h2⟩ := h
  exact ⟨D, h1.kept hg hne, h2⟩
theorem PMap.below {w w' : World} {b j : Nat} (h : PMap w b j) (hB : Below w.heap.size w w') : PMap w' b j :=
  h.kept (row := none) ⟨hB.os, hB.tape, hB.output, hB.size, fun j hj _ => hB.block j hj⟩ (by simp)
theorem PMap.lt {w : World} {b j : Nat} (h : PMap w b j) : b < w.heap.size := by obtain ⟨D, h1, _⟩ := h; exact h1.lt

/-! the pure functions of the layer -/
abbrev C := Int × Int
def ccc (r : Int) : Int := Ucd.g (Ucd.of r) 3
def classed (r : Int) : C := (r, ccc r)
def dec (l : List Int) : List C := l.flatMap fun r => (full r).map classed
def insC (x : C) : List C → List C
  | [] => [x]
  | y :: t => if x.2 < y.2 then x :: y :: t else y :: insC x t
def isort (l : List C) : List C := l.foldl (fun a x => insC x a) []
/-- in canonical order; acc: those since the last starter -/
def arr : List C → List C → List C
  | acc, [] => isort acc
  | acc, c :: t => if c.2 = 0 then isort acc ++ c :: arr [] t else arr (acc ++ [c]) t
structure St where
  out : List Int
  st : Int
  last : Int
def St.push (s : St) (c : C) : St := ⟨s.out ++ [c.1], if c.2 = 0 then (s.out.length : Int) else s.st, c.2⟩
def St.step (s : St) (c : C) : St :=
  if 0 ≤ s.st ∧ (s.st = (s.out.length : Int) - 1 ∨ s.last < c.2) then
    match jn (s.out.getD s.st.toNat 0) c.1 with
    | some r => ⟨s.out.set s.st.toNat r, s.st, s.last⟩
    | none => s.push c
  else s.push c
def comp (l : List C) : List Int := (l.foldl St.step ⟨[], -1, 0⟩).out
def nfd (l : List Int) : List Int := (arr [] (dec l)).map (·.1)
def nfc (l : List Int) : List Int := comp (arr [] (dec l))
end Go.Proofs.YtncnagagigalhaaGreatDoor
