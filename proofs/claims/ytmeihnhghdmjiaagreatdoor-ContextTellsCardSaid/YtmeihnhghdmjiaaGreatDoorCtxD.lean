/-
  context: the map of conditions, as a datum; the library's laws for a map whose elements are held as they are.
-/
import Derived.Maps.OwnOps
import Derived.Maps.Views
import Derived.Maps.OwnSet
import Derived.Laws.EntriesVeiled
import Derived.Test.YtmeihnhghdmjiaaGreatDoorCtxC
namespace Go.Proofs.YtmeihnhghdmjiaaGreatDoor.Ctx
open Go.RowKit Go.Maps Ucd

def RV (v : Value) : Option (DataW Value × List MemPlace) := some (.held v, [])
def whl (k : Nat) : Bool := decide (5 ≤ k)
def fnC : Nat → Value
  | 0 => .func (.func 17) #[] #[]
  | 1 => .func (.func 18) #[] #[]
  | 2 => .func (.func 19) #[] #[]
  | 3 => .func (.func 20) #[] #[]
  | 4 => .func (.func 21) #[] #[]
  | 5 => .func (.func 22) #[] #[]
  | 6 => .func (.func 23) #[] #[]
  | _ => .func (.func 24) #[] #[]
/-- the condition's cells -/
def cvc (k : Nat) : Array Value := #[.int .u8 (cls k), .bool (whl k), fnC k]
def cv (k : Nat) : Value := .agg (cvc k)
def cz : Value := .agg #[.int .u8 0, .bool false, .nilFunc]
theorem zeroC (w : World) : (zeroValue 29).run Tryz.prog w = .ok cz w := by kernel_rfl
theorem law32 : Keyed Tryz.prog 21 := int_keyed Tryz.underlying21
def ki (q : Int) : Lit := .int .i32 q
theorem key32 {q : Int} (h0 : -2147483648 ≤ q) (h1 : q ≤ 2147483647) : keyOf Tryz.prog 21 (.int .i32 q) = some (ki q) :=
  keyOf_int_mk Tryz.underlying21 (by simp [Lit.wf, IntKind.min, IntKind.max, IntKind.bits, IntKind.signed]; omega)
def D9 : DataW Value := (((((((((DataW.map []).put (ki 183) (.held (cv 0))).put (ki 885) (.held (cv 1))).put (ki 1523) (.held (cv 2))).put (ki 1524) (.held (cv 2))).put (ki 8204) (.held (cv 3))).put (ki 8205) (.held (cv 4))).put (ki 12539) (.held (cv 5))).put (ki 1632) (.held (cv 6))).put (ki 1776) (.held (cv 7))
theorem D9_eq : D9 = .map [(ki 183, .held (cv 0)), (ki 885, .held (cv 1)), (ki 1523, .held (cv 2)), (ki 1524, .held (cv 2)), (ki 1632, .held (cv 6)), (ki 1776, .held (cv 7)), (ki 8204, .held (cv 3)), (ki 8205, .held (cv 4)), (ki 12539, .held (cv 5))] := by
  simp [D9, DataW.put, DataW.insert, ki, Lit.before, Lit.sameKey]
theorem kdK_cases (q : Int) : (q = 183 ∨ q = 885 ∨ q = 1523 ∨ q = 1524 ∨ q = 8204 ∨ q = 8205 ∨ q = 12539 ∨ q = 1632 ∨ q = 1776) ∨ (q ≠ 183 ∧ q ≠ 885 ∧ q ≠ 1523 ∧ q ≠ 1524 ∧ q ≠ 8204 ∧ q ≠ 8205 ∧ q ≠ 12539 ∧ q ≠ 1632 ∧ q ≠ 1776) := by omega
theorem D9_at (q : Int) : D9.atKey (ki q) (.held cz) = .held (if kdK q < 8 then cv (kdK q) else cz) ∧ has D9 (ki q) = decide (kdK q < 8) := by
  rw [D9_eq]
  rcases kdK_cases q with h | ⟨h1, h2, h3, h4, h5, h6, h7, h8, h9⟩
  · rcases h with rfl | rfl | rfl | rfl | rfl | rfl | rfl | rfl | rfl <;> exact ⟨rfl, rfl⟩
  · have e : kdK q = 8 := by simp [kdK, h1, h2, h3, h4, h5, h6, h7, h8, h9]
    rw [e]
    simp [DataW.atKey, has, ki, Lit.sameKey, Ne.symm h1, Ne.symm h2, Ne.symm h3, Ne.symm h4, Ne.symm h5, Ne.symm h6, Ne.symm h7, Ne.symm h8, Ne.symm h9]
/-- block b is a map that reads as D -/
def CMap (w : World) (b n : Nat) (D : DataW Value) : Prop := w.ownsMap Tryz.prog 21 RV b n D
theorem CMap.below {w w' : World} {b n : Nat} {D : DataW Value} (h : CMap w b n D) (hB : Below w.heap.size w w') : CMap w' b n D :=
  World.ownsMap.kept (row := none) h ⟨hB.os, hB.tape, hB.output, hB.size, fun j hj _ => hB.block j hj⟩ (by simp)
theorem CMap.look {w : World} {b n : Nat} {D : DataW Value} (h : CMap w b n D) {q : Int} (h0 : -2147483648 ≤ q) (h1 : q ≤ 2147483647) {v : Value} {t : Bool} (hv : D.atKey (ki q) (.held cz) = .held v) (ht : has D (ki q) = t) :
    (Instr.lookup 31 (.map (some b)) (.int .i32 q) true).run Tryz.prog w = .ok (.tuple #[v, .bool t]) w := by
  obtain ⟨v', ps, hr, hv'⟩ := World.ownsMap.look_ok h law32 Tryz.underlying31 (zeroC w) (zd := .held cz) (zp := []) rfl (key32 h0 h1)
  rw [hv] at hv'
  unfold RV at hv'
  simp only [Option.some.injEq, Prod.mk.injEq, DataW.held.injEq] at hv'
  rw [hr, hv'.1, ht]
/-- m[k] = v, where a literal lays it -/
theorem wpList_insert_own {H : Type} {P : Program} (w : World) {ops : Array Oper} {rest : List Oper} {o : Oper} {a : Act} {Q : Exit → Act → World → Prop}
    (hg : o.guard = none) (m x v : Operand) (t : TypeId) (hop : o.op = Op.insert t m x v)
    (k e : TypeId) (K : Keyed P k) (ht : P.underlying t = some (.map k e)) (R : Value → Option (DataW H × List MemPlace)) (b n : Nat) (D : DataW H)
    (hm : a.eval m = .map (some b)) (hown : w.ownsMap P k R b n D) (hn : n < maxLen) (key val : Value) (kl : Lit) (hx : a.eval x = key) (hv : a.eval v = val) (hkey : keyOf P k key = some kl)
    (d : DataW H) (ps : List MemPlace) (hval : R val = some (d, ps))
    (hK : ∀ w', w'.ownsMap P k R b (n + 1) (D.put kl d) → w.grownBy w' (some b) → wpList P ops Q rest (a.put o.dst undef) w') :
    wpList P ops Q (o :: rest) a w := by
  refine wpList_plain hg fun K' hK' => ?_
  obtain ⟨w', hrun, r1, r2⟩ := hown.update K ht hn hkey hval
  unfold Oper.wp
  simp [execOp, hop, hm, hx, hv, hrun, Result.andThen]
  exact hK' _ _ (hK w' r1 r2)
theorem run_mkC (w : World) : (Instr.makeMap 31 none).run Tryz.prog w = .ok (.map (some w.heap.size)) (w.alloc (.map #[] 0)) := by kernel_rfl
set_option maxRecDepth 100000 in
set_option maxHeartbeats 4000000 in
theorem conditions_any (w : World) : Calls Tryz.prog 10 #[] w (fun e w' => e = .returned (.map (some w.heap.size)) ∧ CMap w' w.heap.size 9 D9 ∧ Below w.heap.size w w') := by
  have hmm := run_mkC
  have hown : CMap (w.alloc (.map #[] 0)) w.heap.size 0 (.map []) := World.ownsMap_made _ _ _ _
  have hB : Below w.heap.size w (w.alloc (.map #[] 0)) := upA w _
  go_enter Tryz.func10, Tryz.ntmps10
  go_wp2_with (first | (refine wpList_insert_own _ rfl _ _ _ 31 rfl 21 29 law32 Tryz.underlying31 RV w.heap.size _ _ rfl hown (by unfold maxLen; omega) _ _ _ rfl rfl (key32 (by decide) (by decide)) _ [] rfl ?_; intro w2 hown2 hg2; have hB2 := hB.grown hg2 hB.size (fun j hj => by cases hj; exact Nat.le_refl _); have hown : CMap w2 w.heap.size _ _ := hown2; have hB := hB2; clear hown2 hg2 hB2) | fail)
  go_ret
  exact ⟨rfl, hown, hB⟩
end Go.Proofs.YtmeihnhghdmjiaaGreatDoor.Ctx
