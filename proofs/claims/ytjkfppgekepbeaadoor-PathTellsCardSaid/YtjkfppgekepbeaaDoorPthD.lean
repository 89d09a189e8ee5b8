/-
  scheme: ports, the map of special schemes; Special.
-/
import Derived.Test.YtjkfppgekepbeaaDoorPthC
import Derived.Maps.OwnOps
import Derived.Maps.Views
import Derived.Maps.OwnSet
import Derived.StringKeys
namespace Go.Proofs.YtjkfppgekepbeaaDoor.Pth
set_option maxRecDepth 100000
open Go.RowKit Go.Maps Utf Ut Hst

/-- special schemes -/
def spcL (l : List UInt8) : Bool := decide (l = [102, 105, 108, 101]) || decide (l = [102, 116, 112]) || decide (l = [104, 116, 116, 112]) || decide (l = [104, 116, 116, 112, 115]) || decide (l = [119, 115]) || decide (l = [119, 115, 115])
def spc (s : ByteArray) : Bool := spcL (dl s)
def RVs (v : Value) : Option (DataW Value × List MemPlace) := some (.held v, [])
theorem zeroI (w : World) : (zeroValue 3).run Tryd.prog w = .ok (.int .i64 0) w := by kernel_rfl
theorem lawS : Keyed Tryd.prog 9 := string_keyed Tryd.underlying9
def ks (l : List UInt8) : Lit := .string l
theorem keyS {s : ByteArray} (h : s.size ≤ maxLen) : keyOf Tryd.prog 9 (.string s) = some (ks (dl s)) := WideMaps.keyOf_string_mk Tryd.underlying9 h
def hi (x : Int) : DataW Value := .held (.int .i64 x)
def D6 : DataW Value := ((((((DataW.map []).put (ks [102, 116, 112]) (hi 21)).put (ks [102, 105, 108, 101]) (hi (-1))).put (ks [104, 116, 116, 112]) (hi 80)).put (ks [104, 116, 116, 112, 115]) (hi 443)).put (ks [119, 115]) (hi 80)).put (ks [119, 115, 115]) (hi 443)
theorem D6_eq : D6 = .map [(ks [102, 105, 108, 101], hi (-1)), (ks [102, 116, 112], hi 21), (ks [104, 116, 116, 112], hi 80), (ks [104, 116, 116, 112, 115], hi 443), (ks [119, 115], hi 80), (ks [119, 115, 115], hi 443)] := by rfl
/-- block b is a map that reads as D -/
def SMap (w : World) (b n : Nat) (D : DataW Value) : Prop := w.ownsMap Tryd.prog 9 RVs b n D
theorem sameS (a b : List UInt8) : (ks a).sameKey (ks b) = decide (a = b) := by
  show (a == b) = decide (a = b)
  rw [Bool.eq_iff_iff]
  simp
theorem D6_has (l : List UInt8) : has D6 (ks l) = spcL l := by
  rw [D6_eq, has_eq]
  simp only [List.any_cons, List.any_nil, sameS]
  unfold spcL
  rw [Bool.eq_iff_iff]
  simp only [Bool.or_eq_true, decide_eq_true_eq, Bool.or_false]
  simp only [eq_comm (b := l), or_assoc]
theorem D6_at (l : List UInt8) : ∃ x : Int, D6.atKey (ks l) (hi 0) = hi x := by
  rw [D6_eq]
  unfold DataW.atKey
  dsimp only
  cases h : List.find? (fun p => p.1.sameKey (ks l)) [(ks [102, 105, 108, 101], hi (-1)), (ks [102, 116, 112], hi 21), (ks [104, 116, 116, 112], hi 80), (ks [104, 116, 116, 112, 115], hi 443), (ks [119, 115], hi 80), (ks [119, 115, 115], hi 443)] with
  | none => exact ⟨0, rfl⟩
  | some p =>
    have hm := List.mem_of_find?_eq_some h
    simp only [List.mem_cons, List.not_mem_nil, or_false] at hm
    rcases hm with rfl | rfl | rfl | rfl | rfl | rfl <;> exact ⟨_, rfl⟩
theorem SMap.look {w : World} {b n : Nat} (h : SMap w b n D6) {s : ByteArray} (hs : s.size ≤ maxLen) : ∃ x : Int,
    (Instr.lookup 84 (.map (some b)) (.string s) true).run Tryd.prog w = .ok (.tuple #[.int .i64 x, .bool (spc s)]) w := by
  obtain ⟨v', ps, hr, hv'⟩ := World.ownsMap.look_ok h lawS Tryd.underlying84 (zeroI w) (zd := hi 0) (zp := []) rfl (keyS hs)
  obtain ⟨x, hx⟩ := D6_at (dl s)
  rw [hx] at hv'
  unfold RVs hi at hv'
  simp only [Option.some.injEq, Prod.mk.injEq, DataW.held.injEq] at hv'
  refine ⟨x, ?_⟩
  rw [hr, hv'.1, D6_has]
  rfl
/-- m[k] = v, where a literal lays it -/
theorem wpList_insert_own {H : Type} {P : Program} (w : World) {ops : Array Oper} {rest : List Oper} {o : Oper} {a : Act} {Q : Exit → Act → World → Prop}
    (hg : o.guard = none) (m x v : Operand) (t : TypeId) (hop : o.op = Op.insert t m x v)
    (k e : TypeId) (K : Keyed P k) (ht : P.underlying t = some (.map k e)) (R : Value → Option (DataW H × List MemPlace)) (b n : Nat) (D : DataW H)
    (hm : a.eval m = .map (some b)) (hown : w.ownsMap P k R b n D) (hn : n < maxLen) (key val : Value) (kl : Lit) (hx : a.eval x = key) (hv : a.eval v = val) (hkey : keyOf P k key = some kl)
    (d : DataW H) (ps : List MemPlace) (hval : R val = some (d, ps))
    (hK : ∀ w', w'.ownsMap P k R b (n + 1) (D.put kl d) → w.grownBy w' (some b) → wpList P ops Q rest (a.put o.dst undef) w') :
    wpList P ops Q (o :: rest) a w := by
  refine wpList_plain hg fun K' hK' => ?_
  obtain ⟨w', hrun, r1, r2⟩ := hown.update K ht hn hkey hval
  unfold Oper.wp
  simp [execOp, hop, hm, hx, hv, hrun, Result.andThen]
  exact hK' _ _ (hK w' r1 r2)
theorem run_mkS (w : World) : (Instr.makeMap 84 none).run Tryd.prog w = .ok (.map (some w.heap.size)) (w.alloc (.map #[] 0)) := by kernel_rfl
set_option maxRecDepth 100000 in
set_option maxHeartbeats 4000000 in
theorem ports_any (w : World) : Calls Tryd.prog 71 #[] w (fun e w' => e = .returned (.map (some w.heap.size)) ∧ SMap w' w.heap.size 6 D6 ∧ Below w.heap.size w w') := by
  have hmm := run_mkS
  have hown : SMap (w.alloc (.map #[] 0)) w.heap.size 0 (.map []) := World.ownsMap_made _ _ _ _
  have hB : Below w.heap.size w (w.alloc (.map #[] 0)) := upA w _
  go_enter Tryd.func71, Tryd.ntmps71
  go_wp2_with (first | (refine wpList_insert_own _ rfl _ _ _ 84 rfl 9 3 lawS Tryd.underlying84 RVs w.heap.size _ _ rfl hown (by unfold maxLen; omega) _ _ _ rfl rfl (keyS (by decide)) _ [] rfl ?_; intro w2 hown2 hg2; have hB2 := hB.grown hg2 hB.size (fun j hj => by cases hj; exact Nat.le_refl _); have hown : SMap w2 w.heap.size _ _ := hown2; have hB := hB2; clear hown2 hg2 hB2) | fail)
  go_ret
  exact ⟨rfl, hown, hB⟩
set_option maxHeartbeats 1000000 in
theorem Special_any (s : ByteArray) (hs : s.size ≤ maxLen) (w : World) : Calls Tryd.prog 53 #[.string s] w (Says (spc s) w) := by
  have HP := Lib.hid (ports_any w)
  have HS := Lib.hid (fun W b n (h : SMap W b n D6) => h.look hs)
  obtain ⟨q, hq⟩ : ∃ q, spc s = q := ⟨_, rfl⟩
  rw [hq] at HS ⊢
  clear hq hs
  go_enter Tryd.func53, Tryd.ntmps53
  go_wp2_with (first | (go_at_call 71; refine HP.out.mono ?_; rintro e w1 ⟨rfl, hM, hB1⟩; obtain ⟨x, hlook⟩ := HS.out _ _ _ hM) | fail)
  go_ret
  exact ⟨rfl, hB1⟩
end Go.Proofs.YtjkfppgekepbeaaDoor.Pth
