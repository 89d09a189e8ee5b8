/-
  Texts as bytes; blocks of eight numbers.
-/
import Derived.Test.YtcoppicieicikaaDoorSixM
import Derived.Test.YtcoppicieicikaaDoorWords
import Derived.Test.YtcoppicieicikaaDoorAppendRow
import Derived.Test.YtcoppicieicikaaDoorChecked
import Derived.WalkKit
import Derived.Lib.Hide
import Derived.IntWalk
import Derived.Outline
import Derived.Handy
import Derived.Deep.QuietTactic
import Derived.BigQuiet
import Derived.Deep.MidRow
import Derived.Deep.LoopGhost
import Derived.ChangeKeysEq
import Derived.Deep.DeepCutAuto
import Derived.Deep.CutRange
import Derived.Deep.RegionLaw
import Derived.Laws.CopyOwn
namespace Go.Proofs.YtcoppicieicikaaDoor.Sx
open Go.RowKit

abbrev dl (s : ByteArray) : List UInt8 := s.data.toList
theorem bytes_ext {s t : ByteArray} : s = t ↔ s.data.toList = t.data.toList := ⟨fun h => by rw [h], fun h => by cases s; cases t; simpa using h⟩
theorem str_beq (s t : ByteArray) : (s.toList == t.toList) = decide (s = t) := by
  rw [ByteArray.toList_eq, ByteArray.toList_eq]
  by_cases h : s = t
  · subst h; simp
  · rw [decide_eq_false h]
    exact beq_eq_false_iff_ne.2 fun e => h (bytes_ext.2 e)
def bs (l : List UInt8) : ByteArray := ⟨l.toArray⟩
theorem bs_data (l : List UInt8) : (bs l).data.toList = l := by simp [bs]
theorem bs_dl (s : ByteArray) : bs (dl s) = s := by simp [bs, dl]
theorem bs_eq {s : ByteArray} {l : List UInt8} (h : s.data.toList = l) : s = bs l := bytes_ext.2 (by rw [h, bs_data])
theorem bs_size (l : List UInt8) : (bs l).size = l.length := by rw [Lib.size_eq, bs_data]
theorem ext_take (s : ByteArray) (i : Nat) : (s.extract 0 i).data.toList = s.data.toList.take i := by simp [ByteArray.data_extract]
theorem ext_drop (s : ByteArray) (i j : Nat) (h : j = s.size) : (s.extract i j).data.toList = s.data.toList.drop i := by
  subst h
  simp [ByteArray.data_extract]
  exact List.take_of_length_le (by simp)
theorem get_dl {s : ByteArray} {k : Nat} (h : k < s.size) : s[k] = (dl s)[k]'(by simpa using h) := by simp [dl]; rfl
theorem app_dl (s t : ByteArray) : dl (s ++ t) = dl s ++ dl t := by simp [dl]
theorem byte_eq {c : UInt8} {k : Nat} (_ : k < 256) (h : ((c.toNat : Int) == (k : Int)) = true) : c = UInt8.ofNat k := by
  have : c.toNat = k := by have := eq_of_beq h; omega
  rw [← this]; simp
theorem byte_ne {c : UInt8} {k : Nat} (_ : k < 256) (h : ((c.toNat : Int) == (k : Int)) = false) : c ≠ UInt8.ofNat k := by
  rintro rfl
  simp at h
  omega
theorem upB {w w1 w2 : World} (h : Below w.heap.size w w1) (k : Below w1.heap.size w1 w2) : Below w.heap.size w w2 := h.trans (k.mono h.size)
theorem upA (w : World) (o : Obj) : Below w.heap.size w (w.alloc o) := (Below.refl _ w).alloc (Nat.le_refl _) o
theorem below_drewN (w : World) (n : Nat) : Below w.heap.size w (w.drewN n) := ⟨rfl, rfl, rfl, Nat.le_refl _, fun _ _ => rfl⟩
/-- it answers a text, a truth value, a value -/
def Texts (l : List UInt8) (w : World) (e : Ending) (w' : World) : Prop := e = .returned (.string (bs l)) ∧ Below w.heap.size w w'
def Says (q : Bool) (w : World) (e : Ending) (w' : World) : Prop := e = .returned (.bool q) ∧ Below w.heap.size w w'
def Tells (v : Value) (w : World) (e : Ending) (w' : World) : Prop := e = .returned v ∧ Below w.heap.size w w'

/-! Eight numbers. -/
def nth (x : List Nat) (k : Nat) : Nat := x.getD k 1
/-- numbers as cells -/
def cu (x : List Nat) : List Value := x.map fun n : Nat => Value.int .u16 (n : Int)
theorem cu_len (x : List Nat) : (cu x).length = x.length := by rw [cu, List.length_map]
theorem cu_get {x : List Nat} {k : Nat} (h : k < x.length) : (cu x)[k]? = some (.int .u16 (nth x k : Int)) := by
  rw [cu, List.getElem?_map, nth, List.getD, List.getElem?_eq_getElem h]
  rfl
theorem cu_app (x y : List Nat) : cu (x ++ y) = cu x ++ cu y := List.map_append
theorem cu_take (x : List Nat) (k : Nat) : (cu x).take k = cu (x.take k) := List.map_take.symm
theorem cu_drop (x : List Nat) (k : Nat) : (cu x).drop k = cu (x.drop k) := List.map_drop.symm
theorem one_cu (x : List Nat) : ∀ u ∈ cu x, u.oneCell' = true := by
  intro u hu
  obtain ⟨n, _, rfl⟩ := List.mem_map.1 hu
  rfl
theorem oneA (x : List Nat) : (cu x).toArray.all (·.oneCell') = true := all_oneCell_toArray (one_cu x)
theorem nth_mem {x : List Nat} {k : Nat} (h : k < x.length) : nth x k ∈ x := by
  rw [nth, List.getD, List.getElem?_eq_getElem h]
  exact List.getElem_mem h
theorem zr_nth {x : List Nat} {k n : Nat} : zr x k n ↔ ∀ i, k ≤ i → i < k + n → nth x i = 0 := Iff.rfl
abbrev av (x : List Nat) : Value := .agg (cu x).toArray
def z8 : List Nat := [0, 0, 0, 0, 0, 0, 0, 0]
/-- a block of eight numbers -/
def Hx (w : World) (B : Nat) (x : List Nat) : Prop := w.heap[B]? = some (.cells (cu x).toArray 23 (0, 0))
theorem Hx.new (w : World) (x : List Nat) : Hx (w.alloc (.cells (cu x).toArray 23)) w.heap.size x := World.alloc_heap_new w _
theorem Hx.lt {w : World} {B : Nat} {x : List Nat} (h : Hx w B x) : B < w.heap.size := (Array.getElem?_eq_some_iff.1 h).1
theorem Hx.go {a b : World} {B : Nat} {x : List Nat} (h : Hx a B x) (hb : Below a.heap.size a b) : Hx b B x := (hb.block _ h.lt).trans h
theorem Hx.gob {a b : World} {B m : Nat} {x : List Nat} (h : Hx a B x) (hB : B < m) (hb : Below m a b) : Hx b B x := (hb.block _ hB).trans h
theorem Hx.range {w : World} {B : Nat} {x : List Nat} (h : Hx w B x) : w.rangeAt B 0 (cu x) := fun j v hv => by
  rw [cell_of_row w B (0 + j) _ _ _ h, Nat.zero_add, List.getElem?_toArray, hv]
theorem Hx.cell {w : World} {B : Nat} {x : List Nat} (h : Hx w B x) {k : Nat} (hk : k < x.length) : w.cell? ⟨B, k, none⟩ = some (.int .u16 (nth x k : Int)) := by
  rw [cell_of_row w B k _ _ _ h, List.getElem?_toArray, cu_get hk]
theorem Hx.frozen {w : World} {B : Nat} {x : List Nat} (h : Hx w B x) (k : Nat) : w.frozen? ⟨B, k, none⟩ = false := by
  unfold Hx at h
  simp [World.frozen?, h]
theorem Hx.set {w : World} {B : Nat} {x : List Nat} (h : Hx w B x) (k v : Nat) : Hx (w.setCell ⟨B, k, none⟩ (.int .u16 (v : Int))) B (x.set k v) := by
  unfold Hx at h ⊢
  simp only [World.setCell, Array.getElem?_modify, if_true, h, Option.map_some]
  congr 2
  simp [cu]
theorem Hx.there {w : World} {B : Nat} {x y : List Nat} (h : Hx w B x) (hy : y.length = x.length) : w.there B 0 (cu y).toArray.size := fun j hj => by
  rw [Nat.zero_add]
  rw [List.size_toArray, cu_len, hy] at hj
  exact ⟨by rw [h.cell hj]; rfl, h.frozen j⟩
/-- a part of it, as a row -/
theorem Hx.row {w : World} {B : Nat} {x : List Nat} (h : Hx w B x) (k : Nat) (y : List Nat) (hy : ∀ j, j < y.length → k + j < x.length ∧ nth x (k + j) = nth y j) : Row w w.heap.size (some ⟨B, k, none⟩) (cu y) := by
  refine .inr ⟨B, k, rfl, h.lt, fun j hj => ?_⟩
  rw [cu_len] at hj
  obtain ⟨h1, h2⟩ := hy j hj
  rw [h.cell h1, cu_get hj, h2]
theorem nth_take {x : List Nat} {k j : Nat} (h : j < k) : nth (x.take k) j = nth x j := by
  simp [nth, List.getD, h]
theorem nth_drop (x : List Nat) (k j : Nat) : nth (x.drop k) j = nth x (k + j) := by simp [nth, List.getD]
theorem Hx.take {w : World} {B : Nat} {x : List Nat} (h : Hx w B x) (k : Nat) : Row w w.heap.size (some ⟨B, 0, none⟩) (cu (x.take k)) :=
  h.row 0 _ fun j hj => by
    rw [List.length_take] at hj
    rw [Nat.zero_add, nth_take (by omega)]
    exact ⟨by omega, rfl⟩
theorem Hx.drop {w : World} {B : Nat} {x : List Nat} (h : Hx w B x) (k : Nat) : Row w w.heap.size (some ⟨B, k, none⟩) (cu (x.drop k)) :=
  h.row k _ fun j hj => by
    rw [List.length_drop] at hj
    rw [nth_drop]
    exact ⟨by omega, rfl⟩
theorem info8 : (Tryd.prog.info? 23).map (·.size) = some 8 := by kernel_rfl
theorem info_of {x : List Nat} (h : x.length = 8) : (Tryd.prog.info? 23).map (·.size) = some (cu x).length := by rw [cu_len, h]; exact info8
theorem info_ofA {x : List Nat} (h : x.length = 8) : (Tryd.prog.info? 23).map (·.size) = some (cu x).toArray.size := by rw [List.size_toArray]; exact info_of h
theorem results_cell {P : Program} {fn : Func} {k : Tmp} {t : TypeId} {tmps : Array Value} {w : World} {a : Addr} {v : Value} (h : fn.results = #[.cell k t]) (hp : tmps.getD k undef = .pointer (some a)) (hl : (loadVar t a).run P w = .ok v w) : (results fn tmps).run P w = .ok v w := by
  rw [Array.getD_eq_getD_getElem?] at hp
  simp [results, h]
  rw [hp]
  simp [asAddr, hl]
theorem below_setCells {B : Nat} {a : World} {b : Nat} (hB : B ≤ b) : ∀ (vs : List Value) (o : Nat) (w : World), Below B a w → Below B a (w.setCells b o vs)
  | [], _, _, h => h
  | v :: r, o, w, h => by
    rw [World.setCells]
    exact below_setCells hB r (o + 1) _ (h.setCell hB v)
theorem load_set {w : World} {B : Nat} {x y : List Nat} (h : Hx w B x) (hL : x.length = 8) (hM : y.length = 8) : (loadVar 23 ⟨B, 0, none⟩).run Tryd.prog (w.setCells B 0 (cu y)) = .ok (av y) (w.setCells B 0 (cu y)) :=
  run_loadVar_mid _ B 0 23 (cu y) _ (World.rangeAt_setCells_same w B 0 _ (by have := h.there (y := y) (by omega); rwa [List.size_toArray] at this)) Tryd.underlying23 rfl (info_of hM)
theorem wpList_load_g {P : Program} {ops : Array Oper} {rest : List Oper} {op : Oper} {a : Act} {w : World} {Q : Exit → Act → World → Prop} (ty : TypeId) (x : Operand) (ho : op.op = .load ty x)
    (b o : Nat) (hx : a.eval x = .pointer (some ⟨b, o, none⟩)) (cs : List Value) (d : TypeDesc) (hc : w.rangeAt b o cs)
    (hu : P.underlying ty = some d) (hd : d.isRow = true) (hi : (P.info? ty).map (·.size) = some cs.length) (hgd : Region.wanted op (yielded ops a.tmps) = true)
    (h : wpList P ops Q rest (a.put op.dst (.agg cs.toArray)) w) : wpList P ops Q (op :: rest) a w := by
  refine wpList_step fun K hK => ?_
  simp only [hgd, if_true]
  exact wp_load_mid ty x ho b o hx cs d hc hu hd hi (hK _ _ h)
/-- a load of eight numbers, also behind a guard that is met -/
theorem load8 {ops : Array Oper} {rest : List Oper} {op : Oper} {a : Act} {w : World} {Q : Exit → Act → World → Prop} (p : Operand) (ho : op.op = .load 23 p)
    (b : Nat) (hx : a.eval p = .pointer (some ⟨b, 0, none⟩)) (x : List Nat) (hc : Hx w b x) (hL : x.length = 8) (hgd : Region.wanted op (yielded ops a.tmps) = true)
    (h : wpList Tryd.prog ops Q rest (a.put op.dst (.agg (cu x).toArray)) w) : wpList Tryd.prog ops Q (op :: rest) a w :=
  wpList_load_g 23 p ho b 0 hx (cu x) _ hc.range Tryd.underlying23 rfl (info_of hL) hgd h

/-! Two of them compared. -/
theorem u16_under : Tryd.prog.underlying 22 = some (.int .u16) := Tryd.underlying22
theorem part8 (x : List Nat) (w : World) (i : Nat) (h : i < x.length) : (part 22 (cu x).toArray i).run Tryd.prog w = .ok (.int .u16 (nth x i : Int)) w :=
  run_part_plain w (by kernel_rfl) (by rw [List.getElem?_toArray, cu_get h])
theorem items_eq (x y : List Nat) (w : World) (d : Nat) : ∀ is : List Nat, (∀ i ∈ is, i < x.length ∧ i < y.length) → (Op.eqItems (d + 1) 22 1 (cu x).toArray (cu y).toArray is).run Tryd.prog w = .ok (is.all fun i => (nth x i : Int) == (nth y i : Int)) w
  | [], _ => by simp [Op.eqItems]
  | i :: is, h => by
    have hi := h i (List.mem_cons_self ..)
    have ih := items_eq x y w d is fun j hj => h j (List.mem_cons_of_mem _ hj)
    simp only [Op.eqItems, Sem.run_bind, Nat.mul_one, part8 x w i hi.1, part8 y w i hi.2, Result.andThen_ok, run_equalIn_int w d 22 .u16 .u16 _ _ u16_under]
    rw [List.all_cons]
    cases hq : ((nth x i : Int) == (nth y i : Int)) with
    | true =>
      simp only [Bool.not_true, Bool.false_eq_true, if_false, Bool.true_and]
      exact ih
    | false => simp
theorem all_range (x y : List Nat) (h : x.length = y.length) : ((List.range x.length).all fun i => (nth x i : Int) == (nth y i : Int)) = decide (x = y) := by
  rw [Bool.eq_iff_iff, decide_eq_true_eq, List.all_eq_true]
  constructor
  · intro k
    refine List.ext_getElem h fun i h1 h2 => ?_
    have := eq_of_beq (k i (List.mem_range.2 h1))
    rw [nth, nth, List.getD, List.getD, List.getElem?_eq_getElem h1, List.getElem?_eq_getElem h2] at this
    simp only [Option.getD_some] at this
    omega
  · rintro rfl i _
    simp
theorem equal8 (x y : List Nat) (hL : x.length = 8) (hM : y.length = 8) (w : World) : (Op.equalIn 10000 23 (av x) (av y)).run Tryd.prog w = .ok (decide (x = y)) w := by
  obtain ⟨i, hi⟩ : ∃ i, Tryd.prog.info? 22 = some i := Option.isSome_iff_exists.1 (by kernel_rfl)
  have e := run_equalIn_array w 9999 (cu x).toArray (cu y).toArray Tryd.underlying23 hi
  rw [show Tryd.prog.cellsOf 22 = 1 by kernel_rfl, items_eq x y w 9998 (List.range 8) (fun i hi => by have := List.mem_range.1 hi; omega)] at e
  have h := all_range x y (by omega)
  rw [hL] at h
  rw [h] at e
  exact e
end Go.Proofs.YtcoppicieicikaaDoor.Sx
