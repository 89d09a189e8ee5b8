/-
  rule: slices.Backward at []rune, the iterator that it hands back; ends.
-/
import Derived.Test.YtnmijmhgmcapcaaDoorRulC
import Derived.RangeFuncNested
import Derived.RangeFuncBound
import Derived.RangeFuncCalls
import Derived.RangeFuncLeaves
import Derived.Shelf.Abstract
import Derived.Shelf.RegionOpen
import Derived.OwnWalkIn
import Derived.TacticsInMore
import Derived.LoopNIn
import Derived.LoopIn
namespace Go.Proofs.YtnmijmhgmcapcaaDoor.Rul
open Go.RowKit Go.Shelf Ucd

attribute [local go_sem] Oper.semAt_some

/-- places and code points, from behind -/
def back (l : List Int) : Nat → List (Nat × Int)
  | 0 => []
  | k + 1 => (k, l[k]!) :: back l k
def encB (x : Nat × Int) : Array Value := #[.int .i64 (x.1 : Int), .int .i32 x.2]
/-- the last one that is no mark -/
def lb : List (Nat × Int) → Int
  | [] => 8
  | x :: t => if bc x.2 = 8 then lb t else bc x.2
theorem lb_back (l : List Int) : ∀ n, n ≤ l.length → lb (back l n) = lastC ((l.take n).map bc)
  | 0, _ => rfl
  | n + 1, h => by
    rw [List.take_succ_eq_append_getElem (by omega), List.map_append, List.map_singleton, lastC_snoc, ← lb_back l n (by omega), back, lb, getElem!_pos l n (by omega)]
theorem lb_all {p : List (Nat × Int)} (h : ∀ x ∈ p, bc x.2 = 8) (t : List (Nat × Int)) : lb (p ++ t) = lb t := by
  induction p with
  | nil => rfl
  | cons a p ih =>
    rw [List.cons_append, lb, if_pos (h a (List.mem_cons_self ..)), ih (fun x hx => h x (List.mem_cons_of_mem _ hx))]
theorem lb_marks {p : List (Nat × Int)} (h : ∀ x ∈ p, bc x.2 = 8) : lb p = 8 := by
  have := lb_all h []
  rwa [List.append_nil] at this
theorem back_len (l : List Int) : ∀ n, (back l n).length = n
  | 0 => rfl
  | n + 1 => by rw [back, List.length_cons, back_len l n]

/-- what a round keeps: all that lay below n, and one block -/
def KpB (n B : Nat) (W W' : World) : Prop := Below n W W' ∧ W'.heap[B]? = W.heap[B]?
theorem KpB.t {n B : Nat} {X Y Z : World} (h : KpB n B X Y) (k : KpB n B Y Z) : KpB n B X Z := ⟨h.1.trans k.1, k.2.trans h.2⟩
theorem KpB.b {n B : Nat} {w : World} (hn : n ≤ w.heap.size) (hB : B < w.heap.size) (W : World) (l : Nat) (o o' : Obj) (hl : w.heap.size ≤ l) (h : W.heap[l]? = some o) (h1 : o.isCells = false) (h2 : o.isWalk = false) : KpB n B W (W.putObj l o') :=
  ⟨belowK_b hn W l o o' hl h h1 h2, World.putObj_heap_other (by omega)⟩

set_option maxHeartbeats 1000000 in
theorem Backward_any (A : Option Addr) (len cap : Nat) (w : World) (n : Nat) :
    CallsIn Fence.wide n Tryd.prog 46 #[.slice A len cap] w fun e w' => e = .returned (.func (.func 53) #[] #[.pointer (some ⟨w.heap.size, 0, none⟩)]) ∧ w' = w.alloc (.cells #[.slice A len cap] 22) := by
  refine callsIn_of_wp Tryd.func46 rfl trivial ?_ rfl
  simp only [Tryd.ntmps46, List.size_toArray, List.length_cons, List.length_nil, Nat.reduceAdd, Nat.reduceSub, Array.replicate_succ, Array.replicate_zero, List.push_toArray, List.append_toArray, List.nil_append, List.cons_append]
  gi_wp2
  go_ret
  exact ⟨rfl, rfl⟩

def BRel (l : List Int) (n₁ Bn : Nat) (A : Option Addr) (len cap : Nat) (J : List (Nat × Int) → World → Prop) (i : Value) (wr : World) : Prop :=
  ∃ (pre : List (Nat × Int)) (k : Nat), k ≤ len ∧ i = .int .i64 ((k : Int) - 1) ∧ back l len = pre ++ back l k ∧ J pre wr ∧ Row wr n₁ A (cl .i32 l) ∧ wr.heap[Bn]? = some (.cells #[.slice A len cap] 22 (0, 0)) ∧ n₁ ≤ wr.heap.size
theorem pre_ltB {l : List Int} {pre : List (Nat × Int)} {k n : Nat} (h : back l n = pre ++ back l (k + 1)) : pre.length < n := by
  have := congrArg List.length h
  rw [List.length_append, back_len, back_len] at this
  omega

set_option maxRecDepth 100000 in
set_option maxHeartbeats 1000000 in
theorem back1_in (n : Nat) (hn : 1 ≤ n) (L Bn n₁ : Nat) (A : Option Addr) (len cap : Nat) (l : List Int) (hlen : l.length = len) (hm : len ≤ 1000000) (J Jx : List (Nat × Int) → World → Prop) (W : World) (hJ : AbidesFrom W.heap.size J)
    (hY : ∀ pre x W, J pre W → pre.length < len → YieldAt Fence.wide (n - 1) Tryd.prog L (encB x) W fun e W' =>
      (e = .returned (.bool true) ∧ J (pre ++ [x]) W' ∧ KpB n₁ Bn W W') ∨ (e = .returned (.bool false) ∧ Jx (pre ++ [x]) W'))
    (hBn : W.heap[Bn]? = some (.cells #[.slice A len cap] 22 (0, 0))) (hr : Row W n₁ A (cl .i32 l)) (hn₁ : n₁ ≤ W.heap.size) (h0 : J [] W) :
    CallsIn Fence.wide n Tryd.prog 53 #[.func (.yield L) #[] #[], .pointer (some ⟨Bn, 0, none⟩)] W fun e W' => (∃ v, e = .returned v) ∧
      ((∃ ys, ys = back l len ∧ J ys W') ∨ (∃ pre, pre <+: back l len ∧ Jx pre W')) := by
  have HL := Lib.hid hlen
  clear hlen
  have hcell0 : W.cell? ⟨Bn, 0, none⟩ = some (.slice A len cap) := by simp [World.cell?, hBn]
  refine callsIn_of_wp Tryd.func53 rfl trivial ?_ rfl
  simp only [Tryd.ntmps53, List.size_toArray, List.length_cons, List.length_nil, Nat.reduceAdd, Nat.reduceSub, Array.replicate_succ, Array.replicate_zero, List.push_toArray, List.append_toArray, List.nil_append, List.cons_append]
  gi_wp2
  gi_loopw [3] (fun i wr => BRel l n₁ Bn A len cap J i wr) (fun i _ => (intOf i + 1).toNat)
  case atStart => exact ⟨[], len, Nat.le_refl _, rfl, rfl, h0, hr, hBn, hn₁⟩
  case round =>
    clear hcell0
    obtain ⟨pre, k, hk, rfl, hcodes, hJs, hrw, hBw, hsz⟩ := hrel
    have hcell : wr.cell? ⟨Bn, 0, none⟩ = some (.slice A len cap) := by simp [World.cell?, hBw]
    cases k with
    | succ k =>
      have e1 : ((k + 1 : Nat) : Int) - 1 = (k : Int) := by omega
      rw [e1]
      clear e1
      have h0z : (0 : Int) ≤ (k : Int) := by omega
      have hltz : (k : Int) < (len : Int) := by omega
      obtain ⟨b, o, rfl, hb', hcc⟩ := hrw.at_ (by have := HL.out; simp; omega)
      have c0 := row_cell hcc k (by rw [HL.out]; omega)
      have HCO := Lib.hid hcodes
      have HJ := Lib.hid hJ
      have HY := Lib.hid hY
      clear hcodes hBn hr hn₁ h0 hJ hY hcc
      obtain ⟨fn, tmps, assign, body, hy, hR⟩ := HY.out pre (k, l[k]!) wr hJs (pre_ltB HCO.out)
      simp only [encB] at hy
      have HCS : Hid (back l len = (pre ++ [(k, l[k]!)]) ++ back l k) := Lib.hid (by rw [HCO.out, back, List.append_assoc]; rfl)
      generalize l[k]! = r at c0 hy hR HCS
      gi_wp2
      refine hR.mono ?_
      rintro e W3 (⟨rfl, hJ3, hk3⟩ | ⟨rfl, hJx3⟩)
      · gi_wp2
        go_roundw
        case rel => exact ⟨pre ++ [(k, r)], k, by omega, by go_num, HCS.out, hJ3, hrw.below hk3.1, hk3.2.trans hBw, Nat.le_trans hsz hk3.1.size⟩
        case measure => first | (simp [intOf]; done) | (simp [intOf]; omega)
      · gi_wp2
        refine bodyPost_ret (results_none rfl _ _ _) rfl ?_
        exact ⟨⟨_, rfl⟩, .inr ⟨pre ++ [(k, r)], ⟨back l k, HCS.out.symm⟩, hJx3⟩⟩
    | zero =>
      have e1 : ((0 : Nat) : Int) - 1 = -1 := by omega
      rw [e1]
      clear e1
      have HCO := Lib.hid hcodes
      clear hcodes
      gi_wp2
      go_end0
      exact ⟨⟨_, rfl⟩, .inl ⟨pre, by rw [HCO.out, back, List.append_nil], hJs⟩⟩

/-- what slices.Backward hands back, as an iterator -/
theorem back_stops (n : Nat) (hn : 1 ≤ n) (Bn n₁ : Nat) (A : Option Addr) (len cap : Nat) (l : List Int) (hlen : l.length = len) (hm : len ≤ 1000000) (w : World)
    (hBn : w.heap[Bn]? = some (.cells #[.slice A len cap] 22 (0, 0))) (hr : Row w n₁ A (cl .i32 l)) (hn₁ : n₁ ≤ w.heap.size) :
    SeqStopsK Fence.wide n Tryd.prog 53 #[.pointer (some ⟨Bn, 0, none⟩)] encB (KpB n₁ Bn) (fun ys => ys = back l len) (fun pre => pre <+: back l len) len w := fun L J Jx W hW hJ _ hY h0 =>
  back1_in n hn L Bn n₁ A len cap l hlen hm J Jx W hJ hY ((hW.block Bn (Array.getElem?_eq_some_iff.1 hBn).1).trans hBn) (hr.below (hW.mono hn₁)) (Nat.le_trans hn₁ hW.size) h0
end Go.Proofs.YtnmijmhgmcapcaaDoor.Rul
