/-
  The contracts of utf.divide and of the iterator that it hands back.
-/
import Derived.Test.YtjkfppgekepbeaaDoorUtfD
import Derived.RangeFuncNested
import Derived.RangeFuncBound
import Derived.RangeFuncCalls
import Derived.RangeFuncLeaves
import Derived.Shelf.Abstract
import Derived.Shelf.RegionOpen
import Derived.OwnWalkIn
import Derived.TacticsInMore
import Derived.LoopNIn
import Derived.LoopIn
namespace Go.Proofs.YtjkfppgekepbeaaDoor.Ut
set_option maxRecDepth 100000
open Go.RowKit Go.Shelf Utf

attribute [local go_sem] Oper.semAt_some

/-- a code as the two values that are yielded -/
def cdV (x : Cd) : Value := .agg #[.int .i32 x.1, .int .i64 (x.2.1 : Int), .int .i64 (x.2.2.1 : Int)]
def encs (x : Cd) : Array Value := #[.agg #[.int .i32 x.1, .int .i64 (x.2.1 : Int), .int .i64 (x.2.2.1 : Int)], .bool x.2.2.2]

/-- what a round keeps: all that lay below n, and one block -/
def KpB (n B : Nat) (W W' : World) : Prop := Below n W W' ∧ W'.heap[B]? = W.heap[B]?
theorem KpB.t {n B : Nat} {X Y Z : World} (h : KpB n B X Y) (k : KpB n B Y Z) : KpB n B X Z := ⟨h.1.trans k.1, k.2.trans h.2⟩
theorem KpB.b {n B : Nat} {w : World} (hn : n ≤ w.heap.size) (hB : B < w.heap.size) (W : World) (l : Nat) (o o' : Obj) (hl : w.heap.size ≤ l) (h : W.heap[l]? = some o) (h1 : o.isCells = false) (h2 : o.isWalk = false) : KpB n B W (W.putObj l o') :=
  ⟨belowK_b hn W l o o' hl h h1 h2, World.putObj_heap_other (by omega)⟩


def DRel (bs : List Int) (n₁ Bn : Nat) (A : Option Addr) (len cap : Nat) (J : List Cd → World → Prop) (i : Value) (wr : World) : Prop :=
  ∃ (pre : List Cd) (k : Nat), k ≤ len ∧ i = .int .i64 k ∧ codes bs = pre ++ codesAt bs k ∧ J pre wr ∧ Row wr n₁ A (cl .u8 bs) ∧ wr.heap[Bn]? = some (.cells #[.slice A len cap] 40 (0, 0)) ∧ n₁ ≤ wr.heap.size



end Go.Proofs.YtjkfppgekepbeaaDoor.Ut
