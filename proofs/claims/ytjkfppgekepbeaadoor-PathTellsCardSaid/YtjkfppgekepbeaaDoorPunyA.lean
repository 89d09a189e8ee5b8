/-
  Contracts of puny.scalar, puny.allScalars, puny.basics, puny.firstBias, (puny.bias).threshold, (*puny.bias).follow.
-/
import Derived.Test.YtjkfppgekepbeaaDoorRows
import Derived.Test.YtjkfppgekepbeaaDoorPunyMath
import Derived.Test.YtjkfppgekepbeaaDoorWords
import Derived.WalkKit
import Derived.WalkLawsBesides
import Derived.WalkSpells
import Derived.Outline
import Derived.Lib.Hide
namespace Go.Proofs.YtjkfppgekepbeaaDoor.Pn
set_option maxRecDepth 100000
open Go.RowKit Puny

def isSca (n : Int) : Bool := decide (0 ≤ n ∧ n ≤ 1114111 ∧ (n < 55296 ∨ 57343 < n))


def IsBool (b : Bool) (w : World) (e : Ending) (w' : World) : Prop := e = .returned (.bool b) ∧ w = w'
theorem isBool_mk {a b : Bool} {w : World} (h : a = b) : IsBool b w (.returned (.bool a)) w := ⟨by rw [h], rfl⟩


theorem info_u8 : (Tryd.prog.info? 5).map (fun i => (i.zero, i.size, i.bytes)) = some (some (.int .u8 0), 1, 1) := by kernel_rfl
theorem info_i32 : (Tryd.prog.info? 21).map (fun i => (i.zero, i.size, i.bytes)) = some (some (.int .i32 0), 1, 4) := by kernel_rfl

def biasV (lead part : Nat) : Value := .agg #[.int .i64 lead, .int .i64 part]



/-- what 'follow' does, behind a name -/
def Followed (B d part h : Nat) (w : World) (e : Ending) (w' : World) : Prop :=
  e = .returned (.tuple #[]) ∧ w' = (w.setCell ⟨B, 0, none⟩ (.int .i64 (next d part h : Nat))).setCell ⟨B, 1, none⟩ (.int .i64 2)

theorem followed_mk {B d part h x : Nat} {w : World} (e : next d part h = x) : Followed B d part h w (.returned (.tuple #[])) ((w.setCell ⟨B, 0, none⟩ (.int .i64 (x : Nat))).setCell ⟨B, 1, none⟩ (.int .i64 2)) := by
  subst e; exact ⟨rfl, rfl⟩

theorem adapt_go {d k : Nat} (h : 455 < d) : adapt d k = adapt (d / 35) (k + 36) := by rw [adapt, dif_pos h]
theorem adapt_end {d k : Nat} (h : ¬ 455 < d) : adapt d k = k + 36 * d / (d + 38) := by rw [adapt, dif_neg h]

end Go.Proofs.YtjkfppgekepbeaaDoor.Pn
