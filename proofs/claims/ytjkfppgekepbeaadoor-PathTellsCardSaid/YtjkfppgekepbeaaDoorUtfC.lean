/-
  The contracts of utf.narrow, utf.ask, utf.first.
-/
import Derived.Test.YtjkfppgekepbeaaDoorUtfA
import Derived.Deep.QuietTactic
import Derived.BigQuiet
namespace Go.Proofs.YtjkfppgekepbeaaDoor.Ut
set_option maxRecDepth 100000
open Go.RowKit Utf

/-- a lead as a value -/
def ldV (s b l h : Int) : Value := .agg #[.int .i64 s, .int .u8 b, .int .u8 l, .int .u8 h]

def Narrowed (c s b : Int) (w : World) (e : Ending) (w' : World) : Prop :=
  e = .returned (ldV s b (loB c) (hiB c)) ∧ Below w.heap.size w w'

theorem narrowed_mk {c s b l h : Int} {w w' : World} (hl : loB c = l) (hh : hiB c = h) (hB : Below w.heap.size w w') : Narrowed c s b w (.returned (ldV s b l h)) w' := by
  subst hl hh
  exact ⟨rfl, hB⟩


def Asked (c : Int) (w : World) (e : Ending) (w' : World) : Prop :=
  e = .returned (ldV (lead c).1 (lead c).2.1 (lead c).2.2.1 (lead c).2.2.2) ∧ Below w.heap.size w w'

/-- a block of four cells that was laid ahead of a call -/
theorem blk4 {w w1 : World} {a b c d : Value} {t : TypeId} (hb : Below (w.alloc (.cells #[a, b, c, d] t)).heap.size (w.alloc (.cells #[a, b, c, d] t)) w1) :
    (w1.cell? ⟨w.heap.size, 0, none⟩ = some a ∧ w1.cell? ⟨w.heap.size, 1, none⟩ = some b ∧ w1.cell? ⟨w.heap.size, 2, none⟩ = some c ∧ w1.cell? ⟨w.heap.size, 3, none⟩ = some d) ∧
    (w1.frozen? ⟨w.heap.size, 0, none⟩ = false ∧ w1.frozen? ⟨w.heap.size, 1, none⟩ = false ∧ w1.frozen? ⟨w.heap.size, 2, none⟩ = false ∧ w1.frozen? ⟨w.heap.size, 3, none⟩ = false) ∧ w.heap.size < w1.heap.size := by
  have hblk : w1.heap[w.heap.size]? = some (.cells #[a, b, c, d] t (0, 0)) := (hb.block w.heap.size (by simp)).trans (World.alloc_heap_new w _)
  have hsz := hb.size
  rw [World.size_alloc] at hsz
  refine ⟨⟨?_, ?_, ?_, ?_⟩, ⟨?_, ?_, ?_, ?_⟩, by omega⟩
  all_goals simp [World.cell?, World.frozen?, hblk]


end Go.Proofs.YtjkfppgekepbeaaDoor.Ut
