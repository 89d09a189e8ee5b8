/-
  The contract of ucd.Bracket.
-/
import Derived.Test.YteggchjehfkppaaDoorUcdTable
import Derived.Handy
import Derived.Deep.Light
namespace Go.Proofs.YteggchjehfkppaaDoor
open Go.RowKit Ucd

/-- the brackets, in pairs -/
def brl : List Int := [40, 41, 91, 93, 123, 125, 9001, 9002, 12296, 12297, 12300, 12301, 65288, 65289]
/-- the other one of a bracket, whether it opens, whether it is one -/
def br (r : Int) : Int × Bool × Bool :=
  if r = 40 then (41, true, true) else if r = 41 then (40, false, true)
  else if r = 91 then (93, true, true) else if r = 93 then (91, false, true)
  else if r = 123 then (125, true, true) else if r = 125 then (123, false, true)
  else if r = 9001 then (9002, true, true) else if r = 9002 then (9001, false, true)
  else if r = 12296 then (12297, true, true) else if r = 12297 then (12296, false, true)
  else if r = 12300 then (12301, true, true) else if r = 12301 then (12300, false, true)
  else if r = 65288 then (65289, true, true) else if r = 65289 then (65288, false, true)
  else (0, false, false)

/-- the variable holds them -/
def BrIs (w : World) : Prop := ∀ k, k < 14 → w.cell? ⟨0, k, none⟩ = some (.int .i32 (brl.getD k 0))
theorem BrIs.lt {w : World} (h : BrIs w) : 0 < w.heap.size := World.block_lt_of_cell? w _ (h 0 (by omega))
theorem BrIs.go {w w' : World} (h : BrIs w) (hb : Below w.heap.size w w') : BrIs w' := fun k hk => (hb.cell (p := ⟨0, k, none⟩) h.lt).trans (h k hk)

theorem bx0 (w : World) : (Instr.index 52 (.agg #[.int .i32 40, .int .i32 41, .int .i32 91, .int .i32 93, .int .i32 123, .int .i32 125, .int .i32 9001, .int .i32 9002, .int .i32 12296, .int .i32 12297, .int .i32 12300, .int .i32 12301, .int .i32 65288, .int .i32 65289]) (.int .i64 0)).run Tryd.prog w = .ok (.agg #[.int .i32 40, .int .i32 41]) w := by kernel_rfl
theorem bx1 (w : World) : (Instr.index 52 (.agg #[.int .i32 40, .int .i32 41, .int .i32 91, .int .i32 93, .int .i32 123, .int .i32 125, .int .i32 9001, .int .i32 9002, .int .i32 12296, .int .i32 12297, .int .i32 12300, .int .i32 12301, .int .i32 65288, .int .i32 65289]) (.int .i64 1)).run Tryd.prog w = .ok (.agg #[.int .i32 91, .int .i32 93]) w := by kernel_rfl
theorem bx2 (w : World) : (Instr.index 52 (.agg #[.int .i32 40, .int .i32 41, .int .i32 91, .int .i32 93, .int .i32 123, .int .i32 125, .int .i32 9001, .int .i32 9002, .int .i32 12296, .int .i32 12297, .int .i32 12300, .int .i32 12301, .int .i32 65288, .int .i32 65289]) (.int .i64 2)).run Tryd.prog w = .ok (.agg #[.int .i32 123, .int .i32 125]) w := by kernel_rfl
theorem bx3 (w : World) : (Instr.index 52 (.agg #[.int .i32 40, .int .i32 41, .int .i32 91, .int .i32 93, .int .i32 123, .int .i32 125, .int .i32 9001, .int .i32 9002, .int .i32 12296, .int .i32 12297, .int .i32 12300, .int .i32 12301, .int .i32 65288, .int .i32 65289]) (.int .i64 3)).run Tryd.prog w = .ok (.agg #[.int .i32 9001, .int .i32 9002]) w := by kernel_rfl
theorem bx4 (w : World) : (Instr.index 52 (.agg #[.int .i32 40, .int .i32 41, .int .i32 91, .int .i32 93, .int .i32 123, .int .i32 125, .int .i32 9001, .int .i32 9002, .int .i32 12296, .int .i32 12297, .int .i32 12300, .int .i32 12301, .int .i32 65288, .int .i32 65289]) (.int .i64 4)).run Tryd.prog w = .ok (.agg #[.int .i32 12296, .int .i32 12297]) w := by kernel_rfl
theorem bx5 (w : World) : (Instr.index 52 (.agg #[.int .i32 40, .int .i32 41, .int .i32 91, .int .i32 93, .int .i32 123, .int .i32 125, .int .i32 9001, .int .i32 9002, .int .i32 12296, .int .i32 12297, .int .i32 12300, .int .i32 12301, .int .i32 65288, .int .i32 65289]) (.int .i64 5)).run Tryd.prog w = .ok (.agg #[.int .i32 12300, .int .i32 12301]) w := by kernel_rfl
theorem bx6 (w : World) : (Instr.index 52 (.agg #[.int .i32 40, .int .i32 41, .int .i32 91, .int .i32 93, .int .i32 123, .int .i32 125, .int .i32 9001, .int .i32 9002, .int .i32 12296, .int .i32 12297, .int .i32 12300, .int .i32 12301, .int .i32 65288, .int .i32 65289]) (.int .i64 6)).run Tryd.prog w = .ok (.agg #[.int .i32 65288, .int .i32 65289]) w := by kernel_rfl

set_option maxRecDepth 100000 in
set_option maxHeartbeats 1000000 in
theorem Bracket_any (r : Int) (w : World) (hB : BrIs w) : Calls Tryd.prog 12 #[.int .i32 r] w fun e w' => e = .returned (.tuple #[.int .i32 (br r).1, .bool (br r).2.1, .bool (br r).2.2]) ∧ Below w.heap.size w w' := by
  have c0 := hB 0 (by omega)
  have c1 := hB 1 (by omega)
  have c2 := hB 2 (by omega)
  have c3 := hB 3 (by omega)
  have c4 := hB 4 (by omega)
  have c5 := hB 5 (by omega)
  have c6 := hB 6 (by omega)
  have c7 := hB 7 (by omega)
  have c8 := hB 8 (by omega)
  have c9 := hB 9 (by omega)
  have c10 := hB 10 (by omega)
  have c11 := hB 11 (by omega)
  have c12 := hB 12 (by omega)
  have c13 := hB 13 (by omega)
  have hlt := hB.lt
  simp only [brl, List.getD_cons_zero, List.getD_cons_succ] at c0 c1 c2 c3 c4 c5 c6 c7 c8 c9 c10 c11 c12 c13
  clear hB
  go_enter Tryd.func12, Tryd.ntmps12
  go_wp2
  clear c0 c1 c2 c3 c4 c5 c6 c7 c8 c9 c10 c11 c12 c13 hlt
  have b0 := bx0
  have b1 := bx1
  have b2 := bx2
  have b3 := bx3
  have b4 := bx4
  have b5 := bx5
  have b6 := bx6
  go_rounds 8
  all_goals (go_ret3; clear b0 b1 b2 b3 b4 b5 b6)
  all_goals refine ⟨?_, by go_grown⟩
  all_goals (go_light; (first | (simp_all [br]; done) | (simp [br, *]; done)))
end Go.Proofs.YteggchjehfkppaaDoor
