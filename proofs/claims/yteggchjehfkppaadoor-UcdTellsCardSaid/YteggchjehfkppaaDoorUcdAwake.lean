/-
  The contract of awake of layer 2.
-/
import Derived.Test.YteggchjehfkppaaDoorUcdBracket
namespace Go.Proofs.YteggchjehfkppaaDoor
open Go.RowKit Ucd

theorem of65 : of 65 = [2, 0, 0, 0, 2, 0, 1] := by decide +kernel
theorem of769 : of 769 = [4, 8, 2, 230, 1, 0, 0] := by decide +kernel
theorem of1632 : of 1632 = [5, 6, 0, 0, 6, 2, 1] := by decide +kernel
theorem of57344 : of 57344 = [0, 0, 0, 0, 0, 0, 1] := by decide +kernel

theorem upB {w a b : World} (h : Below w.heap.size w a) (k : Below a.heap.size a b) : Below w.heap.size w b := h.trans (k.mono h.size)

theorem Of_lit (r : Int) (a b c d e f h : Int) (hr : of r = [a, b, c, d, e, f, h]) (w : World) : Calls Tryd.prog 10 #[.int .i32 r] w fun x w' => x = .returned (.agg #[.int .u8 a, .int .u8 b, .int .u8 c, .int .u8 d, .int .u8 e, .int .u8 f, .int .u8 h]) ∧ Below w.heap.size w w' := by
  have := Of_any r w
  rw [hr] at this
  exact this

theorem fld0 (a0 a1 a2 a3 a4 a5 a6 : Int) (w : World) : (Instr.field 25 (.agg #[.int .u8 a0, .int .u8 a1, .int .u8 a2, .int .u8 a3, .int .u8 a4, .int .u8 a5, .int .u8 a6]) 0).run Tryd.prog w = .ok (.int .u8 a0) w := by kernel_rfl
theorem fld1 (a0 a1 a2 a3 a4 a5 a6 : Int) (w : World) : (Instr.field 25 (.agg #[.int .u8 a0, .int .u8 a1, .int .u8 a2, .int .u8 a3, .int .u8 a4, .int .u8 a5, .int .u8 a6]) 1).run Tryd.prog w = .ok (.int .u8 a1) w := by kernel_rfl
theorem fld2 (a0 a1 a2 a3 a4 a5 a6 : Int) (w : World) : (Instr.field 25 (.agg #[.int .u8 a0, .int .u8 a1, .int .u8 a2, .int .u8 a3, .int .u8 a4, .int .u8 a5, .int .u8 a6]) 2).run Tryd.prog w = .ok (.int .u8 a2) w := by kernel_rfl
theorem fld3 (a0 a1 a2 a3 a4 a5 a6 : Int) (w : World) : (Instr.field 25 (.agg #[.int .u8 a0, .int .u8 a1, .int .u8 a2, .int .u8 a3, .int .u8 a4, .int .u8 a5, .int .u8 a6]) 3).run Tryd.prog w = .ok (.int .u8 a3) w := by kernel_rfl
theorem fld4 (a0 a1 a2 a3 a4 a5 a6 : Int) (w : World) : (Instr.field 25 (.agg #[.int .u8 a0, .int .u8 a1, .int .u8 a2, .int .u8 a3, .int .u8 a4, .int .u8 a5, .int .u8 a6]) 4).run Tryd.prog w = .ok (.int .u8 a4) w := by kernel_rfl
theorem fld5 (a0 a1 a2 a3 a4 a5 a6 : Int) (w : World) : (Instr.field 25 (.agg #[.int .u8 a0, .int .u8 a1, .int .u8 a2, .int .u8 a3, .int .u8 a4, .int .u8 a5, .int .u8 a6]) 5).run Tryd.prog w = .ok (.int .u8 a5) w := by kernel_rfl
theorem fld6 (a0 a1 a2 a3 a4 a5 a6 : Int) (w : World) : (Instr.field 25 (.agg #[.int .u8 a0, .int .u8 a1, .int .u8 a2, .int .u8 a3, .int .u8 a4, .int .u8 a5, .int .u8 a6]) 6).run Tryd.prog w = .ok (.int .u8 a6) w := by kernel_rfl

theorem Bracket_lit (r a : Int) (b c : Bool) (h : br r = (a, b, c)) (w : World) (hB : BrIs w) : Calls Tryd.prog 12 #[.int .i32 r] w fun e w' => e = .returned (.tuple #[.int .i32 a, .bool b, .bool c]) ∧ Below w.heap.size w w' := by
  have := Bracket_any r w hB
  rw [h] at this
  exact this

set_option maxRecDepth 100000 in
set_option maxHeartbeats 1000000 in
theorem awake_any (w : World) (hB : BrIs w) : Calls Tryd.prog 14 #[] w fun e w' => e = .returned (.bool true) ∧ Below w.heap.size w w' := by
  have HB := Lib.hid hB
  clear hB
  have f1 := fld1
  have f5 := fld5
  go_enter Tryd.func14, Tryd.ntmps14
  go_wp2_with (first
    | (go_at_call 12; refine (Bracket_lit 41 40 false true rfl _ HB.out).mono ?_; rintro e w1 ⟨rfl, hb1⟩)
    | (go_at_call_of 10 (Value.int .i32 65); refine (Of_lit 65 _ _ _ _ _ _ _ of65 _).mono ?_; rintro e w2 ⟨rfl, hb2⟩)
    | (go_at_call_of 10 (Value.int .i32 769); refine (Of_lit 769 _ _ _ _ _ _ _ of769 _).mono ?_; rintro e w3 ⟨rfl, hb3⟩)
    | (go_at_call_of 10 (Value.int .i32 1632); refine (Of_lit 1632 _ _ _ _ _ _ _ of1632 _).mono ?_; rintro e w4 ⟨rfl, hb4⟩)
    | (go_at_call_of 10 (Value.int .i32 57344); refine (Of_lit 57344 _ _ _ _ _ _ _ of57344 _).mono ?_; rintro e w5 ⟨rfl, hb5⟩))
  go_ret
  rename_i wx hbx
  exact ⟨rfl, upB (upB (upB (upB (upB hb1 hb2) hb3) hbx) hb4) hb5⟩
end Go.Proofs.YteggchjehfkppaaDoor
