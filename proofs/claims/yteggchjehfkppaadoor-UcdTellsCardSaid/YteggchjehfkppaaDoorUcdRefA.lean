/-
  The document's own answer of layer 2: fasciaref02.Bracket, prop.
-/
import Derived.Test.YteggchjehfkppaaDoorUcdOpen
namespace Go.Proofs.YteggchjehfkppaaDoor
open Go.RowKit Ucd

set_option maxRecDepth 100000 in
set_option maxHeartbeats 1000000 in
theorem RefBracket_any (r : Int) (w : World) : Calls Tryd.prog 13 #[.int .i32 r] w fun e w' => e = .returned (.tuple #[.int .i32 (br r).1, .bool (br r).2.1]) ∧ w = w' := by
  go_enter Tryd.func13, Tryd.ntmps13
  go_wp2
  all_goals go_ret2
  all_goals refine ⟨?_, rfl⟩
  all_goals (go_light; (first | (simp_all [br]; done) | (simp [br, *]; done)))

/-- a byte out of an int that fits -/
theorem u8_in (x : Int) (h0 : 0 ≤ x) (h1 : x < 256) : IntKind.u8.wrap x = x := by
  simp [IntKind.wrap, IntKind.bits, IntKind.signed]
  omega

set_option maxRecDepth 100000 in
set_option maxHeartbeats 1000000 in
theorem RefProp_any (a b : Int) (i : Nat) (hi : i < 166) (w : World) : Calls Tryd.prog 24 #[.agg #[.int .i64 a, .int .i64 b, .int .i64 (g (pr i) 0), .int .i64 (g (pr i) 1), .int .i64 (g (pr i) 2), .int .i64 (g (pr i) 3), .int .i64 (g (pr i) 4), .int .i64 (g (pr i) 5), .int .i64 (g (pr i) 6)]] w fun e w' => e = .returned (pv (pr i)) ∧ Below w.heap.size w w' := by
  have h0 := pr_bd hi 0
  have h1 := pr_bd hi 1
  have h2 := pr_bd hi 2
  have h3 := pr_bd hi 3
  have h4 := pr_bd hi 4
  have h5 := pr_bd hi 5
  have h6 := pr_bd hi 6
  go_enter Tryd.func24, Tryd.ntmps24
  go_wp2
  refine bodyPost_ret (v := pv (pr i)) ?_ rfl ⟨rfl, ?_⟩
  · simp [results, Tryd.results24, go_sem]
  · exact ((Below.refl _ _).alloc (Nat.le_refl _) _).alloc (by simp) _

end Go.Proofs.YteggchjehfkppaaDoor
