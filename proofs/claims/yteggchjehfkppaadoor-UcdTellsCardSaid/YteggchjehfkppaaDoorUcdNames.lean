/-
  The contracts of ucd's switches over names.
-/
import Derived.Test.YteggchjehfkppaaDoorUcdNum2
import Derived.Test.YteggchjehfkppaaDoorUcdNamesMath
namespace Go.Proofs.YteggchjehfkppaaDoor
open Go.RowKit Ucd

set_option maxRecDepth 100000 in
set_option maxHeartbeats 1000000 in
theorem category_any (l : List UInt8) (w : World) : Calls Tryd.prog 30 #[.string (bst l)] w fun e w' => e = .returned (.int .u8 (categoryF l : Nat)) ∧ w = w' := by
  go_enter Tryd.func30, Tryd.ntmps30
  go_wp2
  all_goals go_ret
  all_goals exact ⟨by simp only [categoryF, *, if_true, if_false, Bool.false_eq_true]; rfl, rfl⟩

set_option maxRecDepth 100000 in
set_option maxHeartbeats 1000000 in
theorem explicit_any (l : List UInt8) (w : World) : Calls Tryd.prog 39 #[.string (bst l)] w fun e w' => e = .returned (.int .u8 (explicitF l : Nat)) ∧ w = w' := by
  go_enter Tryd.func39, Tryd.ntmps39
  go_wp2
  all_goals go_ret
  all_goals exact ⟨by simp only [explicitF, *, if_true, if_false, Bool.false_eq_true]; rfl, rfl⟩

set_option maxRecDepth 100000 in
set_option maxHeartbeats 1000000 in
theorem bidi_any (l : List UInt8) (w : World) : Calls Tryd.prog 32 #[.string (bst l)] w fun e w' => e = .returned (.int .u8 (bidiF l : Nat)) ∧ w = w' := by
  go_enter Tryd.func32, Tryd.ntmps32
  go_wp2_with (go_at_call 39; refine (explicit_any l _).mono ?_; rintro e w' ⟨rfl, rfl⟩)
  all_goals go_ret
  all_goals exact ⟨by simp only [bidiF, *, if_true, if_false, Bool.false_eq_true]; rfl, rfl⟩

set_option maxRecDepth 100000 in
set_option maxHeartbeats 1000000 in
theorem join_any (l : List UInt8) (w : World) : Calls Tryd.prog 33 #[.string (bst l)] w fun e w' => e = .returned (.int .u8 (joinF l : Nat)) ∧ w = w' := by
  go_enter Tryd.func33, Tryd.ntmps33
  go_wp2
  all_goals go_ret
  all_goals exact ⟨by simp only [joinF, *, if_true, if_false, Bool.false_eq_true]; rfl, rfl⟩

set_option maxRecDepth 100000 in
set_option maxHeartbeats 1000000 in
theorem script_any (l : List UInt8) (w : World) : Calls Tryd.prog 34 #[.string (bst l)] w fun e w' => e = .returned (.int .u8 (scriptF l : Nat)) ∧ w = w' := by
  go_enter Tryd.func34, Tryd.ntmps34
  go_wp2
  all_goals go_ret
  all_goals exact ⟨by simp only [scriptF, *, if_true, if_false, Bool.false_eq_true]; rfl, rfl⟩

set_option maxRecDepth 100000 in
set_option maxHeartbeats 1000000 in
theorem digits_any (l : List UInt8) (w : World) : Calls Tryd.prog 35 #[.string (bst l)] w fun e w' => e = .returned (.int .u8 (digitsF l : Nat)) ∧ w = w' := by
  go_enter Tryd.func35, Tryd.ntmps35
  go_wp2
  all_goals go_ret
  all_goals exact ⟨by simp only [digitsF, *, if_true, if_false, Bool.false_eq_true]; rfl, rfl⟩

end Go.Proofs.YteggchjehfkppaaDoor
