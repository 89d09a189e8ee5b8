/-
  The contracts of ucd's switches over names.
-/
import Derived.Test.YtncnagagigalhaaGreatDoorUcdNum2
import Derived.Test.YtncnagagigalhaaGreatDoorUcdNamesMath
namespace Go.Proofs.YtncnagagigalhaaGreatDoor
open Go.RowKit Ucd

set_option maxRecDepth 100000 in
set_option maxHeartbeats 1000000 in
theorem category_any (l : List UInt8) (w : World) : Calls Tryz.prog 46 #[.string (bst l)] w fun e w' => e = .returned (.int .u8 (categoryF l : Nat)) ∧ w = w' := by
  go_enter Tryz.func46, Tryz.ntmps46
  go_wp2
  all_goals go_ret
  all_goals exact ⟨by simp only [categoryF, *, if_true, if_false, Bool.false_eq_true]; rfl, rfl⟩

set_option maxRecDepth 100000 in
set_option maxHeartbeats 1000000 in
theorem explicit_any (l : List UInt8) (w : World) : Calls Tryz.prog 65 #[.string (bst l)] w fun e w' => e = .returned (.int .u8 (explicitF l : Nat)) ∧ w = w' := by
  go_enter Tryz.func65, Tryz.ntmps65
  go_wp2
  all_goals go_ret
  all_goals exact ⟨by simp only [explicitF, *, if_true, if_false, Bool.false_eq_true]; rfl, rfl⟩

set_option maxRecDepth 100000 in
set_option maxHeartbeats 1000000 in
theorem bidi_any (l : List UInt8) (w : World) : Calls Tryz.prog 48 #[.string (bst l)] w fun e w' => e = .returned (.int .u8 (bidiF l : Nat)) ∧ w = w' := by
  go_enter Tryz.func48, Tryz.ntmps48
  go_wp2_with (go_at_call 65; refine (explicit_any l _).mono ?_; rintro e w' ⟨rfl, rfl⟩)
  all_goals go_ret
  all_goals exact ⟨by simp only [bidiF, *, if_true, if_false, Bool.false_eq_true]; rfl, rfl⟩

set_option maxRecDepth 100000 in
set_option maxHeartbeats 1000000 in
theorem join_any (l : List UInt8) (w : World) : Calls Tryz.prog 49 #[.string (bst l)] w fun e w' => e = .returned (.int .u8 (joinF l : Nat)) ∧ w = w' := by
  go_enter Tryz.func49, Tryz.ntmps49
  go_wp2
  all_goals go_ret
  all_goals exact ⟨by simp only [joinF, *, if_true, if_false, Bool.false_eq_true]; rfl, rfl⟩

set_option maxRecDepth 100000 in
set_option maxHeartbeats 1000000 in
theorem script_any (l : List UInt8) (w : World) : Calls Tryz.prog 50 #[.string (bst l)] w fun e w' => e = .returned (.int .u8 (scriptF l : Nat)) ∧ w = w' := by
  go_enter Tryz.func50, Tryz.ntmps50
  go_wp2
  all_goals go_ret
  all_goals exact ⟨by simp only [scriptF, *, if_true, if_false, Bool.false_eq_true]; rfl, rfl⟩

set_option maxRecDepth 100000 in
set_option maxHeartbeats 1000000 in
theorem digits_any (l : List UInt8) (w : World) : Calls Tryz.prog 51 #[.string (bst l)] w fun e w' => e = .returned (.int .u8 (digitsF l : Nat)) ∧ w = w' := by
  go_enter Tryz.func51, Tryz.ntmps51
  go_wp2
  all_goals go_ret
  all_goals exact ⟨by simp only [digitsF, *, if_true, if_false, Bool.false_eq_true]; rfl, rfl⟩

end Go.Proofs.YtncnagagigalhaaGreatDoor
