/-
  Closed facts over the program that the claim of HostPercent asks, part B: by the kernel.
-/
import Derived.Test.YtkibdkfdffkkfaaGreatDoorRows
import Derived.ProofKit
import Derived.Lay
import Derived.Stop.Joined
import Derived.SevenTiedAt
namespace Go.Proofs.YtkibdkfdffkkfaaGreatDoor.hostPercent
set_option maxRecDepth 100000
open Go
set_option maxRecDepth 100000

theorem fact3 : (Rows.hostPercentRow.recurses == Tryz.prog.recurses 4) = true := by kernel_rfl
theorem fact4 : (Rows.hostPercentRow.named == Tryz.prog.varsNamed 4) = true := by kernel_rfl
end Go.Proofs.YtkibdkfdffkkfaaGreatDoor.hostPercent
