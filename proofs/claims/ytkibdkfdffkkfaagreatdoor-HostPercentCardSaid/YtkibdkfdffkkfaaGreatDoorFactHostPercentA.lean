/-
  Closed facts over the program that the claim of HostPercent asks, part A: by the kernel.
-/
import Derived.Test.YtkibdkfdffkkfaaGreatDoorRows
import Derived.ProofKit
import Derived.Lay
import Derived.Stop.Joined
import Derived.SevenTiedAt
namespace Go.Proofs.YtkibdkfdffkkfaaGreatDoor.hostPercent
set_option maxRecDepth 100000
open Go
set_option maxRecDepth 100000

theorem fact1 : (Rows.hostPercentRow.inPlace == Tryz.prog.inPlace 4) = true := by kernel_rfl
theorem fact2 : (Rows.hostPercentRow.unfollowed == Tryz.prog.unfollowed 4) = true := by kernel_rfl
end Go.Proofs.YtkibdkfdffkkfaaGreatDoor.hostPercent
