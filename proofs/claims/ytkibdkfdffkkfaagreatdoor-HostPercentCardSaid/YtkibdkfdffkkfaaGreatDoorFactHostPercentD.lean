/-
  Closed facts over the program that the claim of HostPercent asks, part D: by the kernel.
-/
import Derived.Test.YtkibdkfdffkkfaaGreatDoorRows
import Derived.Test.YtkibdkfdffkkfaaGreatDoorCards
import Derived.ProofKit
import Derived.Lay
import Derived.Stop.Joined
import Derived.SevenTiedAt
namespace Go.Proofs.YtkibdkfdffkkfaaGreatDoor.hostPercent
set_option maxRecDepth 100000
open Go
set_option maxRecDepth 100000

theorem factLooks : true = Tryz.pinned.checked.prog.looks [] := by kernel_rfl
theorem factGoes : false = Rows.hostPercentRow.goesBy Tryz.pinned.checked.prog := by kernel_rfl
end Go.Proofs.YtkibdkfdffkkfaaGreatDoor.hostPercent
