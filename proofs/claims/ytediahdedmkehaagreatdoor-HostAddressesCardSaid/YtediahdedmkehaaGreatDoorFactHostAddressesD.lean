/-
  Closed facts over the program that the claim of HostAddresses asks, part D: by the kernel.
-/
import Derived.Test.YtediahdedmkehaaGreatDoorRows
import Derived.Test.YtediahdedmkehaaGreatDoorCards
import Derived.ProofKit
import Derived.Lay
import Derived.Stop.Joined
import Derived.SevenTiedAt
namespace Go.Proofs.YtediahdedmkehaaGreatDoor.hostAddresses
set_option maxRecDepth 100000
open Go
set_option maxRecDepth 100000

theorem factLooks : true = Tryz.pinned.checked.prog.looks [] := by kernel_rfl
theorem factGoes : false = Rows.hostAddressesRow.goesBy Tryz.pinned.checked.prog := by kernel_rfl
end Go.Proofs.YtediahdedmkehaaGreatDoor.hostAddresses
