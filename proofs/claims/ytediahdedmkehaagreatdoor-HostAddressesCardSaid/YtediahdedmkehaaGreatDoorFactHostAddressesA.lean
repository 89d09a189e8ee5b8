/-
  Closed facts over the program that the claim of HostAddresses asks, part A: by the kernel.
-/
import Derived.Test.YtediahdedmkehaaGreatDoorRows
import Derived.ProofKit
import Derived.Lay
import Derived.Stop.Joined
import Derived.SevenTiedAt
namespace Go.Proofs.YtediahdedmkehaaGreatDoor.hostAddresses
set_option maxRecDepth 100000
open Go
set_option maxRecDepth 100000

theorem fact1 : (Rows.hostAddressesRow.inPlace == Tryz.prog.inPlace 6) = true := by kernel_rfl
theorem fact2 : (Rows.hostAddressesRow.unfollowed == Tryz.prog.unfollowed 6) = true := by kernel_rfl
end Go.Proofs.YtediahdedmkehaaGreatDoor.hostAddresses
