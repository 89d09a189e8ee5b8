/-
  Closed facts over the program that the claim of HostAddresses asks, part B: by the kernel.
-/
import Derived.Test.YtediahdedmkehaaGreatDoorRows
import Derived.ProofKit
import Derived.Lay
import Derived.Stop.Joined
import Derived.SevenTiedAt
namespace Go.Proofs.YtediahdedmkehaaGreatDoor.hostAddresses
set_option maxRecDepth 100000
open Go
set_option maxRecDepth 100000

theorem fact3 : (Rows.hostAddressesRow.recurses == Tryz.prog.recurses 6) = true := by kernel_rfl
theorem fact4 : (Rows.hostAddressesRow.named == Tryz.prog.varsNamed 6) = true := by kernel_rfl
end Go.Proofs.YtediahdedmkehaaGreatDoor.hostAddresses
