/-
  Closed facts over the program that the claim of HostForbidden asks, part A: by the kernel.
-/
import Derived.Test.YtediahdedmkehaaGreatDoorRows
import Derived.ProofKit
import Derived.Lay
import Derived.Stop.Joined
import Derived.SevenTiedAt
namespace Go.Proofs.YtediahdedmkehaaGreatDoor.hostForbidden
set_option maxRecDepth 100000
open Go
set_option maxRecDepth 100000

theorem fact1 : (Rows.hostForbiddenRow.inPlace == Tryz.prog.inPlace 7) = true := by kernel_rfl
theorem fact2 : (Rows.hostForbiddenRow.unfollowed == Tryz.prog.unfollowed 7) = true := by kernel_rfl
end Go.Proofs.YtediahdedmkehaaGreatDoor.hostForbidden
