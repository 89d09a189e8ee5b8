/-
  Closed facts over the program that the claim of HostForbidden asks, part B: by the kernel.
-/
import Derived.Test.YtediahdedmkehaaGreatDoorRows
import Derived.ProofKit
import Derived.Lay
import Derived.Stop.Joined
import Derived.SevenTiedAt
namespace Go.Proofs.YtediahdedmkehaaGreatDoor.hostForbidden
set_option maxRecDepth 100000
open Go
set_option maxRecDepth 100000

theorem fact3 : (Rows.hostForbiddenRow.recurses == Tryz.prog.recurses 7) = true := by kernel_rfl
theorem fact4 : (Rows.hostForbiddenRow.named == Tryz.prog.varsNamed 7) = true := by kernel_rfl
end Go.Proofs.YtediahdedmkehaaGreatDoor.hostForbidden
