/-
  Closed facts over the program that the claim of HostAddresses asks, part C: by the kernel.
-/
import Derived.Test.YtediahdedmkehaaGreatDoorRows
import Derived.Test.YtediahdedmkehaaGreatDoorCards
import Derived.Test.YtediahdedmkehaaGreatDoorFactHostAddressesA
import Derived.Test.YtediahdedmkehaaGreatDoorFactHostAddressesB
import Derived.ProofKit
import Derived.Lay
import Derived.Stop.Joined
import Derived.SevenTiedAt
namespace Go.Proofs.YtediahdedmkehaaGreatDoor.hostAddresses
set_option maxRecDepth 100000
open Go
set_option maxRecDepth 100000

theorem factClosed : joinedFacts Tryz.prog 6 Tryz.f6 Rows.hostAddressesSpec Rows.hostAddressesRow = true := by
  unfold joinedFacts
  rw [fact1, fact2, fact3, fact4]
  kernel_rfl
theorem factNamed : Tryz.pinned.checked.prog.funcNamed Rows.hostAddressesRow.func = some 6 := by kernel_rfl
theorem factInst : decide (Tryz.f6.isInstance Tryz.pinned.checked.prog Rows.hostAddressesRow.origin Rows.hostAddressesRow.targs) = true := by kernel_rfl
theorem factWrap : Tryz.f6.isWrapper Tryz.pinned.checked.prog Rows.hostAddressesRow.wrapper Rows.hostAddressesRow.mainSum := by unfold Func.isWrapper; first | (rw [if_pos (by decide +kernel)]; kernel_rfl) | (rw [if_neg (by decide +kernel)]; exact ⟨rfl, rfl⟩)
theorem factWf : Rows.hostAddressesRow.wfByText (OpenSpec.ofChange Rows.hostAddressesSpec) = true := by kernel_rfl
theorem factMain : Tryz.pinned.checked.prog.mainIs = some (((true, "caeae66d0ac8e7ecbe9b5413e61e95a2dacf9bc82edc42200cf758e6523b2a4a") : Bool × String).1, ((true, "caeae66d0ac8e7ecbe9b5413e61e95a2dacf9bc82edc42200cf758e6523b2a4a") : Bool × String).2.toList) := by kernel_rfl
theorem factStand : ([23, 25, 5].all fun u => !Tryz.prog.wantsStandIn u) = true := by kernel_rfl
end Go.Proofs.YtediahdedmkehaaGreatDoor.hostAddresses
