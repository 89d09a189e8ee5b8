/-
  Closed facts over the program that the claim of HostPercent asks, part C: by the kernel.
-/
import Derived.Test.YtkibdkfdffkkfaaGreatDoorRows
import Derived.Test.YtkibdkfdffkkfaaGreatDoorCards
import Derived.Test.YtkibdkfdffkkfaaGreatDoorFactHostPercentA
import Derived.Test.YtkibdkfdffkkfaaGreatDoorFactHostPercentB
import Derived.ProofKit
import Derived.Lay
import Derived.Stop.Joined
import Derived.SevenTiedAt
namespace Go.Proofs.YtkibdkfdffkkfaaGreatDoor.hostPercent
set_option maxRecDepth 100000
open Go
set_option maxRecDepth 100000

theorem factClosed : joinedFacts Tryz.prog 4 Tryz.f4 Rows.hostPercentSpec Rows.hostPercentRow = true := by
  unfold joinedFacts
  rw [fact1, fact2, fact3, fact4]
  kernel_rfl
theorem factNamed : Tryz.pinned.checked.prog.funcNamed Rows.hostPercentRow.func = some 4 := by kernel_rfl
theorem factInst : decide (Tryz.f4.isInstance Tryz.pinned.checked.prog Rows.hostPercentRow.origin Rows.hostPercentRow.targs) = true := by kernel_rfl
theorem factWrap : Tryz.f4.isWrapper Tryz.pinned.checked.prog Rows.hostPercentRow.wrapper Rows.hostPercentRow.mainSum := by unfold Func.isWrapper; first | (rw [if_pos (by decide +kernel)]; kernel_rfl) | (rw [if_neg (by decide +kernel)]; exact ⟨rfl, rfl⟩)
theorem factWf : Rows.hostPercentRow.wfByText (OpenSpec.ofChange Rows.hostPercentSpec) = true := by kernel_rfl
theorem factMain : Tryz.pinned.checked.prog.mainIs = some (((true, "137039b85e0da20ee66a3b523a77f33db3625a659d975c50b28fb1670cb6d55a") : Bool × String).1, ((true, "137039b85e0da20ee66a3b523a77f33db3625a659d975c50b28fb1670cb6d55a") : Bool × String).2.toList) := by kernel_rfl
theorem factStand : ([22, 38].all fun u => !Tryz.prog.wantsStandIn u) = true := by kernel_rfl
end Go.Proofs.YtkibdkfdffkkfaaGreatDoor.hostPercent
