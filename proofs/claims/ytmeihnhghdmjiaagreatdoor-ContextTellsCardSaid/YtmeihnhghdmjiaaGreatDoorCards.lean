/-
  DERIVED. GIVEN WITH THE SEED: THE CARDS: each row of YtmeihnhghdmjiaaGreatDoorRows.lean that lists a variable, with what it lists TIED to the program's text (the seventh form; the later family's looks); each row that meets fmt, with fmt's text TOLD by the authors' own Lean function (tested against real Go, not proved from fmt's source: count such statements apart). THE CARD IS WHAT COUNTS. Prove the row's statement (the work); the ties are given (YtmeihnhghdmjiaaGreatDoorTie.lean); close each card by the builder's one call (the guide's Derived/Test/ToyasCard.lean, 'card_holds'). Laid BY PROGRAM, IN A SANDBOX (cutbox-door.mjs). By AI agents, Wed Nov 11 2026. No macro, syntax, notation, axiom, sorry.
-/
import Derived.Test.YtmeihnhghdmjiaaGreatDoorRows
import GoSem.ClaimSeven
namespace Go.Proofs.YtmeihnhghdmjiaaGreatDoor
namespace Rows

/-- THE TIED CARD OF 'fascialaw08.ContextTells'. -/
def contextTellsCard : Claim7 := { stood := { row := contextTellsRow, standIns := [], harness := (true, "ecbbf9722e0413cb5113be87cddab2b648b49d7f858c7f96b3a4e688391d5225"), looks := true }, kinds := [], alts := [], laidByText := true, laidKinds := [.data, .data, .data, .data, .sentinel, .sentinel, .pinned], laidTests := true, laidLooks := .later }
def ContextTellsCardSaid : Prop := Claim7.holds Tryz.pinned (.plain (OpenSpec.ofChange contextTellsSpec)) contextTellsCard

/-- THE SECOND FORM's CARD OF 'fascialaw08.ContextTells'. -/
def contextTellsUptoCard : Claim7 := { stood := { row := contextTellsUptoRow, standIns := [], harness := (true, "ecbbf9722e0413cb5113be87cddab2b648b49d7f858c7f96b3a4e688391d5225"), looks := true }, kinds := [], alts := [], laidByText := true, laidKinds := [.data, .data, .data, .data, .sentinel, .sentinel, .pinned], laidTests := true, laidLooks := .later }
def ContextTellsUptoCardSaid : Prop := Claim7.holds Tryz.pinned (.plain (OpenSpec.upto contextTellsSpec)) contextTellsUptoCard
end Rows
end Go.Proofs.YtmeihnhghdmjiaaGreatDoor
