/-
  DERIVED. GIVEN WITH THE SEED: THE CARDS: each row of YtmeihnhghdmjiaaDoorRows.lean that lists a variable, with what it lists TIED to the program's text (the seventh form; the later family's looks); each row that meets fmt, with fmt's text TOLD by the authors' own Lean function (tested against real Go, not proved from fmt's source: count such statements apart). THE CARD IS WHAT COUNTS. Prove the row's statement (the work); the ties are given (YtmeihnhghdmjiaaDoorTie.lean); close each card by the builder's one call (the guide's Derived/Test/ToyasCard.lean, 'card_holds'). Laid BY PROGRAM, IN A SANDBOX (cutbox-door.mjs). By AI agents, Wed Nov 11 2026. No macro, syntax, notation, axiom, sorry.
-/
import Derived.Test.YtmeihnhghdmjiaaDoorRows
import GoSem.ClaimSeven
namespace Go.Proofs.YtmeihnhghdmjiaaDoor
namespace Rows

/-- THE TIED CARD OF 'fascialaw08.ContextPlain'. -/
def contextPlainCard : Claim7 := { stood := { row := contextPlainRow, standIns := [], harness := (true, "557149538dbcd7314170ba4795fc53a2613e285518a0dbac65e85b853dd9bb05"), looks := true }, kinds := [], alts := [], laidByText := true, laidKinds := [.data, .data, .data, .data, .sentinel, .sentinel, .pinned], laidTests := true, laidLooks := .later }
def ContextPlainCardSaid : Prop := Claim7.holds Tryd.pinned (.plain (OpenSpec.ofChange contextPlainSpec)) contextPlainCard

/-- THE TIED CARD OF 'fascialaw08.ContextBeside'. -/
def contextBesideCard : Claim7 := { stood := { row := contextBesideRow, standIns := [], harness := (true, "557149538dbcd7314170ba4795fc53a2613e285518a0dbac65e85b853dd9bb05"), looks := true }, kinds := [], alts := [], laidByText := true, laidKinds := [.data, .data, .data, .data, .sentinel, .sentinel, .pinned], laidTests := true, laidLooks := .later }
def ContextBesideCardSaid : Prop := Claim7.holds Tryd.pinned (.plain (OpenSpec.ofChange contextBesideSpec)) contextBesideCard

/-- THE TIED CARD OF 'fascialaw08.ContextJoins'. -/
def contextJoinsCard : Claim7 := { stood := { row := contextJoinsRow, standIns := [], harness := (true, "557149538dbcd7314170ba4795fc53a2613e285518a0dbac65e85b853dd9bb05"), looks := true }, kinds := [], alts := [], laidByText := true, laidKinds := [.data, .data, .data, .data, .sentinel, .sentinel, .pinned], laidTests := true, laidLooks := .later }
def ContextJoinsCardSaid : Prop := Claim7.holds Tryd.pinned (.plain (OpenSpec.ofChange contextJoinsSpec)) contextJoinsCard

/-- THE TIED CARD OF 'fascialaw08.ContextDigits'. -/
def contextDigitsCard : Claim7 := { stood := { row := contextDigitsRow, standIns := [], harness := (true, "557149538dbcd7314170ba4795fc53a2613e285518a0dbac65e85b853dd9bb05"), looks := true }, kinds := [], alts := [], laidByText := true, laidKinds := [.data, .data, .data, .data, .sentinel, .sentinel, .pinned], laidTests := true, laidLooks := .later }
def ContextDigitsCardSaid : Prop := Claim7.holds Tryd.pinned (.plain (OpenSpec.ofChange contextDigitsSpec)) contextDigitsCard

/-- THE SECOND FORM's CARD OF 'fascialaw08.ContextPlain'. -/
def contextPlainUptoCard : Claim7 := { stood := { row := contextPlainUptoRow, standIns := [], harness := (true, "557149538dbcd7314170ba4795fc53a2613e285518a0dbac65e85b853dd9bb05"), looks := true }, kinds := [], alts := [], laidByText := true, laidKinds := [.data, .data, .data, .data, .sentinel, .sentinel, .pinned], laidTests := true, laidLooks := .later }
def ContextPlainUptoCardSaid : Prop := Claim7.holds Tryd.pinned (.plain (OpenSpec.upto contextPlainSpec)) contextPlainUptoCard

/-- THE SECOND FORM's CARD OF 'fascialaw08.ContextBeside'. -/
def contextBesideUptoCard : Claim7 := { stood := { row := contextBesideUptoRow, standIns := [], harness := (true, "557149538dbcd7314170ba4795fc53a2613e285518a0dbac65e85b853dd9bb05"), looks := true }, kinds := [], alts := [], laidByText := true, laidKinds := [.data, .data, .data, .data, .sentinel, .sentinel, .pinned], laidTests := true, laidLooks := .later }
def ContextBesideUptoCardSaid : Prop := Claim7.holds Tryd.pinned (.plain (OpenSpec.upto contextBesideSpec)) contextBesideUptoCard

/-- THE SECOND FORM's CARD OF 'fascialaw08.ContextJoins'. -/
def contextJoinsUptoCard : Claim7 := { stood := { row := contextJoinsUptoRow, standIns := [], harness := (true, "557149538dbcd7314170ba4795fc53a2613e285518a0dbac65e85b853dd9bb05"), looks := true }, kinds := [], alts := [], laidByText := true, laidKinds := [.data, .data, .data, .data, .sentinel, .sentinel, .pinned], laidTests := true, laidLooks := .later }
def ContextJoinsUptoCardSaid : Prop := Claim7.holds Tryd.pinned (.plain (OpenSpec.upto contextJoinsSpec)) contextJoinsUptoCard

/-- THE SECOND FORM's CARD OF 'fascialaw08.ContextDigits'. -/
def contextDigitsUptoCard : Claim7 := { stood := { row := contextDigitsUptoRow, standIns := [], harness := (true, "557149538dbcd7314170ba4795fc53a2613e285518a0dbac65e85b853dd9bb05"), looks := true }, kinds := [], alts := [], laidByText := true, laidKinds := [.data, .data, .data, .data, .sentinel, .sentinel, .pinned], laidTests := true, laidLooks := .later }
def ContextDigitsUptoCardSaid : Prop := Claim7.holds Tryd.pinned (.plain (OpenSpec.upto contextDigitsSpec)) contextDigitsUptoCard
end Rows
end Go.Proofs.YtmeihnhghdmjiaaDoor
