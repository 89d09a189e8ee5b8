/-
  DERIVED. GIVEN WITH THE SEED: THE CARDS: each row of YtkibdkfdffkkfaaGreatDoorRows.lean that lists a variable, with what it lists TIED to the program's text (the seventh form; the later family's looks); each row that meets fmt, with fmt's text TOLD by the authors' own Lean function (tested against real Go, not proved from fmt's source: count such statements apart). THE CARD IS WHAT COUNTS. Prove the row's statement (the work); the ties are given (YtkibdkfdffkkfaaGreatDoorTie.lean); close each card by the builder's one call (the guide's Derived/Test/ToyasCard.lean, 'card_holds'). Laid BY PROGRAM, IN A SANDBOX (cutbox-door.mjs). By AI agents, Wed Nov 11 2026. No macro, syntax, notation, axiom, sorry.
-/
import Derived.Test.YtkibdkfdffkkfaaGreatDoorRows
import GoSem.ClaimSeven
namespace Go.Proofs.YtkibdkfdffkkfaaGreatDoor
namespace Rows

/-- THE TIED CARD OF 'fascialaw14.HostAgain'. -/
def hostAgainCard : Claim7 := { stood := { row := hostAgainRow, standIns := [], harness := (true, "137039b85e0da20ee66a3b523a77f33db3625a659d975c50b28fb1670cb6d55a"), looks := true }, kinds := [], alts := [], laidByText := true, laidKinds := [.data, .data, .data, .data, .sentinel, .sentinel, .pinned, .pinned], laidTests := true, laidLooks := .later }
def HostAgainCardSaid : Prop := Claim7.holds Tryz.pinned (.plain (OpenSpec.ofChange hostAgainSpec)) hostAgainCard

/-- THE TIED CARD OF 'fascialaw14.HostPercent'. -/
def hostPercentCard : Claim7 := { stood := { row := hostPercentRow, standIns := [], harness := (true, "137039b85e0da20ee66a3b523a77f33db3625a659d975c50b28fb1670cb6d55a"), looks := true }, kinds := [], alts := [], laidByText := true, laidKinds := [.data, .data, .data, .data, .sentinel, .sentinel, .pinned], laidTests := true, laidLooks := .later }
def HostPercentCardSaid : Prop := Claim7.holds Tryz.pinned (.plain (OpenSpec.ofChange hostPercentSpec)) hostPercentCard

/-- THE TIED CARD OF 'fascialaw17.ParseParts'. -/
def parsePartsCard : Claim7 := { stood := { row := parsePartsRow, standIns := [], harness := (true, "137039b85e0da20ee66a3b523a77f33db3625a659d975c50b28fb1670cb6d55a"), looks := true }, kinds := [], alts := [], laidByText := true, laidKinds := [.data, .data, .data, .data, .sentinel, .sentinel, .pinned, .pinned], laidTests := true, laidLooks := .later }
def ParsePartsCardSaid : Prop := Claim7.holds Tryz.pinned (.plain (OpenSpec.ofChange parsePartsSpec)) parsePartsCard

/-- THE TIED CARD OF 'fascialaw17.ParseClean'. -/
def parseCleanCard : Claim7 := { stood := { row := parseCleanRow, standIns := [], harness := (true, "137039b85e0da20ee66a3b523a77f33db3625a659d975c50b28fb1670cb6d55a"), looks := true }, kinds := [], alts := [], laidByText := true, laidKinds := [.data, .data, .data, .data, .sentinel, .sentinel, .pinned, .pinned], laidTests := true, laidLooks := .later }
def ParseCleanCardSaid : Prop := Claim7.holds Tryz.pinned (.plain (OpenSpec.ofChange parseCleanSpec)) parseCleanCard

/-- THE TIED CARD OF 'fascialaw17.ParseAscii'. -/
def parseAsciiCard : Claim7 := { stood := { row := parseAsciiRow, standIns := [], harness := (true, "137039b85e0da20ee66a3b523a77f33db3625a659d975c50b28fb1670cb6d55a"), looks := true }, kinds := [], alts := [], laidByText := true, laidKinds := [.data, .data, .data, .data, .sentinel, .sentinel, .pinned, .pinned], laidTests := true, laidLooks := .later }
def ParseAsciiCardSaid : Prop := Claim7.holds Tryz.pinned (.plain (OpenSpec.ofChange parseAsciiSpec)) parseAsciiCard

/-- THE TIED CARD OF 'fascialaw17.ParseBeside'. -/
def parseBesideCard : Claim7 := { stood := { row := parseBesideRow, standIns := [], harness := (true, "137039b85e0da20ee66a3b523a77f33db3625a659d975c50b28fb1670cb6d55a"), looks := true }, kinds := [], alts := [], laidByText := true, laidKinds := [.data, .data, .data, .data, .sentinel, .sentinel, .pinned, .pinned], laidTests := true, laidLooks := .later }
def ParseBesideCardSaid : Prop := Claim7.holds Tryz.pinned (.plain (OpenSpec.ofChange parseBesideSpec)) parseBesideCard

/-- THE TIED CARD OF 'fascialaw17.ParseWalks'. -/
def parseWalksCard : Claim7 := { stood := { row := parseWalksRow, standIns := [], harness := (true, "137039b85e0da20ee66a3b523a77f33db3625a659d975c50b28fb1670cb6d55a"), looks := true }, kinds := [], alts := [], laidByText := true, laidKinds := [.data, .data, .data, .data, .sentinel, .sentinel, .pinned, .pinned], laidTests := true, laidLooks := .later }
def ParseWalksCardSaid : Prop := Claim7.holds Tryz.pinned (.plain (OpenSpec.ofChange parseWalksSpec)) parseWalksCard

/-- THE TIED CARD OF 'fascialaw17.ParsePorts'. -/
def parsePortsCard : Claim7 := { stood := { row := parsePortsRow, standIns := [], harness := (true, "137039b85e0da20ee66a3b523a77f33db3625a659d975c50b28fb1670cb6d55a"), looks := true }, kinds := [], alts := [], laidByText := true, laidKinds := [.data, .data, .data, .data, .sentinel, .sentinel, .pinned, .pinned], laidTests := true, laidLooks := .later }
def ParsePortsCardSaid : Prop := Claim7.holds Tryz.pinned (.plain (OpenSpec.ofChange parsePortsSpec)) parsePortsCard

/-- THE SECOND FORM's CARD OF 'fascialaw14.HostAgain'. -/
def hostAgainUptoCard : Claim7 := { stood := { row := hostAgainUptoRow, standIns := [], harness := (true, "137039b85e0da20ee66a3b523a77f33db3625a659d975c50b28fb1670cb6d55a"), looks := true }, kinds := [], alts := [], laidByText := true, laidKinds := [.data, .data, .data, .data, .sentinel, .sentinel, .pinned, .pinned], laidTests := true, laidLooks := .later }
def HostAgainUptoCardSaid : Prop := Claim7.holds Tryz.pinned (.plain (OpenSpec.upto hostAgainSpec)) hostAgainUptoCard

/-- THE SECOND FORM's CARD OF 'fascialaw14.HostPercent'. -/
def hostPercentUptoCard : Claim7 := { stood := { row := hostPercentUptoRow, standIns := [], harness := (true, "137039b85e0da20ee66a3b523a77f33db3625a659d975c50b28fb1670cb6d55a"), looks := true }, kinds := [], alts := [], laidByText := true, laidKinds := [.data, .data, .data, .data, .sentinel, .sentinel, .pinned], laidTests := true, laidLooks := .later }
def HostPercentUptoCardSaid : Prop := Claim7.holds Tryz.pinned (.plain (OpenSpec.upto hostPercentSpec)) hostPercentUptoCard

/-- THE SECOND FORM's CARD OF 'fascialaw17.ParseParts'. -/
def parsePartsUptoCard : Claim7 := { stood := { row := parsePartsUptoRow, standIns := [], harness := (true, "137039b85e0da20ee66a3b523a77f33db3625a659d975c50b28fb1670cb6d55a"), looks := true }, kinds := [], alts := [], laidByText := true, laidKinds := [.data, .data, .data, .data, .sentinel, .sentinel, .pinned, .pinned], laidTests := true, laidLooks := .later }
def ParsePartsUptoCardSaid : Prop := Claim7.holds Tryz.pinned (.plain (OpenSpec.upto parsePartsSpec)) parsePartsUptoCard

/-- THE SECOND FORM's CARD OF 'fascialaw17.ParseClean'. -/
def parseCleanUptoCard : Claim7 := { stood := { row := parseCleanUptoRow, standIns := [], harness := (true, "137039b85e0da20ee66a3b523a77f33db3625a659d975c50b28fb1670cb6d55a"), looks := true }, kinds := [], alts := [], laidByText := true, laidKinds := [.data, .data, .data, .data, .sentinel, .sentinel, .pinned, .pinned], laidTests := true, laidLooks := .later }
def ParseCleanUptoCardSaid : Prop := Claim7.holds Tryz.pinned (.plain (OpenSpec.upto parseCleanSpec)) parseCleanUptoCard

/-- THE SECOND FORM's CARD OF 'fascialaw17.ParseAscii'. -/
def parseAsciiUptoCard : Claim7 := { stood := { row := parseAsciiUptoRow, standIns := [], harness := (true, "137039b85e0da20ee66a3b523a77f33db3625a659d975c50b28fb1670cb6d55a"), looks := true }, kinds := [], alts := [], laidByText := true, laidKinds := [.data, .data, .data, .data, .sentinel, .sentinel, .pinned, .pinned], laidTests := true, laidLooks := .later }
def ParseAsciiUptoCardSaid : Prop := Claim7.holds Tryz.pinned (.plain (OpenSpec.upto parseAsciiSpec)) parseAsciiUptoCard

/-- THE SECOND FORM's CARD OF 'fascialaw17.ParseBeside'. -/
def parseBesideUptoCard : Claim7 := { stood := { row := parseBesideUptoRow, standIns := [], harness := (true, "137039b85e0da20ee66a3b523a77f33db3625a659d975c50b28fb1670cb6d55a"), looks := true }, kinds := [], alts := [], laidByText := true, laidKinds := [.data, .data, .data, .data, .sentinel, .sentinel, .pinned, .pinned], laidTests := true, laidLooks := .later }
def ParseBesideUptoCardSaid : Prop := Claim7.holds Tryz.pinned (.plain (OpenSpec.upto parseBesideSpec)) parseBesideUptoCard

/-- THE SECOND FORM's CARD OF 'fascialaw17.ParseWalks'. -/
def parseWalksUptoCard : Claim7 := { stood := { row := parseWalksUptoRow, standIns := [], harness := (true, "137039b85e0da20ee66a3b523a77f33db3625a659d975c50b28fb1670cb6d55a"), looks := true }, kinds := [], alts := [], laidByText := true, laidKinds := [.data, .data, .data, .data, .sentinel, .sentinel, .pinned, .pinned], laidTests := true, laidLooks := .later }
def ParseWalksUptoCardSaid : Prop := Claim7.holds Tryz.pinned (.plain (OpenSpec.upto parseWalksSpec)) parseWalksUptoCard

/-- THE SECOND FORM's CARD OF 'fascialaw17.ParsePorts'. -/
def parsePortsUptoCard : Claim7 := { stood := { row := parsePortsUptoRow, standIns := [], harness := (true, "137039b85e0da20ee66a3b523a77f33db3625a659d975c50b28fb1670cb6d55a"), looks := true }, kinds := [], alts := [], laidByText := true, laidKinds := [.data, .data, .data, .data, .sentinel, .sentinel, .pinned, .pinned], laidTests := true, laidLooks := .later }
def ParsePortsUptoCardSaid : Prop := Claim7.holds Tryz.pinned (.plain (OpenSpec.upto parsePortsSpec)) parsePortsUptoCard
end Rows
end Go.Proofs.YtkibdkfdffkkfaaGreatDoor
