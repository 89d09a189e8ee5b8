/-
  DERIVED. GIVEN WITH THE SEED: THE CARDS: each row of YtediahdedmkehaaGreatDoorRows.lean that lists a variable, with what it lists TIED to the program's text (the seventh form; the later family's looks); each row that meets fmt, with fmt's text TOLD by the authors' own Lean function (tested against real Go, not proved from fmt's source: count such statements apart). THE CARD IS WHAT COUNTS. Prove the row's statement (the work); the ties are given (YtediahdedmkehaaGreatDoorTie.lean); close each card by the builder's one call (the guide's Derived/Test/ToyasCard.lean, 'card_holds'). Laid BY PROGRAM, IN A SANDBOX (cutbox-door.mjs). By AI agents, Wed Nov 11 2026. No macro, syntax, notation, axiom, sorry.
-/
import Derived.Test.YtediahdedmkehaaGreatDoorRows
import GoSem.ClaimSeven
namespace Go.Proofs.YtediahdedmkehaaGreatDoor
namespace Rows

/-- THE TIED CARD OF 'fascialaw14.HostTells'. -/
def hostTellsCard : Claim7 := { stood := { row := hostTellsRow, standIns := [], harness := (true, "caeae66d0ac8e7ecbe9b5413e61e95a2dacf9bc82edc42200cf758e6523b2a4a"), looks := true }, kinds := [], alts := [], laidByText := true, laidKinds := [.data, .data, .data, .data, .sentinel, .sentinel, .pinned], laidTests := true, laidLooks := .later }
def HostTellsCardSaid : Prop := Claim7.holds Tryz.pinned (.plain (OpenSpec.ofChange hostTellsSpec)) hostTellsCard

/-- THE TIED CARD OF 'fascialaw14.HostAgain'. -/
def hostAgainCard : Claim7 := { stood := { row := hostAgainRow, standIns := [], harness := (true, "caeae66d0ac8e7ecbe9b5413e61e95a2dacf9bc82edc42200cf758e6523b2a4a"), looks := true }, kinds := [], alts := [], laidByText := true, laidKinds := [.data, .data, .data, .data, .sentinel, .sentinel, .pinned, .pinned], laidTests := true, laidLooks := .later }
def HostAgainCardSaid : Prop := Claim7.holds Tryz.pinned (.plain (OpenSpec.ofChange hostAgainSpec)) hostAgainCard

/-- THE TIED CARD OF 'fascialaw14.HostPercent'. -/
def hostPercentCard : Claim7 := { stood := { row := hostPercentRow, standIns := [], harness := (true, "caeae66d0ac8e7ecbe9b5413e61e95a2dacf9bc82edc42200cf758e6523b2a4a"), looks := true }, kinds := [], alts := [], laidByText := true, laidKinds := [.data, .data, .data, .data, .sentinel, .sentinel, .pinned], laidTests := true, laidLooks := .later }
def HostPercentCardSaid : Prop := Claim7.holds Tryz.pinned (.plain (OpenSpec.ofChange hostPercentSpec)) hostPercentCard

/-- THE TIED CARD OF 'fascialaw14.HostAddresses'. -/
def hostAddressesCard : Claim7 := { stood := { row := hostAddressesRow, standIns := [], harness := (true, "caeae66d0ac8e7ecbe9b5413e61e95a2dacf9bc82edc42200cf758e6523b2a4a"), looks := true }, kinds := [], alts := [], laidByText := true, laidKinds := [.data, .data, .data, .data, .sentinel, .sentinel, .pinned], laidTests := true, laidLooks := .later }
def HostAddressesCardSaid : Prop := Claim7.holds Tryz.pinned (.plain (OpenSpec.ofChange hostAddressesSpec)) hostAddressesCard

/-- THE TIED CARD OF 'fascialaw14.HostForbidden'. -/
def hostForbiddenCard : Claim7 := { stood := { row := hostForbiddenRow, standIns := [], harness := (true, "caeae66d0ac8e7ecbe9b5413e61e95a2dacf9bc82edc42200cf758e6523b2a4a"), looks := true }, kinds := [], alts := [], laidByText := true, laidKinds := [.data, .data, .data, .data, .sentinel, .sentinel, .pinned], laidTests := true, laidLooks := .later }
def HostForbiddenCardSaid : Prop := Claim7.holds Tryz.pinned (.plain (OpenSpec.ofChange hostForbiddenSpec)) hostForbiddenCard

/-- THE SECOND FORM's CARD OF 'fascialaw14.HostTells'. -/
def hostTellsUptoCard : Claim7 := { stood := { row := hostTellsUptoRow, standIns := [], harness := (true, "caeae66d0ac8e7ecbe9b5413e61e95a2dacf9bc82edc42200cf758e6523b2a4a"), looks := true }, kinds := [], alts := [], laidByText := true, laidKinds := [.data, .data, .data, .data, .sentinel, .sentinel, .pinned], laidTests := true, laidLooks := .later }
def HostTellsUptoCardSaid : Prop := Claim7.holds Tryz.pinned (.plain (OpenSpec.upto hostTellsSpec)) hostTellsUptoCard

/-- THE SECOND FORM's CARD OF 'fascialaw14.HostAgain'. -/
def hostAgainUptoCard : Claim7 := { stood := { row := hostAgainUptoRow, standIns := [], harness := (true, "caeae66d0ac8e7ecbe9b5413e61e95a2dacf9bc82edc42200cf758e6523b2a4a"), looks := true }, kinds := [], alts := [], laidByText := true, laidKinds := [.data, .data, .data, .data, .sentinel, .sentinel, .pinned, .pinned], laidTests := true, laidLooks := .later }
def HostAgainUptoCardSaid : Prop := Claim7.holds Tryz.pinned (.plain (OpenSpec.upto hostAgainSpec)) hostAgainUptoCard

/-- THE SECOND FORM's CARD OF 'fascialaw14.HostPercent'. -/
def hostPercentUptoCard : Claim7 := { stood := { row := hostPercentUptoRow, standIns := [], harness := (true, "caeae66d0ac8e7ecbe9b5413e61e95a2dacf9bc82edc42200cf758e6523b2a4a"), looks := true }, kinds := [], alts := [], laidByText := true, laidKinds := [.data, .data, .data, .data, .sentinel, .sentinel, .pinned], laidTests := true, laidLooks := .later }
def HostPercentUptoCardSaid : Prop := Claim7.holds Tryz.pinned (.plain (OpenSpec.upto hostPercentSpec)) hostPercentUptoCard

/-- THE SECOND FORM's CARD OF 'fascialaw14.HostAddresses'. -/
def hostAddressesUptoCard : Claim7 := { stood := { row := hostAddressesUptoRow, standIns := [], harness := (true, "caeae66d0ac8e7ecbe9b5413e61e95a2dacf9bc82edc42200cf758e6523b2a4a"), looks := true }, kinds := [], alts := [], laidByText := true, laidKinds := [.data, .data, .data, .data, .sentinel, .sentinel, .pinned], laidTests := true, laidLooks := .later }
def HostAddressesUptoCardSaid : Prop := Claim7.holds Tryz.pinned (.plain (OpenSpec.upto hostAddressesSpec)) hostAddressesUptoCard

/-- THE SECOND FORM's CARD OF 'fascialaw14.HostForbidden'. -/
def hostForbiddenUptoCard : Claim7 := { stood := { row := hostForbiddenUptoRow, standIns := [], harness := (true, "caeae66d0ac8e7ecbe9b5413e61e95a2dacf9bc82edc42200cf758e6523b2a4a"), looks := true }, kinds := [], alts := [], laidByText := true, laidKinds := [.data, .data, .data, .data, .sentinel, .sentinel, .pinned], laidTests := true, laidLooks := .later }
def HostForbiddenUptoCardSaid : Prop := Claim7.holds Tryz.pinned (.plain (OpenSpec.upto hostForbiddenSpec)) hostForbiddenUptoCard
end Rows
end Go.Proofs.YtediahdedmkehaaGreatDoor
