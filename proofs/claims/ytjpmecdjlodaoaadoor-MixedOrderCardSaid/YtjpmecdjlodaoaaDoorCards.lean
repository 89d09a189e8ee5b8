/-
  DERIVED. GIVEN WITH THE SEED: THE CARDS: each row of YtjpmecdjlodaoaaDoorRows.lean that lists a variable, with what it lists TIED to the program's text (the seventh form; the later family's looks); each row that meets fmt, with fmt's text TOLD by the authors' own Lean function (tested against real Go, not proved from fmt's source: count such statements apart). THE CARD IS WHAT COUNTS. Prove the row's statement (the work); the ties are given (YtjpmecdjlodaoaaDoorTie.lean); close each card by the builder's one call (the guide's Derived/Test/ToyasCard.lean, 'card_holds'). Laid BY PROGRAM, IN A SANDBOX (cutbox-door.mjs). By AI agents, Wed Nov 11 2026. No macro, syntax, notation, axiom, sorry.
-/
import Derived.Test.YtjpmecdjlodaoaaDoorRows
import GoSem.ClaimSeven
namespace Go.Proofs.YtjpmecdjlodaoaaDoor
namespace Rows

/-- THE TIED CARD OF 'fascialaw10.MixedTells'. -/
def mixedTellsCard : Claim7 := { stood := { row := mixedTellsRow, standIns := [], harness := (true, "894162bb662dbb9bbc7214303acd8c2af297c2ae42e7ec5e5cea64e1b3bfb4cd"), looks := true }, kinds := [], alts := [], laidByText := true, laidKinds := [.data, .data, .data, .data, .sentinel, .sentinel, .pinned], laidTests := true, laidLooks := .later }
def MixedTellsCardSaid : Prop := Claim7.holds Tryd.pinned (.plain (OpenSpec.ofChange mixedTellsSpec)) mixedTellsCard

/-- THE TIED CARD OF 'fascialaw10.MixedOrder'. -/
def mixedOrderCard : Claim7 := { stood := { row := mixedOrderRow, standIns := [], harness := (true, "894162bb662dbb9bbc7214303acd8c2af297c2ae42e7ec5e5cea64e1b3bfb4cd"), looks := true }, kinds := [], alts := [], laidByText := true, laidKinds := [.data, .data, .data, .data, .sentinel, .sentinel, .pinned], laidTests := true, laidLooks := .later }
def MixedOrderCardSaid : Prop := Claim7.holds Tryd.pinned (.plain (OpenSpec.ofChange mixedOrderSpec)) mixedOrderCard

/-- THE TIED CARD OF 'fascialaw10.MixedPairs'. -/
def mixedPairsCard : Claim7 := { stood := { row := mixedPairsRow, standIns := [], harness := (true, "894162bb662dbb9bbc7214303acd8c2af297c2ae42e7ec5e5cea64e1b3bfb4cd"), looks := true }, kinds := [], alts := [], laidByText := true, laidKinds := [.data, .data, .data, .data, .sentinel, .sentinel, .pinned], laidTests := true, laidLooks := .later }
def MixedPairsCardSaid : Prop := Claim7.holds Tryd.pinned (.plain (OpenSpec.ofChange mixedPairsSpec)) mixedPairsCard

/-- THE TIED CARD OF 'fascialaw10.MixedDigits'. -/
def mixedDigitsCard : Claim7 := { stood := { row := mixedDigitsRow, standIns := [], harness := (true, "894162bb662dbb9bbc7214303acd8c2af297c2ae42e7ec5e5cea64e1b3bfb4cd"), looks := true }, kinds := [], alts := [], laidByText := true, laidKinds := [.data, .data, .data, .data, .sentinel, .sentinel, .pinned], laidTests := true, laidLooks := .later }
def MixedDigitsCardSaid : Prop := Claim7.holds Tryd.pinned (.plain (OpenSpec.ofChange mixedDigitsSpec)) mixedDigitsCard

/-- THE SECOND FORM's CARD OF 'fascialaw10.MixedTells'. -/
def mixedTellsUptoCard : Claim7 := { stood := { row := mixedTellsUptoRow, standIns := [], harness := (true, "894162bb662dbb9bbc7214303acd8c2af297c2ae42e7ec5e5cea64e1b3bfb4cd"), looks := true }, kinds := [], alts := [], laidByText := true, laidKinds := [.data, .data, .data, .data, .sentinel, .sentinel, .pinned], laidTests := true, laidLooks := .later }
def MixedTellsUptoCardSaid : Prop := Claim7.holds Tryd.pinned (.plain (OpenSpec.upto mixedTellsSpec)) mixedTellsUptoCard

/-- THE SECOND FORM's CARD OF 'fascialaw10.MixedOrder'. -/
def mixedOrderUptoCard : Claim7 := { stood := { row := mixedOrderUptoRow, standIns := [], harness := (true, "894162bb662dbb9bbc7214303acd8c2af297c2ae42e7ec5e5cea64e1b3bfb4cd"), looks := true }, kinds := [], alts := [], laidByText := true, laidKinds := [.data, .data, .data, .data, .sentinel, .sentinel, .pinned], laidTests := true, laidLooks := .later }
def MixedOrderUptoCardSaid : Prop := Claim7.holds Tryd.pinned (.plain (OpenSpec.upto mixedOrderSpec)) mixedOrderUptoCard

/-- THE SECOND FORM's CARD OF 'fascialaw10.MixedPairs'. -/
def mixedPairsUptoCard : Claim7 := { stood := { row := mixedPairsUptoRow, standIns := [], harness := (true, "894162bb662dbb9bbc7214303acd8c2af297c2ae42e7ec5e5cea64e1b3bfb4cd"), looks := true }, kinds := [], alts := [], laidByText := true, laidKinds := [.data, .data, .data, .data, .sentinel, .sentinel, .pinned], laidTests := true, laidLooks := .later }
def MixedPairsUptoCardSaid : Prop := Claim7.holds Tryd.pinned (.plain (OpenSpec.upto mixedPairsSpec)) mixedPairsUptoCard

/-- THE SECOND FORM's CARD OF 'fascialaw10.MixedDigits'. -/
def mixedDigitsUptoCard : Claim7 := { stood := { row := mixedDigitsUptoRow, standIns := [], harness := (true, "894162bb662dbb9bbc7214303acd8c2af297c2ae42e7ec5e5cea64e1b3bfb4cd"), looks := true }, kinds := [], alts := [], laidByText := true, laidKinds := [.data, .data, .data, .data, .sentinel, .sentinel, .pinned], laidTests := true, laidLooks := .later }
def MixedDigitsUptoCardSaid : Prop := Claim7.holds Tryd.pinned (.plain (OpenSpec.upto mixedDigitsSpec)) mixedDigitsUptoCard
end Rows
end Go.Proofs.YtjpmecdjlodaoaaDoor
