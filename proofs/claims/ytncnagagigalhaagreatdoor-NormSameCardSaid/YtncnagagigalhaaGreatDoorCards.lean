/-
  DERIVED. GIVEN WITH THE SEED: THE CARDS: each row of YtncnagagigalhaaGreatDoorRows.lean that lists a variable, with what it lists TIED to the program's text (the seventh form; the later family's looks); each row that meets fmt, with fmt's text TOLD by the authors' own Lean function (tested against real Go, not proved from fmt's source: count such statements apart). THE CARD IS WHAT COUNTS. Prove the row's statement (the work); the ties are given (YtncnagagigalhaaGreatDoorTie.lean); close each card by the builder's one call (the guide's Derived/Test/ToyasCard.lean, 'card_holds'). Laid BY PROGRAM, IN A SANDBOX (cutbox-door.mjs). By AI agents, Wed Nov 11 2026. No macro, syntax, notation, axiom, sorry.
-/
import Derived.Test.YtncnagagigalhaaGreatDoorRows
import GoSem.ClaimSeven
namespace Go.Proofs.YtncnagagigalhaaGreatDoor
namespace Rows

/-- THE TIED CARD OF 'fascialaw05.NormTells'. -/
def normTellsCard : Claim7 := { stood := { row := normTellsRow, standIns := [], harness := (true, "42a97f228551bc89a256fe65bf60eb17b654701c6bd6ee727805ac1dfa6e97bd"), looks := true }, kinds := [], alts := [], laidByText := true, laidKinds := [.data, .data, .data, .data, .sentinel, .sentinel, .pinned], laidTests := true, laidLooks := .later }
def NormTellsCardSaid : Prop := Claim7.holds Tryz.pinned (.plain (OpenSpec.ofChange normTellsSpec)) normTellsCard

/-- THE TIED CARD OF 'fascialaw05.NormSame'. -/
def normSameCard : Claim7 := { stood := { row := normSameRow, standIns := [], harness := (true, "42a97f228551bc89a256fe65bf60eb17b654701c6bd6ee727805ac1dfa6e97bd"), looks := true }, kinds := [], alts := [], laidByText := true, laidKinds := [.data, .data, .data, .data, .sentinel, .sentinel, .pinned], laidTests := true, laidLooks := .later }
def NormSameCardSaid : Prop := Claim7.holds Tryz.pinned (.plain (OpenSpec.ofChange normSameSpec)) normSameCard

/-- THE TIED CARD OF 'fascialaw05.NormOrder'. -/
def normOrderCard : Claim7 := { stood := { row := normOrderRow, standIns := [], harness := (true, "42a97f228551bc89a256fe65bf60eb17b654701c6bd6ee727805ac1dfa6e97bd"), looks := true }, kinds := [], alts := [], laidByText := true, laidKinds := [.data, .data, .data, .data, .sentinel, .sentinel, .pinned], laidTests := true, laidLooks := .later }
def NormOrderCardSaid : Prop := Claim7.holds Tryz.pinned (.plain (OpenSpec.ofChange normOrderSpec)) normOrderCard

/-- THE TIED CARD OF 'fascialaw05.NormSyllables'. -/
def normSyllablesCard : Claim7 := { stood := { row := normSyllablesRow, standIns := [], harness := (true, "42a97f228551bc89a256fe65bf60eb17b654701c6bd6ee727805ac1dfa6e97bd"), looks := true }, kinds := [], alts := [], laidByText := true, laidKinds := [.data, .data, .data, .data, .sentinel, .sentinel, .pinned], laidTests := true, laidLooks := .later }
def NormSyllablesCardSaid : Prop := Claim7.holds Tryz.pinned (.plain (OpenSpec.ofChange normSyllablesSpec)) normSyllablesCard

/-- THE TIED CARD OF 'fascialaw05.NormPairs'. -/
def normPairsCard : Claim7 := { stood := { row := normPairsRow, standIns := [], harness := (true, "42a97f228551bc89a256fe65bf60eb17b654701c6bd6ee727805ac1dfa6e97bd"), looks := true }, kinds := [], alts := [], laidByText := true, laidKinds := [.data, .data, .data, .data, .sentinel, .sentinel, .pinned], laidTests := true, laidLooks := .later }
def NormPairsCardSaid : Prop := Claim7.holds Tryz.pinned (.plain (OpenSpec.ofChange normPairsSpec)) normPairsCard

/-- THE TIED CARD OF 'fascialaw05.NormParts'. -/
def normPartsCard : Claim7 := { stood := { row := normPartsRow, standIns := [], harness := (true, "42a97f228551bc89a256fe65bf60eb17b654701c6bd6ee727805ac1dfa6e97bd"), looks := true }, kinds := [], alts := [], laidByText := true, laidKinds := [.data, .data, .data, .data, .sentinel, .sentinel, .pinned], laidTests := true, laidLooks := .later }
def NormPartsCardSaid : Prop := Claim7.holds Tryz.pinned (.plain (OpenSpec.ofChange normPartsSpec)) normPartsCard

/-- THE SECOND FORM's CARD OF 'fascialaw05.NormTells'. -/
def normTellsUptoCard : Claim7 := { stood := { row := normTellsUptoRow, standIns := [], harness := (true, "42a97f228551bc89a256fe65bf60eb17b654701c6bd6ee727805ac1dfa6e97bd"), looks := true }, kinds := [], alts := [], laidByText := true, laidKinds := [.data, .data, .data, .data, .sentinel, .sentinel, .pinned], laidTests := true, laidLooks := .later }
def NormTellsUptoCardSaid : Prop := Claim7.holds Tryz.pinned (.plain (OpenSpec.upto normTellsSpec)) normTellsUptoCard

/-- THE SECOND FORM's CARD OF 'fascialaw05.NormSame'. -/
def normSameUptoCard : Claim7 := { stood := { row := normSameUptoRow, standIns := [], harness := (true, "42a97f228551bc89a256fe65bf60eb17b654701c6bd6ee727805ac1dfa6e97bd"), looks := true }, kinds := [], alts := [], laidByText := true, laidKinds := [.data, .data, .data, .data, .sentinel, .sentinel, .pinned], laidTests := true, laidLooks := .later }
def NormSameUptoCardSaid : Prop := Claim7.holds Tryz.pinned (.plain (OpenSpec.upto normSameSpec)) normSameUptoCard

/-- THE SECOND FORM's CARD OF 'fascialaw05.NormOrder'. -/
def normOrderUptoCard : Claim7 := { stood := { row := normOrderUptoRow, standIns := [], harness := (true, "42a97f228551bc89a256fe65bf60eb17b654701c6bd6ee727805ac1dfa6e97bd"), looks := true }, kinds := [], alts := [], laidByText := true, laidKinds := [.data, .data, .data, .data, .sentinel, .sentinel, .pinned], laidTests := true, laidLooks := .later }
def NormOrderUptoCardSaid : Prop := Claim7.holds Tryz.pinned (.plain (OpenSpec.upto normOrderSpec)) normOrderUptoCard

/-- THE SECOND FORM's CARD OF 'fascialaw05.NormSyllables'. -/
def normSyllablesUptoCard : Claim7 := { stood := { row := normSyllablesUptoRow, standIns := [], harness := (true, "42a97f228551bc89a256fe65bf60eb17b654701c6bd6ee727805ac1dfa6e97bd"), looks := true }, kinds := [], alts := [], laidByText := true, laidKinds := [.data, .data, .data, .data, .sentinel, .sentinel, .pinned], laidTests := true, laidLooks := .later }
def NormSyllablesUptoCardSaid : Prop := Claim7.holds Tryz.pinned (.plain (OpenSpec.upto normSyllablesSpec)) normSyllablesUptoCard

/-- THE SECOND FORM's CARD OF 'fascialaw05.NormPairs'. -/
def normPairsUptoCard : Claim7 := { stood := { row := normPairsUptoRow, standIns := [], harness := (true, "42a97f228551bc89a256fe65bf60eb17b654701c6bd6ee727805ac1dfa6e97bd"), looks := true }, kinds := [], alts := [], laidByText := true, laidKinds := [.data, .data, .data, .data, .sentinel, .sentinel, .pinned], laidTests := true, laidLooks := .later }
def NormPairsUptoCardSaid : Prop := Claim7.holds Tryz.pinned (.plain (OpenSpec.upto normPairsSpec)) normPairsUptoCard

/-- THE SECOND FORM's CARD OF 'fascialaw05.NormParts'. -/
def normPartsUptoCard : Claim7 := { stood := { row := normPartsUptoRow, standIns := [], harness := (true, "42a97f228551bc89a256fe65bf60eb17b654701c6bd6ee727805ac1dfa6e97bd"), looks := true }, kinds := [], alts := [], laidByText := true, laidKinds := [.data, .data, .data, .data, .sentinel, .sentinel, .pinned], laidTests := true, laidLooks := .later }
def NormPartsUptoCardSaid : Prop := Claim7.holds Tryz.pinned (.plain (OpenSpec.upto normPartsSpec)) normPartsUptoCard
end Rows
end Go.Proofs.YtncnagagigalhaaGreatDoor
