/-
  DERIVED. GIVEN WITH THE SEED: THE CARDS: each row of YtenfdnnagijfnaaGreatDoorRows.lean that lists a variable, with what it lists TIED to the program's text (the seventh form; the later family's looks); each row that meets fmt, with fmt's text TOLD by the authors' own Lean function (tested against real Go, not proved from fmt's source: count such statements apart). THE CARD IS WHAT COUNTS. Prove the row's statement (the work); the ties are given (YtenfdnnagijfnaaGreatDoorTie.lean); close each card by the builder's one call (the guide's Derived/Test/ToyasCard.lean, 'card_holds'). Laid BY PROGRAM, IN A SANDBOX (cutbox-door.mjs). By AI agents, Wed Nov 11 2026. No macro, syntax, notation, axiom, sorry.
-/
import Derived.Test.YtenfdnnagijfnaaGreatDoorRows
import GoSem.ClaimSeven
namespace Go.Proofs.YtenfdnnagijfnaaGreatDoor
namespace Rows

/-- THE TIED CARD OF 'fascialaw05.NormTells'. -/
def normTellsCard : Claim7 := { stood := { row := normTellsRow, standIns := [], harness := (true, "c2015b8c54e8a22a452c7ce42c33d13d8ec73b4500df7b5b90db19fb4ce13a18"), looks := true }, kinds := [], alts := [], laidByText := true, laidKinds := [.data, .data, .data, .data, .sentinel, .sentinel, .pinned], laidTests := true, laidLooks := .later }
def NormTellsCardSaid : Prop := Claim7.holds Tryz.pinned (.plain (OpenSpec.ofChange normTellsSpec)) normTellsCard

/-- THE TIED CARD OF 'fascialaw05.NormSame'. -/
def normSameCard : Claim7 := { stood := { row := normSameRow, standIns := [], harness := (true, "c2015b8c54e8a22a452c7ce42c33d13d8ec73b4500df7b5b90db19fb4ce13a18"), looks := true }, kinds := [], alts := [], laidByText := true, laidKinds := [.data, .data, .data, .data, .sentinel, .sentinel, .pinned], laidTests := true, laidLooks := .later }
def NormSameCardSaid : Prop := Claim7.holds Tryz.pinned (.plain (OpenSpec.ofChange normSameSpec)) normSameCard

/-- THE TIED CARD OF 'fascialaw05.NormOrder'. -/
def normOrderCard : Claim7 := { stood := { row := normOrderRow, standIns := [], harness := (true, "c2015b8c54e8a22a452c7ce42c33d13d8ec73b4500df7b5b90db19fb4ce13a18"), looks := true }, kinds := [], alts := [], laidByText := true, laidKinds := [.data, .data, .data, .data, .sentinel, .sentinel, .pinned], laidTests := true, laidLooks := .later }
def NormOrderCardSaid : Prop := Claim7.holds Tryz.pinned (.plain (OpenSpec.ofChange normOrderSpec)) normOrderCard

/-- THE TIED CARD OF 'fascialaw05.NormSyllables'. -/
def normSyllablesCard : Claim7 := { stood := { row := normSyllablesRow, standIns := [], harness := (true, "c2015b8c54e8a22a452c7ce42c33d13d8ec73b4500df7b5b90db19fb4ce13a18"), looks := true }, kinds := [], alts := [], laidByText := true, laidKinds := [.data, .data, .data, .data, .sentinel, .sentinel, .pinned], laidTests := true, laidLooks := .later }
def NormSyllablesCardSaid : Prop := Claim7.holds Tryz.pinned (.plain (OpenSpec.ofChange normSyllablesSpec)) normSyllablesCard

/-- THE TIED CARD OF 'fascialaw05.NormPairs'. -/
def normPairsCard : Claim7 := { stood := { row := normPairsRow, standIns := [], harness := (true, "c2015b8c54e8a22a452c7ce42c33d13d8ec73b4500df7b5b90db19fb4ce13a18"), looks := true }, kinds := [], alts := [], laidByText := true, laidKinds := [.data, .data, .data, .data, .sentinel, .sentinel, .pinned], laidTests := true, laidLooks := .later }
def NormPairsCardSaid : Prop := Claim7.holds Tryz.pinned (.plain (OpenSpec.ofChange normPairsSpec)) normPairsCard

/-- THE TIED CARD OF 'fascialaw05.NormParts'. -/
def normPartsCard : Claim7 := { stood := { row := normPartsRow, standIns := [], harness := (true, "c2015b8c54e8a22a452c7ce42c33d13d8ec73b4500df7b5b90db19fb4ce13a18"), looks := true }, kinds := [], alts := [], laidByText := true, laidKinds := [.data, .data, .data, .data, .sentinel, .sentinel, .pinned], laidTests := true, laidLooks := .later }
def NormPartsCardSaid : Prop := Claim7.holds Tryz.pinned (.plain (OpenSpec.ofChange normPartsSpec)) normPartsCard

/-- THE TIED CARD OF 'fascialaw07.LabelTells'. -/
def labelTellsCard : Claim7 := { stood := { row := labelTellsRow, standIns := [], harness := (true, "c2015b8c54e8a22a452c7ce42c33d13d8ec73b4500df7b5b90db19fb4ce13a18"), looks := true }, kinds := [], alts := [], laidByText := true, laidKinds := [.data, .data, .data, .data, .sentinel, .sentinel, .pinned], laidTests := true, laidLooks := .later }
def LabelTellsCardSaid : Prop := Claim7.holds Tryz.pinned (.plain (OpenSpec.ofChange labelTellsSpec)) labelTellsCard

/-- THE TIED CARD OF 'fascialaw07.LabelMapped'. -/
def labelMappedCard : Claim7 := { stood := { row := labelMappedRow, standIns := [], harness := (true, "c2015b8c54e8a22a452c7ce42c33d13d8ec73b4500df7b5b90db19fb4ce13a18"), looks := true }, kinds := [], alts := [], laidByText := true, laidKinds := [.data, .data, .data, .data, .sentinel, .sentinel, .pinned], laidTests := true, laidLooks := .later }
def LabelMappedCardSaid : Prop := Claim7.holds Tryz.pinned (.plain (OpenSpec.ofChange labelMappedSpec)) labelMappedCard

/-- THE TIED CARD OF 'fascialaw07.LabelAdds'. -/
def labelAddsCard : Claim7 := { stood := { row := labelAddsRow, standIns := [], harness := (true, "c2015b8c54e8a22a452c7ce42c33d13d8ec73b4500df7b5b90db19fb4ce13a18"), looks := true }, kinds := [], alts := [], laidByText := true, laidKinds := [.data, .data, .data, .data, .sentinel, .sentinel, .pinned], laidTests := true, laidLooks := .later }
def LabelAddsCardSaid : Prop := Claim7.holds Tryz.pinned (.plain (OpenSpec.ofChange labelAddsSpec)) labelAddsCard

/-- THE TIED CARD OF 'fascialaw07.LabelOne'. -/
def labelOneCard : Claim7 := { stood := { row := labelOneRow, standIns := [], harness := (true, "c2015b8c54e8a22a452c7ce42c33d13d8ec73b4500df7b5b90db19fb4ce13a18"), looks := true }, kinds := [], alts := [], laidByText := true, laidKinds := [.data, .data, .data, .data, .sentinel, .sentinel, .pinned], laidTests := true, laidLooks := .later }
def LabelOneCardSaid : Prop := Claim7.holds Tryz.pinned (.plain (OpenSpec.ofChange labelOneSpec)) labelOneCard

/-- THE SECOND FORM's CARD OF 'fascialaw05.NormTells'. -/
def normTellsUptoCard : Claim7 := { stood := { row := normTellsUptoRow, standIns := [], harness := (true, "c2015b8c54e8a22a452c7ce42c33d13d8ec73b4500df7b5b90db19fb4ce13a18"), looks := true }, kinds := [], alts := [], laidByText := true, laidKinds := [.data, .data, .data, .data, .sentinel, .sentinel, .pinned], laidTests := true, laidLooks := .later }
def NormTellsUptoCardSaid : Prop := Claim7.holds Tryz.pinned (.plain (OpenSpec.upto normTellsSpec)) normTellsUptoCard

/-- THE SECOND FORM's CARD OF 'fascialaw05.NormSame'. -/
def normSameUptoCard : Claim7 := { stood := { row := normSameUptoRow, standIns := [], harness := (true, "c2015b8c54e8a22a452c7ce42c33d13d8ec73b4500df7b5b90db19fb4ce13a18"), looks := true }, kinds := [], alts := [], laidByText := true, laidKinds := [.data, .data, .data, .data, .sentinel, .sentinel, .pinned], laidTests := true, laidLooks := .later }
def NormSameUptoCardSaid : Prop := Claim7.holds Tryz.pinned (.plain (OpenSpec.upto normSameSpec)) normSameUptoCard

/-- THE SECOND FORM's CARD OF 'fascialaw05.NormOrder'. -/
def normOrderUptoCard : Claim7 := { stood := { row := normOrderUptoRow, standIns := [], harness := (true, "c2015b8c54e8a22a452c7ce42c33d13d8ec73b4500df7b5b90db19fb4ce13a18"), looks := true }, kinds := [], alts := [], laidByText := true, laidKinds := [.data, .data, .data, .data, .sentinel, .sentinel, .pinned], laidTests := true, laidLooks := .later }
def NormOrderUptoCardSaid : Prop := Claim7.holds Tryz.pinned (.plain (OpenSpec.upto normOrderSpec)) normOrderUptoCard

/-- THE SECOND FORM's CARD OF 'fascialaw05.NormSyllables'. -/
def normSyllablesUptoCard : Claim7 := { stood := { row := normSyllablesUptoRow, standIns := [], harness := (true, "c2015b8c54e8a22a452c7ce42c33d13d8ec73b4500df7b5b90db19fb4ce13a18"), looks := true }, kinds := [], alts := [], laidByText := true, laidKinds := [.data, .data, .data, .data, .sentinel, .sentinel, .pinned], laidTests := true, laidLooks := .later }
def NormSyllablesUptoCardSaid : Prop := Claim7.holds Tryz.pinned (.plain (OpenSpec.upto normSyllablesSpec)) normSyllablesUptoCard

/-- THE SECOND FORM's CARD OF 'fascialaw05.NormPairs'. -/
def normPairsUptoCard : Claim7 := { stood := { row := normPairsUptoRow, standIns := [], harness := (true, "c2015b8c54e8a22a452c7ce42c33d13d8ec73b4500df7b5b90db19fb4ce13a18"), looks := true }, kinds := [], alts := [], laidByText := true, laidKinds := [.data, .data, .data, .data, .sentinel, .sentinel, .pinned], laidTests := true, laidLooks := .later }
def NormPairsUptoCardSaid : Prop := Claim7.holds Tryz.pinned (.plain (OpenSpec.upto normPairsSpec)) normPairsUptoCard

/-- THE SECOND FORM's CARD OF 'fascialaw05.NormParts'. -/
def normPartsUptoCard : Claim7 := { stood := { row := normPartsUptoRow, standIns := [], harness := (true, "c2015b8c54e8a22a452c7ce42c33d13d8ec73b4500df7b5b90db19fb4ce13a18"), looks := true }, kinds := [], alts := [], laidByText := true, laidKinds := [.data, .data, .data, .data, .sentinel, .sentinel, .pinned], laidTests := true, laidLooks := .later }
def NormPartsUptoCardSaid : Prop := Claim7.holds Tryz.pinned (.plain (OpenSpec.upto normPartsSpec)) normPartsUptoCard

/-- THE SECOND FORM's CARD OF 'fascialaw07.LabelTells'. -/
def labelTellsUptoCard : Claim7 := { stood := { row := labelTellsUptoRow, standIns := [], harness := (true, "c2015b8c54e8a22a452c7ce42c33d13d8ec73b4500df7b5b90db19fb4ce13a18"), looks := true }, kinds := [], alts := [], laidByText := true, laidKinds := [.data, .data, .data, .data, .sentinel, .sentinel, .pinned], laidTests := true, laidLooks := .later }
def LabelTellsUptoCardSaid : Prop := Claim7.holds Tryz.pinned (.plain (OpenSpec.upto labelTellsSpec)) labelTellsUptoCard

/-- THE SECOND FORM's CARD OF 'fascialaw07.LabelMapped'. -/
def labelMappedUptoCard : Claim7 := { stood := { row := labelMappedUptoRow, standIns := [], harness := (true, "c2015b8c54e8a22a452c7ce42c33d13d8ec73b4500df7b5b90db19fb4ce13a18"), looks := true }, kinds := [], alts := [], laidByText := true, laidKinds := [.data, .data, .data, .data, .sentinel, .sentinel, .pinned], laidTests := true, laidLooks := .later }
def LabelMappedUptoCardSaid : Prop := Claim7.holds Tryz.pinned (.plain (OpenSpec.upto labelMappedSpec)) labelMappedUptoCard

/-- THE SECOND FORM's CARD OF 'fascialaw07.LabelAdds'. -/
def labelAddsUptoCard : Claim7 := { stood := { row := labelAddsUptoRow, standIns := [], harness := (true, "c2015b8c54e8a22a452c7ce42c33d13d8ec73b4500df7b5b90db19fb4ce13a18"), looks := true }, kinds := [], alts := [], laidByText := true, laidKinds := [.data, .data, .data, .data, .sentinel, .sentinel, .pinned], laidTests := true, laidLooks := .later }
def LabelAddsUptoCardSaid : Prop := Claim7.holds Tryz.pinned (.plain (OpenSpec.upto labelAddsSpec)) labelAddsUptoCard

/-- THE SECOND FORM's CARD OF 'fascialaw07.LabelOne'. -/
def labelOneUptoCard : Claim7 := { stood := { row := labelOneUptoRow, standIns := [], harness := (true, "c2015b8c54e8a22a452c7ce42c33d13d8ec73b4500df7b5b90db19fb4ce13a18"), looks := true }, kinds := [], alts := [], laidByText := true, laidKinds := [.data, .data, .data, .data, .sentinel, .sentinel, .pinned], laidTests := true, laidLooks := .later }
def LabelOneUptoCardSaid : Prop := Claim7.holds Tryz.pinned (.plain (OpenSpec.upto labelOneSpec)) labelOneUptoCard
end Rows
end Go.Proofs.YtenfdnnagijfnaaGreatDoor
