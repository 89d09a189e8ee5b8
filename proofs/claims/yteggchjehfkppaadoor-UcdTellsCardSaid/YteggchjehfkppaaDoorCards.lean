/-
  DERIVED. GIVEN WITH THE SEED: THE CARDS: each row of YteggchjehfkppaaDoorRows.lean that lists a variable, with what it lists TIED to the program's text (the seventh form; the later family's looks); each row that meets fmt, with fmt's text TOLD by the authors' own Lean function (tested against real Go, not proved from fmt's source: count such statements apart). THE CARD IS WHAT COUNTS. Prove the row's statement (the work); the ties are given (YteggchjehfkppaaDoorTie.lean); close each card by the builder's one call (the guide's Derived/Test/ToyasCard.lean, 'card_holds'). Laid BY PROGRAM, IN A SANDBOX (cutbox-door.mjs). By AI agents, Wed Nov 11 2026. No macro, syntax, notation, axiom, sorry.
-/
import Derived.Test.YteggchjehfkppaaDoorRows
import GoSem.ClaimSeven
namespace Go.Proofs.YteggchjehfkppaaDoor
namespace Rows

/-- THE TIED CARD OF 'fascialaw02.UcdTells'. -/
def ucdTellsCard : Claim7 := { stood := { row := ucdTellsRow, standIns := [], harness := (true, "bd988b9575ebbf85d13ef5fdc5027332695ade4174a37e91737069d49f722970"), looks := true }, kinds := [], alts := [], laidByText := true, laidKinds := [.data, .data, .data, .data, .sentinel, .sentinel, .data, .pinned], laidTests := true, laidLooks := .later }
def UcdTellsCardSaid : Prop := Claim7.holds Tryd.pinned (.plain (OpenSpec.ofChange ucdTellsSpec)) ucdTellsCard

/-- THE TIED CARD OF 'fascialaw02.UcdRows'. -/
def ucdRowsCard : Claim7 := { stood := { row := ucdRowsRow, standIns := [], harness := (true, "bd988b9575ebbf85d13ef5fdc5027332695ade4174a37e91737069d49f722970"), looks := true }, kinds := [], alts := [], laidByText := true, laidKinds := [.data, .data, .data, .data, .sentinel, .sentinel, .data, .pinned], laidTests := true, laidLooks := .later }
def UcdRowsCardSaid : Prop := Claim7.holds Tryd.pinned (.plain (OpenSpec.ofChange ucdRowsSpec)) ucdRowsCard

/-- THE TIED CARD OF 'fascialaw02.UcdKinds'. -/
def ucdKindsCard : Claim7 := { stood := { row := ucdKindsRow, standIns := [], harness := (true, "bd988b9575ebbf85d13ef5fdc5027332695ade4174a37e91737069d49f722970"), looks := true }, kinds := [], alts := [], laidByText := true, laidKinds := [.data, .data, .data, .data, .sentinel, .sentinel, .data, .pinned], laidTests := true, laidLooks := .later }
def UcdKindsCardSaid : Prop := Claim7.holds Tryd.pinned (.plain (OpenSpec.ofChange ucdKindsSpec)) ucdKindsCard

/-- THE TIED CARD OF 'fascialaw02.UcdBrackets'. -/
def ucdBracketsCard : Claim7 := { stood := { row := ucdBracketsRow, standIns := [], harness := (true, "bd988b9575ebbf85d13ef5fdc5027332695ade4174a37e91737069d49f722970"), looks := true }, kinds := [], alts := [], laidByText := true, laidKinds := [.data, .data, .data, .data, .sentinel, .sentinel, .data, .pinned], laidTests := true, laidLooks := .later }
def UcdBracketsCardSaid : Prop := Claim7.holds Tryd.pinned (.plain (OpenSpec.ofChange ucdBracketsSpec)) ucdBracketsCard

/-- THE TIED CARD OF 'fascialaw02.UcdApart'. -/
def ucdApartCard : Claim7 := { stood := { row := ucdApartRow, standIns := [], harness := (true, "bd988b9575ebbf85d13ef5fdc5027332695ade4174a37e91737069d49f722970"), looks := true }, kinds := [], alts := [], laidByText := true, laidKinds := [.data, .data, .data, .data, .sentinel, .sentinel, .data, .pinned], laidTests := true, laidLooks := .later }
def UcdApartCardSaid : Prop := Claim7.holds Tryd.pinned (.plain (OpenSpec.ofChange ucdApartSpec)) ucdApartCard

/-- THE SECOND FORM's CARD OF 'fascialaw02.UcdTells'. -/
def ucdTellsUptoCard : Claim7 := { stood := { row := ucdTellsUptoRow, standIns := [], harness := (true, "bd988b9575ebbf85d13ef5fdc5027332695ade4174a37e91737069d49f722970"), looks := true }, kinds := [], alts := [], laidByText := true, laidKinds := [.data, .data, .data, .data, .sentinel, .sentinel, .data, .pinned], laidTests := true, laidLooks := .later }
def UcdTellsUptoCardSaid : Prop := Claim7.holds Tryd.pinned (.plain (OpenSpec.upto ucdTellsSpec)) ucdTellsUptoCard

/-- THE SECOND FORM's CARD OF 'fascialaw02.UcdRows'. -/
def ucdRowsUptoCard : Claim7 := { stood := { row := ucdRowsUptoRow, standIns := [], harness := (true, "bd988b9575ebbf85d13ef5fdc5027332695ade4174a37e91737069d49f722970"), looks := true }, kinds := [], alts := [], laidByText := true, laidKinds := [.data, .data, .data, .data, .sentinel, .sentinel, .data, .pinned], laidTests := true, laidLooks := .later }
def UcdRowsUptoCardSaid : Prop := Claim7.holds Tryd.pinned (.plain (OpenSpec.upto ucdRowsSpec)) ucdRowsUptoCard

/-- THE SECOND FORM's CARD OF 'fascialaw02.UcdKinds'. -/
def ucdKindsUptoCard : Claim7 := { stood := { row := ucdKindsUptoRow, standIns := [], harness := (true, "bd988b9575ebbf85d13ef5fdc5027332695ade4174a37e91737069d49f722970"), looks := true }, kinds := [], alts := [], laidByText := true, laidKinds := [.data, .data, .data, .data, .sentinel, .sentinel, .data, .pinned], laidTests := true, laidLooks := .later }
def UcdKindsUptoCardSaid : Prop := Claim7.holds Tryd.pinned (.plain (OpenSpec.upto ucdKindsSpec)) ucdKindsUptoCard

/-- THE SECOND FORM's CARD OF 'fascialaw02.UcdBrackets'. -/
def ucdBracketsUptoCard : Claim7 := { stood := { row := ucdBracketsUptoRow, standIns := [], harness := (true, "bd988b9575ebbf85d13ef5fdc5027332695ade4174a37e91737069d49f722970"), looks := true }, kinds := [], alts := [], laidByText := true, laidKinds := [.data, .data, .data, .data, .sentinel, .sentinel, .data, .pinned], laidTests := true, laidLooks := .later }
def UcdBracketsUptoCardSaid : Prop := Claim7.holds Tryd.pinned (.plain (OpenSpec.upto ucdBracketsSpec)) ucdBracketsUptoCard

/-- THE SECOND FORM's CARD OF 'fascialaw02.UcdApart'. -/
def ucdApartUptoCard : Claim7 := { stood := { row := ucdApartUptoRow, standIns := [], harness := (true, "bd988b9575ebbf85d13ef5fdc5027332695ade4174a37e91737069d49f722970"), looks := true }, kinds := [], alts := [], laidByText := true, laidKinds := [.data, .data, .data, .data, .sentinel, .sentinel, .data, .pinned], laidTests := true, laidLooks := .later }
def UcdApartUptoCardSaid : Prop := Claim7.holds Tryd.pinned (.plain (OpenSpec.upto ucdApartSpec)) ucdApartUptoCard
end Rows
end Go.Proofs.YteggchjehfkppaaDoor
