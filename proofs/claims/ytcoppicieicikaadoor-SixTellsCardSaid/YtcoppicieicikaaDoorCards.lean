/-
  DERIVED. GIVEN WITH THE SEED: THE CARDS: each row of YtcoppicieicikaaDoorRows.lean that lists a variable, with what it lists TIED to the program's text (the seventh form; the later family's looks); each row that meets fmt, with fmt's text TOLD by the authors' own Lean function (tested against real Go, not proved from fmt's source: count such statements apart). THE CARD IS WHAT COUNTS. Prove the row's statement (the work); the ties are given (YtcoppicieicikaaDoorTie.lean); close each card by the builder's one call (the guide's Derived/Test/ToyasCard.lean, 'card_holds'). Laid BY PROGRAM, IN A SANDBOX (cutbox-door.mjs). By AI agents, Wed Nov 11 2026. No macro, syntax, notation, axiom, sorry.
-/
import Derived.Test.YtcoppicieicikaaDoorRows
import GoSem.ClaimSeven
namespace Go.Proofs.YtcoppicieicikaaDoor
namespace Rows

/-- THE TIED CARD OF 'fascialaw13.SixTells'. -/
def sixTellsCard : Claim7 := { stood := { row := sixTellsRow, standIns := [], harness := (true, "088f59884a7ce57d9b8a56315fa832e1f9ff9639c70780f69158d45bb9a90f63"), looks := true }, kinds := [], alts := [], laidByText := true, laidKinds := [.data, .data, .data, .data, .sentinel, .sentinel, .pinned], laidTests := true, laidLooks := .later }
def SixTellsCardSaid : Prop := Claim7.holds Tryd.pinned (.plain (OpenSpec.ofChange sixTellsSpec)) sixTellsCard

/-- THE TIED CARD OF 'fascialaw13.SixBack'. -/
def sixBackCard : Claim7 := { stood := { row := sixBackRow, standIns := [], harness := (true, "088f59884a7ce57d9b8a56315fa832e1f9ff9639c70780f69158d45bb9a90f63"), looks := true }, kinds := [], alts := [], laidByText := true, laidKinds := [.data, .data, .data, .data, .sentinel, .sentinel, .pinned, .pinned], laidTests := true, laidLooks := .later }
def SixBackCardSaid : Prop := Claim7.holds Tryd.pinned (.plain (OpenSpec.ofChange sixBackSpec)) sixBackCard

/-- THE TIED CARD OF 'fascialaw13.SixForms'. -/
def sixFormsCard : Claim7 := { stood := { row := sixFormsRow, standIns := [], harness := (true, "088f59884a7ce57d9b8a56315fa832e1f9ff9639c70780f69158d45bb9a90f63"), looks := true }, kinds := [], alts := [], laidByText := true, laidKinds := [.data, .data, .data, .data, .sentinel, .sentinel, .pinned], laidTests := true, laidLooks := .later }
def SixFormsCardSaid : Prop := Claim7.holds Tryd.pinned (.plain (OpenSpec.ofChange sixFormsSpec)) sixFormsCard

/-- THE TIED CARD OF 'fascialaw13.SixShort'. -/
def sixShortCard : Claim7 := { stood := { row := sixShortRow, standIns := [], harness := (true, "088f59884a7ce57d9b8a56315fa832e1f9ff9639c70780f69158d45bb9a90f63"), looks := true }, kinds := [], alts := [], laidByText := true, laidKinds := [.data, .data, .data, .data, .sentinel, .sentinel, .pinned], laidTests := true, laidLooks := .later }
def SixShortCardSaid : Prop := Claim7.holds Tryd.pinned (.plain (OpenSpec.ofChange sixShortSpec)) sixShortCard

/-- THE TIED CARD OF 'fascialaw13.SixWrong'. -/
def sixWrongCard : Claim7 := { stood := { row := sixWrongRow, standIns := [], harness := (true, "088f59884a7ce57d9b8a56315fa832e1f9ff9639c70780f69158d45bb9a90f63"), looks := true }, kinds := [], alts := [], laidByText := true, laidKinds := [.data, .data, .data, .data, .sentinel, .sentinel, .pinned], laidTests := true, laidLooks := .later }
def SixWrongCardSaid : Prop := Claim7.holds Tryd.pinned (.plain (OpenSpec.ofChange sixWrongSpec)) sixWrongCard

/-- THE SECOND FORM's CARD OF 'fascialaw13.SixTells'. -/
def sixTellsUptoCard : Claim7 := { stood := { row := sixTellsUptoRow, standIns := [], harness := (true, "088f59884a7ce57d9b8a56315fa832e1f9ff9639c70780f69158d45bb9a90f63"), looks := true }, kinds := [], alts := [], laidByText := true, laidKinds := [.data, .data, .data, .data, .sentinel, .sentinel, .pinned], laidTests := true, laidLooks := .later }
def SixTellsUptoCardSaid : Prop := Claim7.holds Tryd.pinned (.plain (OpenSpec.upto sixTellsSpec)) sixTellsUptoCard

/-- THE SECOND FORM's CARD OF 'fascialaw13.SixBack'. -/
def sixBackUptoCard : Claim7 := { stood := { row := sixBackUptoRow, standIns := [], harness := (true, "088f59884a7ce57d9b8a56315fa832e1f9ff9639c70780f69158d45bb9a90f63"), looks := true }, kinds := [], alts := [], laidByText := true, laidKinds := [.data, .data, .data, .data, .sentinel, .sentinel, .pinned, .pinned], laidTests := true, laidLooks := .later }
def SixBackUptoCardSaid : Prop := Claim7.holds Tryd.pinned (.plain (OpenSpec.upto sixBackSpec)) sixBackUptoCard

/-- THE SECOND FORM's CARD OF 'fascialaw13.SixForms'. -/
def sixFormsUptoCard : Claim7 := { stood := { row := sixFormsUptoRow, standIns := [], harness := (true, "088f59884a7ce57d9b8a56315fa832e1f9ff9639c70780f69158d45bb9a90f63"), looks := true }, kinds := [], alts := [], laidByText := true, laidKinds := [.data, .data, .data, .data, .sentinel, .sentinel, .pinned], laidTests := true, laidLooks := .later }
def SixFormsUptoCardSaid : Prop := Claim7.holds Tryd.pinned (.plain (OpenSpec.upto sixFormsSpec)) sixFormsUptoCard

/-- THE SECOND FORM's CARD OF 'fascialaw13.SixShort'. -/
def sixShortUptoCard : Claim7 := { stood := { row := sixShortUptoRow, standIns := [], harness := (true, "088f59884a7ce57d9b8a56315fa832e1f9ff9639c70780f69158d45bb9a90f63"), looks := true }, kinds := [], alts := [], laidByText := true, laidKinds := [.data, .data, .data, .data, .sentinel, .sentinel, .pinned], laidTests := true, laidLooks := .later }
def SixShortUptoCardSaid : Prop := Claim7.holds Tryd.pinned (.plain (OpenSpec.upto sixShortSpec)) sixShortUptoCard

/-- THE SECOND FORM's CARD OF 'fascialaw13.SixWrong'. -/
def sixWrongUptoCard : Claim7 := { stood := { row := sixWrongUptoRow, standIns := [], harness := (true, "088f59884a7ce57d9b8a56315fa832e1f9ff9639c70780f69158d45bb9a90f63"), looks := true }, kinds := [], alts := [], laidByText := true, laidKinds := [.data, .data, .data, .data, .sentinel, .sentinel, .pinned], laidTests := true, laidLooks := .later }
def SixWrongUptoCardSaid : Prop := Claim7.holds Tryd.pinned (.plain (OpenSpec.upto sixWrongSpec)) sixWrongUptoCard
end Rows
end Go.Proofs.YtcoppicieicikaaDoor
