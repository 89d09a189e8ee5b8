/-
  DERIVED. GIVEN WITH THE SEED: THE CARDS: each row of YtnmijmhgmcapcaaDoorRows.lean that lists a variable, with what it lists TIED to the program's text (the seventh form; the later family's looks); each row that meets fmt, with fmt's text TOLD by the authors' own Lean function (tested against real Go, not proved from fmt's source: count such statements apart). THE CARD IS WHAT COUNTS. Prove the row's statement (the work); the ties are given (YtnmijmhgmcapcaaDoorTie.lean); close each card by the builder's one call (the guide's Derived/Test/ToyasCard.lean, 'card_holds'). Laid BY PROGRAM, IN A SANDBOX (cutbox-door.mjs). By AI agents, Wed Nov 11 2026. No macro, syntax, notation, axiom, sorry.
-/
import Derived.Test.YtnmijmhgmcapcaaDoorRows
import GoSem.ClaimSeven
namespace Go.Proofs.YtnmijmhgmcapcaaDoor
namespace Rows

/-- THE TIED CARD OF 'fascialaw09.RuleTells'. -/
def ruleTellsCard : Claim7 := { stood := { row := ruleTellsRow, standIns := [], harness := (true, "11b533845e9e544cec4b62e8985955972a5f82d67a6ca1eb3e2cab17f2da9285"), looks := true }, kinds := [], alts := [], laidByText := true, laidKinds := [.data, .data, .data, .data, .sentinel, .sentinel, .pinned], laidTests := true, laidLooks := .later }
def RuleTellsCardSaid : Prop := Claim7.holds Tryd.pinned (.plain (OpenSpec.ofChange ruleTellsSpec)) ruleTellsCard

/-- THE TIED CARD OF 'fascialaw09.RuleClauses'. -/
def ruleClausesCard : Claim7 := { stood := { row := ruleClausesRow, standIns := [], harness := (true, "11b533845e9e544cec4b62e8985955972a5f82d67a6ca1eb3e2cab17f2da9285"), looks := true }, kinds := [], alts := [], laidByText := true, laidKinds := [.data, .data, .data, .data, .sentinel, .sentinel, .pinned], laidTests := true, laidLooks := .later }
def RuleClausesCardSaid : Prop := Claim7.holds Tryd.pinned (.plain (OpenSpec.ofChange ruleClausesSpec)) ruleClausesCard

/-- THE TIED CARD OF 'fascialaw09.RuleMarks'. -/
def ruleMarksCard : Claim7 := { stood := { row := ruleMarksRow, standIns := [], harness := (true, "11b533845e9e544cec4b62e8985955972a5f82d67a6ca1eb3e2cab17f2da9285"), looks := true }, kinds := [], alts := [], laidByText := true, laidKinds := [.data, .data, .data, .data, .sentinel, .sentinel, .pinned], laidTests := true, laidLooks := .later }
def RuleMarksCardSaid : Prop := Claim7.holds Tryd.pinned (.plain (OpenSpec.ofChange ruleMarksSpec)) ruleMarksCard

/-- THE TIED CARD OF 'fascialaw09.RuleAlike'. -/
def ruleAlikeCard : Claim7 := { stood := { row := ruleAlikeRow, standIns := [], harness := (true, "11b533845e9e544cec4b62e8985955972a5f82d67a6ca1eb3e2cab17f2da9285"), looks := true }, kinds := [], alts := [], laidByText := true, laidKinds := [.data, .data, .data, .data, .sentinel, .sentinel, .pinned], laidTests := true, laidLooks := .later }
def RuleAlikeCardSaid : Prop := Claim7.holds Tryd.pinned (.plain (OpenSpec.ofChange ruleAlikeSpec)) ruleAlikeCard

/-- THE TIED CARD OF 'fascialaw09.RulePut'. -/
def rulePutCard : Claim7 := { stood := { row := rulePutRow, standIns := [], harness := (true, "11b533845e9e544cec4b62e8985955972a5f82d67a6ca1eb3e2cab17f2da9285"), looks := true }, kinds := [], alts := [], laidByText := true, laidKinds := [.data, .data, .data, .data, .sentinel, .sentinel, .pinned], laidTests := true, laidLooks := .later }
def RulePutCardSaid : Prop := Claim7.holds Tryd.pinned (.plain (OpenSpec.ofChange rulePutSpec)) rulePutCard

/-- THE SECOND FORM's CARD OF 'fascialaw09.RuleTells'. -/
def ruleTellsUptoCard : Claim7 := { stood := { row := ruleTellsUptoRow, standIns := [], harness := (true, "11b533845e9e544cec4b62e8985955972a5f82d67a6ca1eb3e2cab17f2da9285"), looks := true }, kinds := [], alts := [], laidByText := true, laidKinds := [.data, .data, .data, .data, .sentinel, .sentinel, .pinned], laidTests := true, laidLooks := .later }
def RuleTellsUptoCardSaid : Prop := Claim7.holds Tryd.pinned (.plain (OpenSpec.upto ruleTellsSpec)) ruleTellsUptoCard

/-- THE SECOND FORM's CARD OF 'fascialaw09.RuleClauses'. -/
def ruleClausesUptoCard : Claim7 := { stood := { row := ruleClausesUptoRow, standIns := [], harness := (true, "11b533845e9e544cec4b62e8985955972a5f82d67a6ca1eb3e2cab17f2da9285"), looks := true }, kinds := [], alts := [], laidByText := true, laidKinds := [.data, .data, .data, .data, .sentinel, .sentinel, .pinned], laidTests := true, laidLooks := .later }
def RuleClausesUptoCardSaid : Prop := Claim7.holds Tryd.pinned (.plain (OpenSpec.upto ruleClausesSpec)) ruleClausesUptoCard

/-- THE SECOND FORM's CARD OF 'fascialaw09.RuleMarks'. -/
def ruleMarksUptoCard : Claim7 := { stood := { row := ruleMarksUptoRow, standIns := [], harness := (true, "11b533845e9e544cec4b62e8985955972a5f82d67a6ca1eb3e2cab17f2da9285"), looks := true }, kinds := [], alts := [], laidByText := true, laidKinds := [.data, .data, .data, .data, .sentinel, .sentinel, .pinned], laidTests := true, laidLooks := .later }
def RuleMarksUptoCardSaid : Prop := Claim7.holds Tryd.pinned (.plain (OpenSpec.upto ruleMarksSpec)) ruleMarksUptoCard

/-- THE SECOND FORM's CARD OF 'fascialaw09.RuleAlike'. -/
def ruleAlikeUptoCard : Claim7 := { stood := { row := ruleAlikeUptoRow, standIns := [], harness := (true, "11b533845e9e544cec4b62e8985955972a5f82d67a6ca1eb3e2cab17f2da9285"), looks := true }, kinds := [], alts := [], laidByText := true, laidKinds := [.data, .data, .data, .data, .sentinel, .sentinel, .pinned], laidTests := true, laidLooks := .later }
def RuleAlikeUptoCardSaid : Prop := Claim7.holds Tryd.pinned (.plain (OpenSpec.upto ruleAlikeSpec)) ruleAlikeUptoCard

/-- THE SECOND FORM's CARD OF 'fascialaw09.RulePut'. -/
def rulePutUptoCard : Claim7 := { stood := { row := rulePutUptoRow, standIns := [], harness := (true, "11b533845e9e544cec4b62e8985955972a5f82d67a6ca1eb3e2cab17f2da9285"), looks := true }, kinds := [], alts := [], laidByText := true, laidKinds := [.data, .data, .data, .data, .sentinel, .sentinel, .pinned], laidTests := true, laidLooks := .later }
def RulePutUptoCardSaid : Prop := Claim7.holds Tryd.pinned (.plain (OpenSpec.upto rulePutSpec)) rulePutUptoCard
end Rows
end Go.Proofs.YtnmijmhgmcapcaaDoor
