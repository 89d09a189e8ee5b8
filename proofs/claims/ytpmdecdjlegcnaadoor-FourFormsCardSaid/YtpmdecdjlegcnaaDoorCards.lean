/-
  DERIVED. GIVEN WITH THE SEED: THE CARDS: each row of YtpmdecdjlegcnaaDoorRows.lean that lists a variable, with what it lists TIED to the program's text (the seventh form; the later family's looks); each row that meets fmt, with fmt's text TOLD by the authors' own Lean function (tested against real Go, not proved from fmt's source: count such statements apart). THE CARD IS WHAT COUNTS. Prove the row's statement (the work); the ties are given (YtpmdecdjlegcnaaDoorTie.lean); close each card by the builder's one call (the guide's Derived/Test/ToyasCard.lean, 'card_holds'). Laid BY PROGRAM, IN A SANDBOX (cutbox-door.mjs). By AI agents, Wed Nov 11 2026. No macro, syntax, notation, axiom, sorry.
-/
import Derived.Test.YtpmdecdjlegcnaaDoorRows
import GoSem.ClaimSeven
namespace Go.Proofs.YtpmdecdjlegcnaaDoor
namespace Rows

/-- THE TIED CARD OF 'fascialaw12.FourTells'. -/
def fourTellsCard : Claim7 := { stood := { row := fourTellsRow, standIns := [], harness := (true, "8c916d87dac566d43f12e0c8e58974611998e2cc655645d3f4376929a58bf9d1"), looks := false }, kinds := [], alts := [], laidByText := true, laidKinds := [.data, .data, .data], laidTests := true, laidLooks := .later }
def FourTellsCardSaid : Prop := Claim7.holds Tryd.pinned (.plain (OpenSpec.ofChange fourTellsSpec)) fourTellsCard

/-- THE TIED CARD OF 'fascialaw12.FourBack'. -/
def fourBackCard : Claim7 := { stood := { row := fourBackRow, standIns := [], harness := (true, "8c916d87dac566d43f12e0c8e58974611998e2cc655645d3f4376929a58bf9d1"), looks := false }, kinds := [], alts := [], laidByText := true, laidKinds := [.data, .data, .data, .data, .pinned], laidTests := true, laidLooks := .later }
def FourBackCardSaid : Prop := Claim7.holds Tryd.pinned (.plain (OpenSpec.ofChange fourBackSpec)) fourBackCard

/-- THE TIED CARD OF 'fascialaw12.FourForms'. -/
def fourFormsCard : Claim7 := { stood := { row := fourFormsRow, standIns := [], harness := (true, "8c916d87dac566d43f12e0c8e58974611998e2cc655645d3f4376929a58bf9d1"), looks := false }, kinds := [], alts := [], laidByText := true, laidKinds := [.data, .data, .data, .data, .pinned, .pinned], laidTests := true, laidLooks := .later }
def FourFormsCardSaid : Prop := Claim7.holds Tryd.pinned (.plain (OpenSpec.ofChange fourFormsSpec)) fourFormsCard

/-- THE TIED CARD OF 'fascialaw12.FourLimits'. -/
def fourLimitsCard : Claim7 := { stood := { row := fourLimitsRow, standIns := [], harness := (true, "8c916d87dac566d43f12e0c8e58974611998e2cc655645d3f4376929a58bf9d1"), looks := false }, kinds := [], alts := [], laidByText := true, laidKinds := [.data, .data, .data], laidTests := true, laidLooks := .later }
def FourLimitsCardSaid : Prop := Claim7.holds Tryd.pinned (.plain (OpenSpec.ofChange fourLimitsSpec)) fourLimitsCard

/-- THE TIED CARD OF 'fascialaw12.FourEnds'. -/
def fourEndsCard : Claim7 := { stood := { row := fourEndsRow, standIns := [], harness := (true, "8c916d87dac566d43f12e0c8e58974611998e2cc655645d3f4376929a58bf9d1"), looks := false }, kinds := [], alts := [], laidByText := true, laidKinds := [.data, .data, .data, .data, .pinned], laidTests := true, laidLooks := .later }
def FourEndsCardSaid : Prop := Claim7.holds Tryd.pinned (.plain (OpenSpec.ofChange fourEndsSpec)) fourEndsCard

/-- THE SECOND FORM's CARD OF 'fascialaw12.FourTells'. -/
def fourTellsUptoCard : Claim7 := { stood := { row := fourTellsUptoRow, standIns := [], harness := (true, "8c916d87dac566d43f12e0c8e58974611998e2cc655645d3f4376929a58bf9d1"), looks := false }, kinds := [], alts := [], laidByText := true, laidKinds := [.data, .data, .data], laidTests := true, laidLooks := .later }
def FourTellsUptoCardSaid : Prop := Claim7.holds Tryd.pinned (.plain (OpenSpec.upto fourTellsSpec)) fourTellsUptoCard

/-- THE SECOND FORM's CARD OF 'fascialaw12.FourBack'. -/
def fourBackUptoCard : Claim7 := { stood := { row := fourBackUptoRow, standIns := [], harness := (true, "8c916d87dac566d43f12e0c8e58974611998e2cc655645d3f4376929a58bf9d1"), looks := false }, kinds := [], alts := [], laidByText := true, laidKinds := [.data, .data, .data, .data, .pinned], laidTests := true, laidLooks := .later }
def FourBackUptoCardSaid : Prop := Claim7.holds Tryd.pinned (.plain (OpenSpec.upto fourBackSpec)) fourBackUptoCard

/-- THE SECOND FORM's CARD OF 'fascialaw12.FourForms'. -/
def fourFormsUptoCard : Claim7 := { stood := { row := fourFormsUptoRow, standIns := [], harness := (true, "8c916d87dac566d43f12e0c8e58974611998e2cc655645d3f4376929a58bf9d1"), looks := false }, kinds := [], alts := [], laidByText := true, laidKinds := [.data, .data, .data, .data, .pinned, .pinned], laidTests := true, laidLooks := .later }
def FourFormsUptoCardSaid : Prop := Claim7.holds Tryd.pinned (.plain (OpenSpec.upto fourFormsSpec)) fourFormsUptoCard

/-- THE SECOND FORM's CARD OF 'fascialaw12.FourLimits'. -/
def fourLimitsUptoCard : Claim7 := { stood := { row := fourLimitsUptoRow, standIns := [], harness := (true, "8c916d87dac566d43f12e0c8e58974611998e2cc655645d3f4376929a58bf9d1"), looks := false }, kinds := [], alts := [], laidByText := true, laidKinds := [.data, .data, .data], laidTests := true, laidLooks := .later }
def FourLimitsUptoCardSaid : Prop := Claim7.holds Tryd.pinned (.plain (OpenSpec.upto fourLimitsSpec)) fourLimitsUptoCard

/-- THE SECOND FORM's CARD OF 'fascialaw12.FourEnds'. -/
def fourEndsUptoCard : Claim7 := { stood := { row := fourEndsUptoRow, standIns := [], harness := (true, "8c916d87dac566d43f12e0c8e58974611998e2cc655645d3f4376929a58bf9d1"), looks := false }, kinds := [], alts := [], laidByText := true, laidKinds := [.data, .data, .data, .data, .pinned], laidTests := true, laidLooks := .later }
def FourEndsUptoCardSaid : Prop := Claim7.holds Tryd.pinned (.plain (OpenSpec.upto fourEndsSpec)) fourEndsUptoCard
end Rows
end Go.Proofs.YtpmdecdjlegcnaaDoor
