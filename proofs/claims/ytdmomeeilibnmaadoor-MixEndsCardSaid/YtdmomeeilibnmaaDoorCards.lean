/-
  DERIVED. GIVEN WITH THE SEED: THE CARDS: each row of YtdmomeeilibnmaaDoorRows.lean that lists a variable, with what it lists TIED to the program's text (the seventh form; the later family's looks); each row that meets fmt, with fmt's text TOLD by the authors' own Lean function (tested against real Go, not proved from fmt's source: count such statements apart). THE CARD IS WHAT COUNTS. Prove the row's statement (the work); the ties are given (YtdmomeeilibnmaaDoorTie.lean); close each card by the builder's one call (the guide's Derived/Test/ToyasCard.lean, 'card_holds'). Laid BY PROGRAM, IN A SANDBOX (cutbox-door.mjs). By AI agents, Wed Nov 11 2026. No macro, syntax, notation, axiom, sorry.
-/
import Derived.Test.YtdmomeeilibnmaaDoorRows
import GoSem.ClaimSeven
namespace Go.Proofs.YtdmomeeilibnmaaDoor
namespace Rows

/-- THE TIED CARD OF 'limpetlaw01.MixTells'. -/
def mixTellsCard : Claim7 := { stood := { row := mixTellsRow, standIns := [], harness := (true, "67b075f89d2a27409270d5ff46d7178120e844f19a5121d8527d92ebeb1222e8"), looks := true }, kinds := [], alts := [], laidByText := true, laidKinds := [.sentinel], laidTests := true, laidLooks := .later }
def MixTellsCardSaid : Prop := Claim7.holds Tryd.pinned (.plain (OpenSpec.ofChange mixTellsSpec)) mixTellsCard

/-- THE TIED CARD OF 'limpetlaw01.MixEnds'. -/
def mixEndsCard : Claim7 := { stood := { row := mixEndsRow, standIns := [], harness := (true, "67b075f89d2a27409270d5ff46d7178120e844f19a5121d8527d92ebeb1222e8"), looks := true }, kinds := [], alts := [], laidByText := true, laidKinds := [.sentinel], laidTests := true, laidLooks := .later }
def MixEndsCardSaid : Prop := Claim7.holds Tryd.pinned (.plain (OpenSpec.ofChange mixEndsSpec)) mixEndsCard

/-- THE TIED CARD OF 'limpetlaw01.MixRuns'. -/
def mixRunsCard : Claim7 := { stood := { row := mixRunsRow, standIns := [], harness := (true, "67b075f89d2a27409270d5ff46d7178120e844f19a5121d8527d92ebeb1222e8"), looks := true }, kinds := [], alts := [], laidByText := true, laidKinds := [.sentinel], laidTests := true, laidLooks := .later }
def MixRunsCardSaid : Prop := Claim7.holds Tryd.pinned (.plain (OpenSpec.ofChange mixRunsSpec)) mixRunsCard

/-- THE TIED CARD OF 'limpetlaw01.MixParts'. -/
def mixPartsCard : Claim7 := { stood := { row := mixPartsRow, standIns := [], harness := (true, "67b075f89d2a27409270d5ff46d7178120e844f19a5121d8527d92ebeb1222e8"), looks := true }, kinds := [], alts := [], laidByText := true, laidKinds := [.sentinel], laidTests := true, laidLooks := .later }
def MixPartsCardSaid : Prop := Claim7.holds Tryd.pinned (.plain (OpenSpec.ofChange mixPartsSpec)) mixPartsCard

/-- THE SECOND FORM's CARD OF 'limpetlaw01.MixTells'. -/
def mixTellsUptoCard : Claim7 := { stood := { row := mixTellsUptoRow, standIns := [], harness := (true, "67b075f89d2a27409270d5ff46d7178120e844f19a5121d8527d92ebeb1222e8"), looks := true }, kinds := [], alts := [], laidByText := true, laidKinds := [.sentinel], laidTests := true, laidLooks := .later }
def MixTellsUptoCardSaid : Prop := Claim7.holds Tryd.pinned (.plain (OpenSpec.upto mixTellsSpec)) mixTellsUptoCard

/-- THE SECOND FORM's CARD OF 'limpetlaw01.MixEnds'. -/
def mixEndsUptoCard : Claim7 := { stood := { row := mixEndsUptoRow, standIns := [], harness := (true, "67b075f89d2a27409270d5ff46d7178120e844f19a5121d8527d92ebeb1222e8"), looks := true }, kinds := [], alts := [], laidByText := true, laidKinds := [.sentinel], laidTests := true, laidLooks := .later }
def MixEndsUptoCardSaid : Prop := Claim7.holds Tryd.pinned (.plain (OpenSpec.upto mixEndsSpec)) mixEndsUptoCard

/-- THE SECOND FORM's CARD OF 'limpetlaw01.MixRuns'. -/
def mixRunsUptoCard : Claim7 := { stood := { row := mixRunsUptoRow, standIns := [], harness := (true, "67b075f89d2a27409270d5ff46d7178120e844f19a5121d8527d92ebeb1222e8"), looks := true }, kinds := [], alts := [], laidByText := true, laidKinds := [.sentinel], laidTests := true, laidLooks := .later }
def MixRunsUptoCardSaid : Prop := Claim7.holds Tryd.pinned (.plain (OpenSpec.upto mixRunsSpec)) mixRunsUptoCard

/-- THE SECOND FORM's CARD OF 'limpetlaw01.MixParts'. -/
def mixPartsUptoCard : Claim7 := { stood := { row := mixPartsUptoRow, standIns := [], harness := (true, "67b075f89d2a27409270d5ff46d7178120e844f19a5121d8527d92ebeb1222e8"), looks := true }, kinds := [], alts := [], laidByText := true, laidKinds := [.sentinel], laidTests := true, laidLooks := .later }
def MixPartsUptoCardSaid : Prop := Claim7.holds Tryd.pinned (.plain (OpenSpec.upto mixPartsSpec)) mixPartsUptoCard
end Rows
end Go.Proofs.YtdmomeeilibnmaaDoor
