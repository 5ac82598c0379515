/-
  DERIVED. GIVEN WITH THE SEED: THE CARDS: each row of YtmmebaphhgggfaaGreatDoorRows.lean that lists a variable, with what it lists TIED to the program's text (the seventh form; the later family's looks); each row that meets fmt, with fmt's text TOLD by the authors' own Lean function (tested against real Go, not proved from fmt's source: count such statements apart). THE CARD IS WHAT COUNTS. Prove the row's statement (the work); the ties are given (YtmmebaphhgggfaaGreatDoorTie.lean); close each card by the builder's one call (the guide's Derived/Test/ToyasCard.lean, 'card_holds'). Laid BY PROGRAM, IN A SANDBOX (cutbox-door.mjs). By AI agents, Wed Nov 11 2026. No macro, syntax, notation, axiom, sorry.
-/
import Derived.Test.YtmmebaphhgggfaaGreatDoorRows
import GoSem.ClaimSeven
namespace Go.Proofs.YtmmebaphhgggfaaGreatDoor
namespace Rows

/-- THE TIED CARD OF 'limpetlaw04.UnitSeals'. -/
def unitSealsCard : Claim7 := { stood := { row := unitSealsRow, standIns := [], harness := (true, "06a6e60f0b1ecaf6575b97c52ebbb84ae21e82391068aa0ff1fd51dd6bad9b33"), looks := true }, kinds := [], alts := [], laidByText := true, laidKinds := [.handle, .sentinel, .sentinel, .sentinel, .sentinel, .sentinel, .sentinel, .sentinel, .sentinel, .sentinel, .sentinel, .sentinel, .sentinel], laidTests := true, laidLooks := .later }
def UnitSealsCardSaid : Prop := Claim7.holds Tryz.pinned (.plain (OpenSpec.ofChange unitSealsSpec)) unitSealsCard

/-- THE TIED CARD OF 'limpetlaw04.UnitOpens'. -/
def unitOpensCard : Claim7 := { stood := { row := unitOpensRow, standIns := [], harness := (true, "06a6e60f0b1ecaf6575b97c52ebbb84ae21e82391068aa0ff1fd51dd6bad9b33"), looks := true }, kinds := [], alts := [], laidByText := true, laidKinds := [.handle, .sentinel, .sentinel, .sentinel, .sentinel, .sentinel, .sentinel, .sentinel, .sentinel, .sentinel, .sentinel, .sentinel, .sentinel], laidTests := true, laidLooks := .later }
def UnitOpensCardSaid : Prop := Claim7.holds Tryz.pinned (.plain (OpenSpec.ofChange unitOpensSpec)) unitOpensCard

/-- THE TIED CARD OF 'limpetlaw04.UnitEnds'. -/
def unitEndsCard : Claim7 := { stood := { row := unitEndsRow, standIns := [], harness := (true, "06a6e60f0b1ecaf6575b97c52ebbb84ae21e82391068aa0ff1fd51dd6bad9b33"), looks := true }, kinds := [], alts := [], laidByText := true, laidKinds := [.handle, .sentinel, .sentinel, .sentinel, .sentinel, .sentinel, .sentinel, .sentinel, .sentinel, .sentinel, .sentinel, .sentinel, .sentinel], laidTests := true, laidLooks := .later }
def UnitEndsCardSaid : Prop := Claim7.holds Tryz.pinned (.plain (OpenSpec.ofChange unitEndsSpec)) unitEndsCard

/-- THE TIED CARD OF 'limpetlaw04.UnitSafe'. -/
def unitSafeCard : Claim7 := { stood := { row := unitSafeRow, standIns := [], harness := (true, "06a6e60f0b1ecaf6575b97c52ebbb84ae21e82391068aa0ff1fd51dd6bad9b33"), looks := true }, kinds := [], alts := [], laidByText := true, laidKinds := [.handle, .sentinel, .sentinel, .sentinel, .sentinel, .sentinel, .sentinel, .sentinel, .sentinel, .sentinel, .sentinel, .sentinel, .sentinel, .sentinel, .sentinel, .sentinel, .sentinel, .sentinel, .sentinel], laidTests := true, laidLooks := .later }
def UnitSafeCardSaid : Prop := Claim7.holds Tryz.pinned (.plain (OpenSpec.ofChange unitSafeSpec)) unitSafeCard

/-- THE TIED CARD OF 'limpetlaw04.UnitTorn'. -/
def unitTornCard : Claim7 := { stood := { row := unitTornRow, standIns := [], harness := (true, "06a6e60f0b1ecaf6575b97c52ebbb84ae21e82391068aa0ff1fd51dd6bad9b33"), looks := true }, kinds := [], alts := [], laidByText := true, laidKinds := [.handle, .sentinel, .sentinel, .sentinel, .sentinel, .sentinel, .sentinel, .sentinel, .sentinel, .sentinel, .sentinel, .sentinel, .sentinel, .sentinel, .sentinel, .sentinel, .sentinel, .sentinel], laidTests := true, laidLooks := .later }
def UnitTornCardSaid : Prop := Claim7.holds Tryz.pinned (.plain (OpenSpec.ofChange unitTornSpec)) unitTornCard

/-- THE TIED CARD OF 'limpetlaw04.UnitHealed'. -/
def unitHealedCard : Claim7 := { stood := { row := unitHealedRow, standIns := [], harness := (true, "06a6e60f0b1ecaf6575b97c52ebbb84ae21e82391068aa0ff1fd51dd6bad9b33"), looks := true }, kinds := [], alts := [], laidByText := true, laidKinds := [.handle, .sentinel, .sentinel, .sentinel, .sentinel, .sentinel, .sentinel, .sentinel, .sentinel, .sentinel, .sentinel, .sentinel, .sentinel, .sentinel, .sentinel, .sentinel, .sentinel, .sentinel, .sentinel], laidTests := true, laidLooks := .later }
def UnitHealedCardSaid : Prop := Claim7.holds Tryz.pinned (.plain (OpenSpec.ofChange unitHealedSpec)) unitHealedCard

/-- THE SECOND FORM's CARD OF 'limpetlaw04.UnitSeals'. -/
def unitSealsUptoCard : Claim7 := { stood := { row := unitSealsUptoRow, standIns := [], harness := (true, "06a6e60f0b1ecaf6575b97c52ebbb84ae21e82391068aa0ff1fd51dd6bad9b33"), looks := true }, kinds := [], alts := [], laidByText := true, laidKinds := [.handle, .sentinel, .sentinel, .sentinel, .sentinel, .sentinel, .sentinel, .sentinel, .sentinel, .sentinel, .sentinel, .sentinel, .sentinel], laidTests := true, laidLooks := .later }
def UnitSealsUptoCardSaid : Prop := Claim7.holds Tryz.pinned (.plain (OpenSpec.upto unitSealsSpec)) unitSealsUptoCard

/-- THE SECOND FORM's CARD OF 'limpetlaw04.UnitOpens'. -/
def unitOpensUptoCard : Claim7 := { stood := { row := unitOpensUptoRow, standIns := [], harness := (true, "06a6e60f0b1ecaf6575b97c52ebbb84ae21e82391068aa0ff1fd51dd6bad9b33"), looks := true }, kinds := [], alts := [], laidByText := true, laidKinds := [.handle, .sentinel, .sentinel, .sentinel, .sentinel, .sentinel, .sentinel, .sentinel, .sentinel, .sentinel, .sentinel, .sentinel, .sentinel], laidTests := true, laidLooks := .later }
def UnitOpensUptoCardSaid : Prop := Claim7.holds Tryz.pinned (.plain (OpenSpec.upto unitOpensSpec)) unitOpensUptoCard

/-- THE SECOND FORM's CARD OF 'limpetlaw04.UnitEnds'. -/
def unitEndsUptoCard : Claim7 := { stood := { row := unitEndsUptoRow, standIns := [], harness := (true, "06a6e60f0b1ecaf6575b97c52ebbb84ae21e82391068aa0ff1fd51dd6bad9b33"), looks := true }, kinds := [], alts := [], laidByText := true, laidKinds := [.handle, .sentinel, .sentinel, .sentinel, .sentinel, .sentinel, .sentinel, .sentinel, .sentinel, .sentinel, .sentinel, .sentinel, .sentinel], laidTests := true, laidLooks := .later }
def UnitEndsUptoCardSaid : Prop := Claim7.holds Tryz.pinned (.plain (OpenSpec.upto unitEndsSpec)) unitEndsUptoCard

/-- THE SECOND FORM's CARD OF 'limpetlaw04.UnitSafe'. -/
def unitSafeUptoCard : Claim7 := { stood := { row := unitSafeUptoRow, standIns := [], harness := (true, "06a6e60f0b1ecaf6575b97c52ebbb84ae21e82391068aa0ff1fd51dd6bad9b33"), looks := true }, kinds := [], alts := [], laidByText := true, laidKinds := [.handle, .sentinel, .sentinel, .sentinel, .sentinel, .sentinel, .sentinel, .sentinel, .sentinel, .sentinel, .sentinel, .sentinel, .sentinel, .sentinel, .sentinel, .sentinel, .sentinel, .sentinel, .sentinel], laidTests := true, laidLooks := .later }
def UnitSafeUptoCardSaid : Prop := Claim7.holds Tryz.pinned (.plain (OpenSpec.upto unitSafeSpec)) unitSafeUptoCard

/-- THE SECOND FORM's CARD OF 'limpetlaw04.UnitTorn'. -/
def unitTornUptoCard : Claim7 := { stood := { row := unitTornUptoRow, standIns := [], harness := (true, "06a6e60f0b1ecaf6575b97c52ebbb84ae21e82391068aa0ff1fd51dd6bad9b33"), looks := true }, kinds := [], alts := [], laidByText := true, laidKinds := [.handle, .sentinel, .sentinel, .sentinel, .sentinel, .sentinel, .sentinel, .sentinel, .sentinel, .sentinel, .sentinel, .sentinel, .sentinel, .sentinel, .sentinel, .sentinel, .sentinel, .sentinel], laidTests := true, laidLooks := .later }
def UnitTornUptoCardSaid : Prop := Claim7.holds Tryz.pinned (.plain (OpenSpec.upto unitTornSpec)) unitTornUptoCard

/-- THE SECOND FORM's CARD OF 'limpetlaw04.UnitHealed'. -/
def unitHealedUptoCard : Claim7 := { stood := { row := unitHealedUptoRow, standIns := [], harness := (true, "06a6e60f0b1ecaf6575b97c52ebbb84ae21e82391068aa0ff1fd51dd6bad9b33"), looks := true }, kinds := [], alts := [], laidByText := true, laidKinds := [.handle, .sentinel, .sentinel, .sentinel, .sentinel, .sentinel, .sentinel, .sentinel, .sentinel, .sentinel, .sentinel, .sentinel, .sentinel, .sentinel, .sentinel, .sentinel, .sentinel, .sentinel, .sentinel], laidTests := true, laidLooks := .later }
def UnitHealedUptoCardSaid : Prop := Claim7.holds Tryz.pinned (.plain (OpenSpec.upto unitHealedSpec)) unitHealedUptoCard
end Rows
end Go.Proofs.YtmmebaphhgggfaaGreatDoor
