/-
  DERIVED. GIVEN WITH THE SEED: THE CARDS: each row of YtbkecaenjjlmoaaGreatDoorRows.lean that lists a variable, with what it lists TIED to the program's text (the seventh form; the later family's looks); each row that meets fmt, with fmt's text TOLD by the authors' own Lean function (tested against real Go, not proved from fmt's source: count such statements apart). THE CARD IS WHAT COUNTS. Prove the row's statement (the work); the ties are given (YtbkecaenjjlmoaaGreatDoorTie.lean); close each card by the builder's one call (the guide's Derived/Test/ToyasCard.lean, 'card_holds'). Laid BY PROGRAM, IN A SANDBOX (cutbox-door.mjs). By AI agents, Wed Nov 11 2026. No macro, syntax, notation, axiom, sorry.
-/
import Derived.Test.YtbkecaenjjlmoaaGreatDoorRows
import GoSem.ClaimSeven
namespace Go.Proofs.YtbkecaenjjlmoaaGreatDoor
namespace Rows

/-- THE TIED CARD OF 'limpetlaw04.UnitOpens'. -/
def unitOpensCard : Claim7 := { stood := { row := unitOpensRow, standIns := [], harness := (true, "ee7638315f09e1612d065305407c310468218eaf0ad473d7d79e3ea97ca61f6d"), looks := true }, kinds := [], alts := [], laidByText := true, laidKinds := [.handle, .sentinel, .sentinel, .sentinel, .sentinel, .sentinel, .sentinel, .sentinel, .sentinel, .sentinel, .sentinel, .sentinel, .sentinel], laidTests := true, laidLooks := .later }
def UnitOpensCardSaid : Prop := Claim7.holds Tryz.pinned (.plain (OpenSpec.ofChange unitOpensSpec)) unitOpensCard

/-- THE TIED CARD OF 'limpetlaw04.UnitEnds'. -/
def unitEndsCard : Claim7 := { stood := { row := unitEndsRow, standIns := [], harness := (true, "ee7638315f09e1612d065305407c310468218eaf0ad473d7d79e3ea97ca61f6d"), looks := true }, kinds := [], alts := [], laidByText := true, laidKinds := [.handle, .sentinel, .sentinel, .sentinel, .sentinel, .sentinel, .sentinel, .sentinel, .sentinel, .sentinel, .sentinel, .sentinel, .sentinel], laidTests := true, laidLooks := .later }
def UnitEndsCardSaid : Prop := Claim7.holds Tryz.pinned (.plain (OpenSpec.ofChange unitEndsSpec)) unitEndsCard

/-- THE SECOND FORM's CARD OF 'limpetlaw04.UnitOpens'. -/
def unitOpensUptoCard : Claim7 := { stood := { row := unitOpensUptoRow, standIns := [], harness := (true, "ee7638315f09e1612d065305407c310468218eaf0ad473d7d79e3ea97ca61f6d"), looks := true }, kinds := [], alts := [], laidByText := true, laidKinds := [.handle, .sentinel, .sentinel, .sentinel, .sentinel, .sentinel, .sentinel, .sentinel, .sentinel, .sentinel, .sentinel, .sentinel, .sentinel], laidTests := true, laidLooks := .later }
def UnitOpensUptoCardSaid : Prop := Claim7.holds Tryz.pinned (.plain (OpenSpec.upto unitOpensSpec)) unitOpensUptoCard

/-- THE SECOND FORM's CARD OF 'limpetlaw04.UnitEnds'. -/
def unitEndsUptoCard : Claim7 := { stood := { row := unitEndsUptoRow, standIns := [], harness := (true, "ee7638315f09e1612d065305407c310468218eaf0ad473d7d79e3ea97ca61f6d"), looks := true }, kinds := [], alts := [], laidByText := true, laidKinds := [.handle, .sentinel, .sentinel, .sentinel, .sentinel, .sentinel, .sentinel, .sentinel, .sentinel, .sentinel, .sentinel, .sentinel, .sentinel], laidTests := true, laidLooks := .later }
def UnitEndsUptoCardSaid : Prop := Claim7.holds Tryz.pinned (.plain (OpenSpec.upto unitEndsSpec)) unitEndsUptoCard
end Rows
end Go.Proofs.YtbkecaenjjlmoaaGreatDoor
