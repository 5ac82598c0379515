/-
  DERIVED. GIVEN WITH THE SEED: THE CARDS: each row of YtmmebaphhgggfaaDoorRows.lean that lists a variable, with what it lists TIED to the program's text (the seventh form; the later family's looks); each row that meets fmt, with fmt's text TOLD by the authors' own Lean function (tested against real Go, not proved from fmt's source: count such statements apart). THE CARD IS WHAT COUNTS. Prove the row's statement (the work); the ties are given (YtmmebaphhgggfaaDoorTie.lean); close each card by the builder's one call (the guide's Derived/Test/ToyasCard.lean, 'card_holds'). Laid BY PROGRAM, IN A SANDBOX (cutbox-door.mjs). By AI agents, Wed Nov 11 2026. No macro, syntax, notation, axiom, sorry.
-/
import Derived.Test.YtmmebaphhgggfaaDoorRows
import GoSem.ClaimSeven
namespace Go.Proofs.YtmmebaphhgggfaaDoor
namespace Rows

/-- THE TIED CARD OF 'limpetlaw04.UnitOne'. -/
def unitOneCard : Claim7 := { stood := { row := unitOneRow, standIns := [], harness := (true, "c4e639985f7084ab4f832d694568f10277bd69372c2f6d239994fba2f1c1cd1e"), looks := true }, kinds := [], alts := [], laidByText := true, laidKinds := [.handle, .sentinel, .sentinel, .sentinel, .sentinel, .sentinel, .sentinel, .sentinel, .sentinel, .sentinel, .sentinel, .sentinel, .sentinel], laidTests := true, laidLooks := .later }
def UnitOneCardSaid : Prop := Claim7.holds Tryd.pinned (.plain (OpenSpec.ofChange unitOneSpec)) unitOneCard

/-- THE SECOND FORM's CARD OF 'limpetlaw04.UnitOne'. -/
def unitOneUptoCard : Claim7 := { stood := { row := unitOneUptoRow, standIns := [], harness := (true, "c4e639985f7084ab4f832d694568f10277bd69372c2f6d239994fba2f1c1cd1e"), looks := true }, kinds := [], alts := [], laidByText := true, laidKinds := [.handle, .sentinel, .sentinel, .sentinel, .sentinel, .sentinel, .sentinel, .sentinel, .sentinel, .sentinel, .sentinel, .sentinel, .sentinel], laidTests := true, laidLooks := .later }
def UnitOneUptoCardSaid : Prop := Claim7.holds Tryd.pinned (.plain (OpenSpec.upto unitOneSpec)) unitOneUptoCard
end Rows
end Go.Proofs.YtmmebaphhgggfaaDoor
