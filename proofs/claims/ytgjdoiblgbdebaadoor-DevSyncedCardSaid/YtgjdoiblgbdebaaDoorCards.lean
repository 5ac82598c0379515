/-
  DERIVED. GIVEN WITH THE SEED: THE CARDS: each row of YtgjdoiblgbdebaaDoorRows.lean that lists a variable, with what it lists TIED to the program's text (the seventh form; the later family's looks); each row that meets fmt, with fmt's text TOLD by the authors' own Lean function (tested against real Go, not proved from fmt's source: count such statements apart). THE CARD IS WHAT COUNTS. Prove the row's statement (the work); the ties are given (YtgjdoiblgbdebaaDoorTie.lean); close each card by the builder's one call (the guide's Derived/Test/ToyasCard.lean, 'card_holds'). Laid BY PROGRAM, IN A SANDBOX (cutbox-door.mjs). By AI agents, Wed Nov 11 2026. No macro, syntax, notation, axiom, sorry.
-/
import Derived.Test.YtgjdoiblgbdebaaDoorRows
import GoSem.ClaimSeven
namespace Go.Proofs.YtgjdoiblgbdebaaDoor
namespace Rows

/-- THE TIED CARD OF 'limpetlaw03.DevDoes'. -/
def devDoesCard : Claim7 := { stood := { row := devDoesRow, standIns := [], harness := (true, "1c3c61435946ce2d175e4d38d0501dcc3810d7cc897ac82f5f43a689440c0eea"), looks := true }, kinds := [], alts := [], laidByText := true, laidKinds := [.sentinel, .sentinel, .sentinel, .sentinel, .sentinel, .sentinel], laidTests := true, laidLooks := .later }
def DevDoesCardSaid : Prop := Claim7.holds Tryd.pinned (.plain (OpenSpec.ofChange devDoesSpec)) devDoesCard

/-- THE TIED CARD OF 'limpetlaw03.DevWakes'. -/
def devWakesCard : Claim7 := { stood := { row := devWakesRow, standIns := [], harness := (true, "1c3c61435946ce2d175e4d38d0501dcc3810d7cc897ac82f5f43a689440c0eea"), looks := true }, kinds := [], alts := [], laidByText := true, laidKinds := [.sentinel, .sentinel, .sentinel, .sentinel, .sentinel, .sentinel], laidTests := true, laidLooks := .later }
def DevWakesCardSaid : Prop := Claim7.holds Tryd.pinned (.plain (OpenSpec.ofChange devWakesSpec)) devWakesCard

/-- THE TIED CARD OF 'limpetlaw03.DevSynced'. -/
def devSyncedCard : Claim7 := { stood := { row := devSyncedRow, standIns := [], harness := (true, "1c3c61435946ce2d175e4d38d0501dcc3810d7cc897ac82f5f43a689440c0eea"), looks := true }, kinds := [], alts := [], laidByText := true, laidKinds := [.sentinel, .sentinel, .sentinel, .sentinel, .sentinel], laidTests := true, laidLooks := .later }
def DevSyncedCardSaid : Prop := Claim7.holds Tryd.pinned (.plain (OpenSpec.ofChange devSyncedSpec)) devSyncedCard

/-- THE TIED CARD OF 'limpetlaw03.DevHurts'. -/
def devHurtsCard : Claim7 := { stood := { row := devHurtsRow, standIns := [], harness := (true, "1c3c61435946ce2d175e4d38d0501dcc3810d7cc897ac82f5f43a689440c0eea"), looks := true }, kinds := [], alts := [], laidByText := true, laidKinds := [.sentinel, .sentinel, .sentinel, .sentinel, .sentinel, .sentinel], laidTests := true, laidLooks := .later }
def DevHurtsCardSaid : Prop := Claim7.holds Tryd.pinned (.plain (OpenSpec.ofChange devHurtsSpec)) devHurtsCard

/-- THE SECOND FORM's CARD OF 'limpetlaw03.DevDoes'. -/
def devDoesUptoCard : Claim7 := { stood := { row := devDoesUptoRow, standIns := [], harness := (true, "1c3c61435946ce2d175e4d38d0501dcc3810d7cc897ac82f5f43a689440c0eea"), looks := true }, kinds := [], alts := [], laidByText := true, laidKinds := [.sentinel, .sentinel, .sentinel, .sentinel, .sentinel, .sentinel], laidTests := true, laidLooks := .later }
def DevDoesUptoCardSaid : Prop := Claim7.holds Tryd.pinned (.plain (OpenSpec.upto devDoesSpec)) devDoesUptoCard

/-- THE SECOND FORM's CARD OF 'limpetlaw03.DevWakes'. -/
def devWakesUptoCard : Claim7 := { stood := { row := devWakesUptoRow, standIns := [], harness := (true, "1c3c61435946ce2d175e4d38d0501dcc3810d7cc897ac82f5f43a689440c0eea"), looks := true }, kinds := [], alts := [], laidByText := true, laidKinds := [.sentinel, .sentinel, .sentinel, .sentinel, .sentinel, .sentinel], laidTests := true, laidLooks := .later }
def DevWakesUptoCardSaid : Prop := Claim7.holds Tryd.pinned (.plain (OpenSpec.upto devWakesSpec)) devWakesUptoCard

/-- THE SECOND FORM's CARD OF 'limpetlaw03.DevSynced'. -/
def devSyncedUptoCard : Claim7 := { stood := { row := devSyncedUptoRow, standIns := [], harness := (true, "1c3c61435946ce2d175e4d38d0501dcc3810d7cc897ac82f5f43a689440c0eea"), looks := true }, kinds := [], alts := [], laidByText := true, laidKinds := [.sentinel, .sentinel, .sentinel, .sentinel, .sentinel], laidTests := true, laidLooks := .later }
def DevSyncedUptoCardSaid : Prop := Claim7.holds Tryd.pinned (.plain (OpenSpec.upto devSyncedSpec)) devSyncedUptoCard

/-- THE SECOND FORM's CARD OF 'limpetlaw03.DevHurts'. -/
def devHurtsUptoCard : Claim7 := { stood := { row := devHurtsUptoRow, standIns := [], harness := (true, "1c3c61435946ce2d175e4d38d0501dcc3810d7cc897ac82f5f43a689440c0eea"), looks := true }, kinds := [], alts := [], laidByText := true, laidKinds := [.sentinel, .sentinel, .sentinel, .sentinel, .sentinel, .sentinel], laidTests := true, laidLooks := .later }
def DevHurtsUptoCardSaid : Prop := Claim7.holds Tryd.pinned (.plain (OpenSpec.upto devHurtsSpec)) devHurtsUptoCard
end Rows
end Go.Proofs.YtgjdoiblgbdebaaDoor
