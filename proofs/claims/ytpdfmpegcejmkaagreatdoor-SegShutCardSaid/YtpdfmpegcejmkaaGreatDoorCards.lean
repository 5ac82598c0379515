/-
  DERIVED. GIVEN WITH THE SEED: THE CARDS: each row of YtpdfmpegcejmkaaGreatDoorRows.lean that lists a variable, with what it lists TIED to the program's text (the seventh form; the later family's looks); each row that meets fmt, with fmt's text TOLD by the authors' own Lean function (tested against real Go, not proved from fmt's source: count such statements apart). THE CARD IS WHAT COUNTS. Prove the row's statement (the work); the ties are given (YtpdfmpegcejmkaaGreatDoorTie.lean); close each card by the builder's one call (the guide's Derived/Test/ToyasCard.lean, 'card_holds'). Laid BY PROGRAM, IN A SANDBOX (cutbox-door.mjs). By AI agents, Wed Nov 11 2026. No macro, syntax, notation, axiom, sorry.
-/
import Derived.Test.YtpdfmpegcejmkaaGreatDoorRows
import GoSem.ClaimSeven
namespace Go.Proofs.YtpdfmpegcejmkaaGreatDoor
namespace Rows

/-- THE TIED CARD OF 'limpetlaw08.SegHeads'. -/
def segHeadsCard : Claim7 := { stood := { row := segHeadsRow, standIns := [], harness := (true, "00768424f4d306633394f00dab82194b4395256f535bb2a596809d03d662d329"), looks := true }, kinds := [], alts := [], laidByText := true, laidKinds := [.handle, .sentinel, .sentinel, .sentinel, .sentinel, .sentinel, .sentinel, .sentinel, .sentinel, .sentinel, .sentinel, .sentinel, .sentinel, .sentinel, .sentinel, .sentinel, .sentinel, .sentinel, .sentinel, .sentinel], laidTests := true, laidLooks := .later }
def SegHeadsCardSaid : Prop := Claim7.holds Tryz.pinned (.plain (OpenSpec.ofChange segHeadsSpec)) segHeadsCard

/-- THE TIED CARD OF 'limpetlaw08.SegEnds'. -/
def segEndsCard : Claim7 := { stood := { row := segEndsRow, standIns := [], harness := (true, "00768424f4d306633394f00dab82194b4395256f535bb2a596809d03d662d329"), looks := true }, kinds := [], alts := [], laidByText := true, laidKinds := [.handle, .sentinel, .sentinel, .sentinel, .sentinel, .sentinel, .sentinel, .sentinel, .sentinel, .sentinel, .sentinel, .sentinel, .sentinel, .sentinel, .sentinel, .sentinel, .sentinel, .sentinel, .sentinel, .sentinel], laidTests := true, laidLooks := .later }
def SegEndsCardSaid : Prop := Claim7.holds Tryz.pinned (.plain (OpenSpec.ofChange segEndsSpec)) segEndsCard

/-- THE TIED CARD OF 'limpetlaw08.SegBack'. -/
def segBackCard : Claim7 := { stood := { row := segBackRow, standIns := [], harness := (true, "00768424f4d306633394f00dab82194b4395256f535bb2a596809d03d662d329"), looks := true }, kinds := [], alts := [], laidByText := true, laidKinds := [.handle, .sentinel, .sentinel, .sentinel, .sentinel, .sentinel, .sentinel, .sentinel, .sentinel, .sentinel, .sentinel, .sentinel, .sentinel, .sentinel, .sentinel, .sentinel, .sentinel, .sentinel], laidTests := true, laidLooks := .later }
def SegBackCardSaid : Prop := Claim7.holds Tryz.pinned (.plain (OpenSpec.ofChange segBackSpec)) segBackCard

/-- THE TIED CARD OF 'limpetlaw08.SegShut'. -/
def segShutCard : Claim7 := { stood := { row := segShutRow, standIns := [], harness := (true, "00768424f4d306633394f00dab82194b4395256f535bb2a596809d03d662d329"), looks := true }, kinds := [], alts := [], laidByText := true, laidKinds := [.handle, .sentinel, .sentinel, .sentinel, .sentinel, .sentinel, .sentinel, .sentinel, .sentinel, .sentinel, .sentinel, .sentinel, .sentinel, .sentinel, .sentinel, .sentinel, .sentinel, .sentinel, .sentinel, .sentinel], laidTests := true, laidLooks := .later }
def SegShutCardSaid : Prop := Claim7.holds Tryz.pinned (.plain (OpenSpec.ofChange segShutSpec)) segShutCard

/-- THE SECOND FORM's CARD OF 'limpetlaw08.SegHeads'. -/
def segHeadsUptoCard : Claim7 := { stood := { row := segHeadsUptoRow, standIns := [], harness := (true, "00768424f4d306633394f00dab82194b4395256f535bb2a596809d03d662d329"), looks := true }, kinds := [], alts := [], laidByText := true, laidKinds := [.handle, .sentinel, .sentinel, .sentinel, .sentinel, .sentinel, .sentinel, .sentinel, .sentinel, .sentinel, .sentinel, .sentinel, .sentinel, .sentinel, .sentinel, .sentinel, .sentinel, .sentinel, .sentinel, .sentinel], laidTests := true, laidLooks := .later }
def SegHeadsUptoCardSaid : Prop := Claim7.holds Tryz.pinned (.plain (OpenSpec.upto segHeadsSpec)) segHeadsUptoCard

/-- THE SECOND FORM's CARD OF 'limpetlaw08.SegEnds'. -/
def segEndsUptoCard : Claim7 := { stood := { row := segEndsUptoRow, standIns := [], harness := (true, "00768424f4d306633394f00dab82194b4395256f535bb2a596809d03d662d329"), looks := true }, kinds := [], alts := [], laidByText := true, laidKinds := [.handle, .sentinel, .sentinel, .sentinel, .sentinel, .sentinel, .sentinel, .sentinel, .sentinel, .sentinel, .sentinel, .sentinel, .sentinel, .sentinel, .sentinel, .sentinel, .sentinel, .sentinel, .sentinel, .sentinel], laidTests := true, laidLooks := .later }
def SegEndsUptoCardSaid : Prop := Claim7.holds Tryz.pinned (.plain (OpenSpec.upto segEndsSpec)) segEndsUptoCard

/-- THE SECOND FORM's CARD OF 'limpetlaw08.SegBack'. -/
def segBackUptoCard : Claim7 := { stood := { row := segBackUptoRow, standIns := [], harness := (true, "00768424f4d306633394f00dab82194b4395256f535bb2a596809d03d662d329"), looks := true }, kinds := [], alts := [], laidByText := true, laidKinds := [.handle, .sentinel, .sentinel, .sentinel, .sentinel, .sentinel, .sentinel, .sentinel, .sentinel, .sentinel, .sentinel, .sentinel, .sentinel, .sentinel, .sentinel, .sentinel, .sentinel, .sentinel], laidTests := true, laidLooks := .later }
def SegBackUptoCardSaid : Prop := Claim7.holds Tryz.pinned (.plain (OpenSpec.upto segBackSpec)) segBackUptoCard

/-- THE SECOND FORM's CARD OF 'limpetlaw08.SegShut'. -/
def segShutUptoCard : Claim7 := { stood := { row := segShutUptoRow, standIns := [], harness := (true, "00768424f4d306633394f00dab82194b4395256f535bb2a596809d03d662d329"), looks := true }, kinds := [], alts := [], laidByText := true, laidKinds := [.handle, .sentinel, .sentinel, .sentinel, .sentinel, .sentinel, .sentinel, .sentinel, .sentinel, .sentinel, .sentinel, .sentinel, .sentinel, .sentinel, .sentinel, .sentinel, .sentinel, .sentinel, .sentinel, .sentinel], laidTests := true, laidLooks := .later }
def SegShutUptoCardSaid : Prop := Claim7.holds Tryz.pinned (.plain (OpenSpec.upto segShutSpec)) segShutUptoCard
end Rows
end Go.Proofs.YtpdfmpegcejmkaaGreatDoor
