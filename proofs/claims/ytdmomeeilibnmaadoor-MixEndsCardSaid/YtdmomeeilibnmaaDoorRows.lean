/-
  NARROWER THAN 'FOR EVERY INPUT', by the rows' own cells (each row's printed sentence says how): MixTells: laid · MixEnds: laid · MixRuns: laid · MixParts: laid.
  DERIVED. THE GIVEN ROWS OF THIS SEAT. 4 by the template 'for every input the law returns true; each argument reads behind the call as it read before'; 0 by the template 'total and deterministic' (their statements: YtdmomeeilibnmaaDoorTotals.lean).
  GIVEN WITH THE SEED: the statements are not yours to turn. If you find one false, say at which input.
  Laid BY PROGRAM, IN A SANDBOX (cutbox-rows.mjs): the forced cells as the released guide's own fill.sh prints them over the translation 05d048d24074a693… (all of the seat's roots in one cut). By AI agents, Wed Nov 11 2026. No macro, syntax, notation, axiom, sorry.
-/
import Derived.Test.YtdmomeeilibnmaaDoorChecked
import GoSem.Claim
import GoSem.ClaimJoined
import GoSem.ClaimMapViews
import Derived.JoinedTies
import Derived.KernelRfl
namespace Go.Proofs.YtdmomeeilibnmaaDoor
/- THE CELL 'sum', in the pinned program and in every row, IS THE sha256 OF THE DUMP (.gsa) THAT YtdmomeeilibnmaaDoorProg.lean LOADS. Nothing in Lean hashes anything: it is a label: what it is worth is what the hold of that sum in a sandbox is worth. -/
noncomputable def Tryd.pinned : Pinned := { name := "ytdmomeeilibnmaadoor", sum := "05d048d24074a693792a9286ab79f594f1a50cb33722acf3c89050cbeeeded70", checked := Tryd.checked }
namespace Rows
def none {H : Type} : Left H := { results := [], args := [] }

/- WHAT THE LISTED PACKAGE-LEVEL VARIABLES READ AS WHEN THE CALL BEGINS. Each datum BY PROGRAM (the guide's laid-datum.mjs) off the statement by which the dump's own 'gosem.cut.vars' lays the variable. In a bare row this is a premise. The card (YtdmomeeilibnmaaDoorCards.lean) ties it to the program's text. -/
def laid_limpet_mix_errSum {H : Type} : DataW H := .iface "*errors.errorString" (.ptr (.agg [.lit (.string [116, 104, 101, 32, 115, 117, 109, 32, 100, 111, 101, 115, 32, 110, 111, 116, 32, 102, 105, 116])]))

/-- 'limpetlaw01.MixTells': WHATEVER THE INPUT: true; the input reads as it did. -/
def mixTellsSpec : ChangeSpec := { name := "mixTells", fn := fun _ => fun
  | [d1, d2, d3, d4] => { results := [.lit (.bool true)], args := [d1, d2, d3, d4] }
  | _ => none }
def mixTellsRow : OpenClaim := { program := "ytdmomeeilibnmaadoor", sum := "05d048d24074a693792a9286ab79f594f1a50cb33722acf3c89050cbeeeded70", func := "limpet/limpetlaw01.MixTells", spec := "mixTells", inPlace := ["internal/reflectlite.TypeOf"], unfollowed := true, recurses := true, named := ["limpet/mix.errSum"], apart := false, laid := [("limpet/mix.errSum", laid_limpet_mix_errSum)] }
def MixTellsSaid : Prop := mixTellsRow.holds Tryd.pinned (OpenSpec.ofChange mixTellsSpec)

/-- ITS FALSE NEIGHBOUR: 'it returns false'. Refute it at one input. -/
def mixTellsWrong : ChangeSpec := { name := "mixTells", fn := fun _ => fun
  | [d1, d2, d3, d4] => { results := [.lit (.bool false)], args := [d1, d2, d3, d4] }
  | _ => none }
def MixTellsWrongFalsely : Prop := mixTellsRow.holds Tryd.pinned (OpenSpec.ofChange mixTellsWrong)

/-- 'limpetlaw01.MixEnds': WHATEVER THE INPUT: true; the input reads as it did. -/
def mixEndsSpec : ChangeSpec := { name := "mixEnds", fn := fun _ => fun
  | [] => { results := [.lit (.bool true)], args := [] }
  | _ => none }
def mixEndsRow : OpenClaim := { program := "ytdmomeeilibnmaadoor", sum := "05d048d24074a693792a9286ab79f594f1a50cb33722acf3c89050cbeeeded70", func := "limpet/limpetlaw01.MixEnds", spec := "mixEnds", inPlace := ["internal/reflectlite.TypeOf"], unfollowed := true, recurses := true, named := ["limpet/mix.errSum"], apart := false, laid := [("limpet/mix.errSum", laid_limpet_mix_errSum)] }
def MixEndsSaid : Prop := mixEndsRow.holds Tryd.pinned (OpenSpec.ofChange mixEndsSpec)

/-- ITS FALSE NEIGHBOUR: 'it returns false'. Refute it at one input. -/
def mixEndsWrong : ChangeSpec := { name := "mixEnds", fn := fun _ => fun
  | [] => { results := [.lit (.bool false)], args := [] }
  | _ => none }
def MixEndsWrongFalsely : Prop := mixEndsRow.holds Tryd.pinned (OpenSpec.ofChange mixEndsWrong)

/-- 'limpetlaw01.MixRuns': WHATEVER THE INPUT: true; the input reads as it did. -/
def mixRunsSpec : ChangeSpec := { name := "mixRuns", fn := fun _ => fun
  | [d1, d2, d3] => { results := [.lit (.bool true)], args := [d1, d2, d3] }
  | _ => none }
def mixRunsRow : OpenClaim := { program := "ytdmomeeilibnmaadoor", sum := "05d048d24074a693792a9286ab79f594f1a50cb33722acf3c89050cbeeeded70", func := "limpet/limpetlaw01.MixRuns", spec := "mixRuns", inPlace := ["internal/reflectlite.TypeOf"], unfollowed := true, recurses := true, named := ["limpet/mix.errSum"], apart := false, laid := [("limpet/mix.errSum", laid_limpet_mix_errSum)] }
def MixRunsSaid : Prop := mixRunsRow.holds Tryd.pinned (OpenSpec.ofChange mixRunsSpec)

/-- ITS FALSE NEIGHBOUR: 'it returns false'. Refute it at one input. -/
def mixRunsWrong : ChangeSpec := { name := "mixRuns", fn := fun _ => fun
  | [d1, d2, d3] => { results := [.lit (.bool false)], args := [d1, d2, d3] }
  | _ => none }
def MixRunsWrongFalsely : Prop := mixRunsRow.holds Tryd.pinned (OpenSpec.ofChange mixRunsWrong)

/-- 'limpetlaw01.MixParts': WHATEVER THE INPUT: true; the input reads as it did. -/
def mixPartsSpec : ChangeSpec := { name := "mixParts", fn := fun _ => fun
  | [d1, d2, d3] => { results := [.lit (.bool true)], args := [d1, d2, d3] }
  | _ => none }
def mixPartsRow : OpenClaim := { program := "ytdmomeeilibnmaadoor", sum := "05d048d24074a693792a9286ab79f594f1a50cb33722acf3c89050cbeeeded70", func := "limpet/limpetlaw01.MixParts", spec := "mixParts", inPlace := ["internal/reflectlite.TypeOf"], unfollowed := true, recurses := true, named := ["limpet/mix.errSum"], apart := false, laid := [("limpet/mix.errSum", laid_limpet_mix_errSum)] }
def MixPartsSaid : Prop := mixPartsRow.holds Tryd.pinned (OpenSpec.ofChange mixPartsSpec)

/-- ITS FALSE NEIGHBOUR: 'it returns false'. Refute it at one input. -/
def mixPartsWrong : ChangeSpec := { name := "mixParts", fn := fun _ => fun
  | [d1, d2, d3] => { results := [.lit (.bool false)], args := [d1, d2, d3] }
  | _ => none }
def MixPartsWrongFalsely : Prop := mixPartsRow.holds Tryd.pinned (OpenSpec.ofChange mixPartsWrong)

/- THE SECOND FORM. 'bulk': how many values and letters a reading holds, each counted each time it is reached (what is shared counts as often as it is met; a slice's spare places count too). A statement '..UptoSaid' is the law's where the arguments, and the package variables that the reading takes, are together of bulk at most 1048576: NARROWER than '..Said'. Prove '..Said' where nothing that the law and all that it calls make is longer than what came in: it says more and counts as full. Else prove '..UptoSaid'. A law counts once. -/
mutual
def uptoBulk {H : Type} : DataW H → Nat
  | .lit (.string bytes) => bytes.length + 1
  | .lit _ => 1
  | .nil => 1
  | .ptr d => uptoBulk d + 1
  | .slice elems spare => uptoBulkAll elems + uptoBulkAll spare + 1
  | .agg parts => uptoBulkAll parts + 1
  | .iface _ d => uptoBulk d + 1
  | .map entries => uptoBulkEntries entries + 1
  | .held _ => 1
def uptoBulkAll {H : Type} : List (DataW H) → Nat
  | [] => 0
  | d :: r => uptoBulk d + uptoBulkAll r
def uptoBulkEntries {H : Type} : List (Lit × DataW H) → Nat
  | [] => 0
  | x :: r => uptoBulkEntry x + uptoBulkEntries r
def uptoBulkEntry {H : Type} : Lit × DataW H → Nat
  | (.string bytes, d) => bytes.length + uptoBulk d + 1
  | (_, d) => uptoBulk d + 1
 end
def uptoSmall : (H : Type) → List (DataW H) → Bool := fun _ ds => decide (uptoBulkAll ds ≤ 1048576)
def OpenSpec.upto (s : _root_.Go.ChangeSpec) : _root_.Go.OpenSpec := { _root_.Go.OpenSpec.ofChange s with cond := some uptoSmall }

/-- 'limpetlaw01.MixTells', WHERE WHAT IT READS IS OF BULK AT MOST 1048576: true; the input reads as it did. -/
def mixTellsUptoRow : OpenClaim := { program := "ytdmomeeilibnmaadoor", sum := "05d048d24074a693792a9286ab79f594f1a50cb33722acf3c89050cbeeeded70", func := "limpet/limpetlaw01.MixTells", spec := "mixTells", inPlace := ["internal/reflectlite.TypeOf"], unfollowed := true, recurses := true, named := ["limpet/mix.errSum"], apart := false, laid := [("limpet/mix.errSum", laid_limpet_mix_errSum)], narrowed := true }
def MixTellsUptoSaid : Prop := mixTellsUptoRow.holds Tryd.pinned (OpenSpec.upto mixTellsSpec)

/-- 'limpetlaw01.MixEnds', WHERE WHAT IT READS IS OF BULK AT MOST 1048576: true; the input reads as it did. -/
def mixEndsUptoRow : OpenClaim := { program := "ytdmomeeilibnmaadoor", sum := "05d048d24074a693792a9286ab79f594f1a50cb33722acf3c89050cbeeeded70", func := "limpet/limpetlaw01.MixEnds", spec := "mixEnds", inPlace := ["internal/reflectlite.TypeOf"], unfollowed := true, recurses := true, named := ["limpet/mix.errSum"], apart := false, laid := [("limpet/mix.errSum", laid_limpet_mix_errSum)], narrowed := true }
def MixEndsUptoSaid : Prop := mixEndsUptoRow.holds Tryd.pinned (OpenSpec.upto mixEndsSpec)

/-- 'limpetlaw01.MixRuns', WHERE WHAT IT READS IS OF BULK AT MOST 1048576: true; the input reads as it did. -/
def mixRunsUptoRow : OpenClaim := { program := "ytdmomeeilibnmaadoor", sum := "05d048d24074a693792a9286ab79f594f1a50cb33722acf3c89050cbeeeded70", func := "limpet/limpetlaw01.MixRuns", spec := "mixRuns", inPlace := ["internal/reflectlite.TypeOf"], unfollowed := true, recurses := true, named := ["limpet/mix.errSum"], apart := false, laid := [("limpet/mix.errSum", laid_limpet_mix_errSum)], narrowed := true }
def MixRunsUptoSaid : Prop := mixRunsUptoRow.holds Tryd.pinned (OpenSpec.upto mixRunsSpec)

/-- 'limpetlaw01.MixParts', WHERE WHAT IT READS IS OF BULK AT MOST 1048576: true; the input reads as it did. -/
def mixPartsUptoRow : OpenClaim := { program := "ytdmomeeilibnmaadoor", sum := "05d048d24074a693792a9286ab79f594f1a50cb33722acf3c89050cbeeeded70", func := "limpet/limpetlaw01.MixParts", spec := "mixParts", inPlace := ["internal/reflectlite.TypeOf"], unfollowed := true, recurses := true, named := ["limpet/mix.errSum"], apart := false, laid := [("limpet/mix.errSum", laid_limpet_mix_errSum)], narrowed := true }
def MixPartsUptoSaid : Prop := mixPartsUptoRow.holds Tryd.pinned (OpenSpec.upto mixPartsSpec)

end Rows
end Go.Proofs.YtdmomeeilibnmaaDoor
