/-
  NARROWER THAN 'FOR EVERY INPUT', by the rows' own cells (each row's printed sentence says how): DevDoes: laid · DevWakes: laid · DevSynced: laid · DevHurts: laid.
  DERIVED. THE GIVEN ROWS OF THIS SEAT. 4 by the template 'for every input the law returns true; each argument reads behind the call as it read before'; 0 by the template 'total and deterministic' (their statements: YtgjdoiblgbdebaaDoorTotals.lean).
  GIVEN WITH THE SEED: the statements are not yours to turn. If you find one false, say at which input.
  Laid BY PROGRAM, IN A SANDBOX (cutbox-rows.mjs): the forced cells as the released guide's own fill.sh prints them over the translation 4f0b8b5cfb8af60d… (all of the seat's roots in one cut). By AI agents, Wed Nov 11 2026. No macro, syntax, notation, axiom, sorry.
-/
import Derived.Test.YtgjdoiblgbdebaaDoorChecked
import GoSem.Claim
import GoSem.ClaimJoined
import GoSem.ClaimMapViews
import Derived.JoinedTies
import Derived.KernelRfl
namespace Go.Proofs.YtgjdoiblgbdebaaDoor
/- THE CELL 'sum', in the pinned program and in every row, IS THE sha256 OF THE DUMP (.gsa) THAT YtgjdoiblgbdebaaDoorProg.lean LOADS. Nothing in Lean hashes anything: it is a label: what it is worth is what the hold of that sum in a sandbox is worth. -/
noncomputable def Tryd.pinned : Pinned := { name := "ytgjdoiblgbdebaadoor", sum := "4f0b8b5cfb8af60d14561e08f8317e5a69961e0dc4fbd91353ae295283ec67e1", checked := Tryd.checked }
namespace Rows
def none {H : Type} : Left H := { results := [], args := [] }

/- WHAT THE LISTED PACKAGE-LEVEL VARIABLES READ AS WHEN THE CALL BEGINS. Each datum BY PROGRAM (the guide's laid-datum.mjs) off the statement by which the dump's own 'gosem.cut.vars' lays the variable. In a bare row this is a premise. The card (YtgjdoiblgbdebaaDoorCards.lean) ties it to the program's text. -/
def laid_limpet_dev_errNil {H : Type} : DataW H := .iface "*errors.errorString" (.ptr (.agg [.lit (.string [116, 104, 101, 114, 101, 32, 105, 115, 32, 110, 111, 32, 100, 105, 115, 107])]))
def laid_limpet_dev_errDown {H : Type} : DataW H := .iface "*errors.errorString" (.ptr (.agg [.lit (.string [116, 104, 101, 32, 100, 105, 115, 107, 32, 105, 115, 32, 100, 111, 119, 110])]))
def laid_limpet_dev_errBlock {H : Type} : DataW H := .iface "*errors.errorString" (.ptr (.agg [.lit (.string [116, 104, 101, 114, 101, 32, 105, 115, 32, 110, 111, 32, 115, 117, 99, 104, 32, 98, 108, 111, 99, 107])]))
def laid_limpet_dev_errLong {H : Type} : DataW H := .iface "*errors.errorString" (.ptr (.agg [.lit (.string [97, 32, 98, 108, 111, 99, 107, 32, 104, 97, 115, 32, 110, 111, 116, 32, 115, 111, 32, 109, 97, 110, 121, 32, 98, 121, 116, 101, 115])]))
def laid_limpet_dev_errSame {H : Type} : DataW H := .iface "*errors.errorString" (.ptr (.agg [.lit (.string [110, 111, 116, 104, 105, 110, 103, 32, 119, 111, 117, 108, 100, 32, 98, 101, 32, 116, 117, 114, 110, 101, 100])]))
def laid_limpet_dev_errHurt {H : Type} : DataW H := .iface "*errors.errorString" (.ptr (.agg [.lit (.string [116, 104, 101, 32, 98, 108, 111, 99, 107, 32, 105, 115, 32, 104, 117, 114, 116, 32, 97, 108, 114, 101, 97, 100, 121])]))

/-- 'limpetlaw03.DevDoes': WHATEVER THE INPUT: true; the input reads as it did. -/
def devDoesSpec : ChangeSpec := { name := "devDoes", fn := fun _ => fun
  | [d1, d2] => { results := [.lit (.bool true)], args := [d1, d2] }
  | _ => none }
def devDoesRow : OpenClaim := { program := "ytgjdoiblgbdebaadoor", sum := "4f0b8b5cfb8af60d14561e08f8317e5a69961e0dc4fbd91353ae295283ec67e1", func := "limpet/limpetlaw03.DevDoes", spec := "devDoes", inPlace := ["internal/reflectlite.TypeOf"], unfollowed := true, recurses := true, named := ["limpet/dev.errLong", "limpet/dev.errBlock", "limpet/dev.errNil", "limpet/dev.errDown", "limpet/dev.errHurt", "limpet/dev.errSame"], apart := false, laid := [("limpet/dev.errNil", laid_limpet_dev_errNil), ("limpet/dev.errDown", laid_limpet_dev_errDown), ("limpet/dev.errBlock", laid_limpet_dev_errBlock), ("limpet/dev.errLong", laid_limpet_dev_errLong), ("limpet/dev.errSame", laid_limpet_dev_errSame), ("limpet/dev.errHurt", laid_limpet_dev_errHurt)] }
def DevDoesSaid : Prop := devDoesRow.holds Tryd.pinned (OpenSpec.ofChange devDoesSpec)

/-- ITS FALSE NEIGHBOUR: 'it returns false'. Refute it at one input. -/
def devDoesWrong : ChangeSpec := { name := "devDoes", fn := fun _ => fun
  | [d1, d2] => { results := [.lit (.bool false)], args := [d1, d2] }
  | _ => none }
def DevDoesWrongFalsely : Prop := devDoesRow.holds Tryd.pinned (OpenSpec.ofChange devDoesWrong)

/-- 'limpetlaw03.DevWakes': WHATEVER THE INPUT: true; the input reads as it did. -/
def devWakesSpec : ChangeSpec := { name := "devWakes", fn := fun _ => fun
  | [] => { results := [.lit (.bool true)], args := [] }
  | _ => none }
def devWakesRow : OpenClaim := { program := "ytgjdoiblgbdebaadoor", sum := "4f0b8b5cfb8af60d14561e08f8317e5a69961e0dc4fbd91353ae295283ec67e1", func := "limpet/limpetlaw03.DevWakes", spec := "devWakes", inPlace := ["internal/reflectlite.TypeOf"], unfollowed := true, recurses := true, named := ["limpet/dev.errLong", "limpet/dev.errBlock", "limpet/dev.errNil", "limpet/dev.errDown", "limpet/dev.errHurt", "limpet/dev.errSame"], apart := false, laid := [("limpet/dev.errNil", laid_limpet_dev_errNil), ("limpet/dev.errDown", laid_limpet_dev_errDown), ("limpet/dev.errBlock", laid_limpet_dev_errBlock), ("limpet/dev.errLong", laid_limpet_dev_errLong), ("limpet/dev.errSame", laid_limpet_dev_errSame), ("limpet/dev.errHurt", laid_limpet_dev_errHurt)] }
def DevWakesSaid : Prop := devWakesRow.holds Tryd.pinned (OpenSpec.ofChange devWakesSpec)

/-- ITS FALSE NEIGHBOUR: 'it returns false'. Refute it at one input. -/
def devWakesWrong : ChangeSpec := { name := "devWakes", fn := fun _ => fun
  | [] => { results := [.lit (.bool false)], args := [] }
  | _ => none }
def DevWakesWrongFalsely : Prop := devWakesRow.holds Tryd.pinned (OpenSpec.ofChange devWakesWrong)

/-- 'limpetlaw03.DevSynced': WHATEVER THE INPUT: true; the input reads as it did. -/
def devSyncedSpec : ChangeSpec := { name := "devSynced", fn := fun _ => fun
  | [d1, d2, d3, d4, d5, d6] => { results := [.lit (.bool true)], args := [d1, d2, d3, d4, d5, d6] }
  | _ => none }
def devSyncedRow : OpenClaim := { program := "ytgjdoiblgbdebaadoor", sum := "4f0b8b5cfb8af60d14561e08f8317e5a69961e0dc4fbd91353ae295283ec67e1", func := "limpet/limpetlaw03.DevSynced", spec := "devSynced", inPlace := ["internal/reflectlite.TypeOf"], unfollowed := true, recurses := true, named := ["limpet/dev.errLong", "limpet/dev.errBlock", "limpet/dev.errNil", "limpet/dev.errDown", "limpet/dev.errHurt"], apart := false, laid := [("limpet/dev.errNil", laid_limpet_dev_errNil), ("limpet/dev.errDown", laid_limpet_dev_errDown), ("limpet/dev.errBlock", laid_limpet_dev_errBlock), ("limpet/dev.errLong", laid_limpet_dev_errLong), ("limpet/dev.errHurt", laid_limpet_dev_errHurt)] }
def DevSyncedSaid : Prop := devSyncedRow.holds Tryd.pinned (OpenSpec.ofChange devSyncedSpec)

/-- ITS FALSE NEIGHBOUR: 'it returns false'. Refute it at one input. -/
def devSyncedWrong : ChangeSpec := { name := "devSynced", fn := fun _ => fun
  | [d1, d2, d3, d4, d5, d6] => { results := [.lit (.bool false)], args := [d1, d2, d3, d4, d5, d6] }
  | _ => none }
def DevSyncedWrongFalsely : Prop := devSyncedRow.holds Tryd.pinned (OpenSpec.ofChange devSyncedWrong)

/-- 'limpetlaw03.DevHurts': WHATEVER THE INPUT: true; the input reads as it did. -/
def devHurtsSpec : ChangeSpec := { name := "devHurts", fn := fun _ => fun
  | [d1, d2, d3, d4, d5] => { results := [.lit (.bool true)], args := [d1, d2, d3, d4, d5] }
  | _ => none }
def devHurtsRow : OpenClaim := { program := "ytgjdoiblgbdebaadoor", sum := "4f0b8b5cfb8af60d14561e08f8317e5a69961e0dc4fbd91353ae295283ec67e1", func := "limpet/limpetlaw03.DevHurts", spec := "devHurts", inPlace := ["internal/reflectlite.TypeOf"], unfollowed := true, recurses := true, named := ["limpet/dev.errLong", "limpet/dev.errBlock", "limpet/dev.errNil", "limpet/dev.errDown", "limpet/dev.errHurt", "limpet/dev.errSame"], apart := false, laid := [("limpet/dev.errNil", laid_limpet_dev_errNil), ("limpet/dev.errDown", laid_limpet_dev_errDown), ("limpet/dev.errBlock", laid_limpet_dev_errBlock), ("limpet/dev.errLong", laid_limpet_dev_errLong), ("limpet/dev.errSame", laid_limpet_dev_errSame), ("limpet/dev.errHurt", laid_limpet_dev_errHurt)] }
def DevHurtsSaid : Prop := devHurtsRow.holds Tryd.pinned (OpenSpec.ofChange devHurtsSpec)

/-- ITS FALSE NEIGHBOUR: 'it returns false'. Refute it at one input. -/
def devHurtsWrong : ChangeSpec := { name := "devHurts", fn := fun _ => fun
  | [d1, d2, d3, d4, d5] => { results := [.lit (.bool false)], args := [d1, d2, d3, d4, d5] }
  | _ => none }
def DevHurtsWrongFalsely : Prop := devHurtsRow.holds Tryd.pinned (OpenSpec.ofChange devHurtsWrong)

/- THE SECOND FORM. 'bulk': how many values and letters a reading holds, each counted each time it is reached (what is shared counts as often as it is met; a slice's spare places count too). A statement '..UptoSaid' is the law's where the arguments, and the package variables that the reading takes, are together of bulk at most 1048576: NARROWER than '..Said'. Prove '..Said' where nothing that the law and all that it calls make is longer than what came in: it says more and counts as full. Else prove '..UptoSaid'. A law counts once. -/
mutual
def uptoBulk {H : Type} : DataW H → Nat
  | .lit (.string bytes) => bytes.length + 1
  | .lit _ => 1
  | .nil => 1
  | .ptr d => uptoBulk d + 1
  | .slice elems spare => uptoBulkAll elems + uptoBulkAll spare + 1
  | .agg parts => uptoBulkAll parts + 1
  | .iface _ d => uptoBulk d + 1
  | .map entries => uptoBulkEntries entries + 1
  | .held _ => 1
def uptoBulkAll {H : Type} : List (DataW H) → Nat
  | [] => 0
  | d :: r => uptoBulk d + uptoBulkAll r
def uptoBulkEntries {H : Type} : List (Lit × DataW H) → Nat
  | [] => 0
  | x :: r => uptoBulkEntry x + uptoBulkEntries r
def uptoBulkEntry {H : Type} : Lit × DataW H → Nat
  | (.string bytes, d) => bytes.length + uptoBulk d + 1
  | (_, d) => uptoBulk d + 1
 end
def uptoSmall : (H : Type) → List (DataW H) → Bool := fun _ ds => decide (uptoBulkAll ds ≤ 1048576)
def OpenSpec.upto (s : _root_.Go.ChangeSpec) : _root_.Go.OpenSpec := { _root_.Go.OpenSpec.ofChange s with cond := some uptoSmall }

/-- 'limpetlaw03.DevDoes', WHERE WHAT IT READS IS OF BULK AT MOST 1048576: true; the input reads as it did. -/
def devDoesUptoRow : OpenClaim := { program := "ytgjdoiblgbdebaadoor", sum := "4f0b8b5cfb8af60d14561e08f8317e5a69961e0dc4fbd91353ae295283ec67e1", func := "limpet/limpetlaw03.DevDoes", spec := "devDoes", inPlace := ["internal/reflectlite.TypeOf"], unfollowed := true, recurses := true, named := ["limpet/dev.errLong", "limpet/dev.errBlock", "limpet/dev.errNil", "limpet/dev.errDown", "limpet/dev.errHurt", "limpet/dev.errSame"], apart := false, laid := [("limpet/dev.errNil", laid_limpet_dev_errNil), ("limpet/dev.errDown", laid_limpet_dev_errDown), ("limpet/dev.errBlock", laid_limpet_dev_errBlock), ("limpet/dev.errLong", laid_limpet_dev_errLong), ("limpet/dev.errSame", laid_limpet_dev_errSame), ("limpet/dev.errHurt", laid_limpet_dev_errHurt)], narrowed := true }
def DevDoesUptoSaid : Prop := devDoesUptoRow.holds Tryd.pinned (OpenSpec.upto devDoesSpec)

/-- 'limpetlaw03.DevWakes', WHERE WHAT IT READS IS OF BULK AT MOST 1048576: true; the input reads as it did. -/
def devWakesUptoRow : OpenClaim := { program := "ytgjdoiblgbdebaadoor", sum := "4f0b8b5cfb8af60d14561e08f8317e5a69961e0dc4fbd91353ae295283ec67e1", func := "limpet/limpetlaw03.DevWakes", spec := "devWakes", inPlace := ["internal/reflectlite.TypeOf"], unfollowed := true, recurses := true, named := ["limpet/dev.errLong", "limpet/dev.errBlock", "limpet/dev.errNil", "limpet/dev.errDown", "limpet/dev.errHurt", "limpet/dev.errSame"], apart := false, laid := [("limpet/dev.errNil", laid_limpet_dev_errNil), ("limpet/dev.errDown", laid_limpet_dev_errDown), ("limpet/dev.errBlock", laid_limpet_dev_errBlock), ("limpet/dev.errLong", laid_limpet_dev_errLong), ("limpet/dev.errSame", laid_limpet_dev_errSame), ("limpet/dev.errHurt", laid_limpet_dev_errHurt)], narrowed := true }
def DevWakesUptoSaid : Prop := devWakesUptoRow.holds Tryd.pinned (OpenSpec.upto devWakesSpec)

/-- 'limpetlaw03.DevSynced', WHERE WHAT IT READS IS OF BULK AT MOST 1048576: true; the input reads as it did. -/
def devSyncedUptoRow : OpenClaim := { program := "ytgjdoiblgbdebaadoor", sum := "4f0b8b5cfb8af60d14561e08f8317e5a69961e0dc4fbd91353ae295283ec67e1", func := "limpet/limpetlaw03.DevSynced", spec := "devSynced", inPlace := ["internal/reflectlite.TypeOf"], unfollowed := true, recurses := true, named := ["limpet/dev.errLong", "limpet/dev.errBlock", "limpet/dev.errNil", "limpet/dev.errDown", "limpet/dev.errHurt"], apart := false, laid := [("limpet/dev.errNil", laid_limpet_dev_errNil), ("limpet/dev.errDown", laid_limpet_dev_errDown), ("limpet/dev.errBlock", laid_limpet_dev_errBlock), ("limpet/dev.errLong", laid_limpet_dev_errLong), ("limpet/dev.errHurt", laid_limpet_dev_errHurt)], narrowed := true }
def DevSyncedUptoSaid : Prop := devSyncedUptoRow.holds Tryd.pinned (OpenSpec.upto devSyncedSpec)

/-- 'limpetlaw03.DevHurts', WHERE WHAT IT READS IS OF BULK AT MOST 1048576: true; the input reads as it did. -/
def devHurtsUptoRow : OpenClaim := { program := "ytgjdoiblgbdebaadoor", sum := "4f0b8b5cfb8af60d14561e08f8317e5a69961e0dc4fbd91353ae295283ec67e1", func := "limpet/limpetlaw03.DevHurts", spec := "devHurts", inPlace := ["internal/reflectlite.TypeOf"], unfollowed := true, recurses := true, named := ["limpet/dev.errLong", "limpet/dev.errBlock", "limpet/dev.errNil", "limpet/dev.errDown", "limpet/dev.errHurt", "limpet/dev.errSame"], apart := false, laid := [("limpet/dev.errNil", laid_limpet_dev_errNil), ("limpet/dev.errDown", laid_limpet_dev_errDown), ("limpet/dev.errBlock", laid_limpet_dev_errBlock), ("limpet/dev.errLong", laid_limpet_dev_errLong), ("limpet/dev.errSame", laid_limpet_dev_errSame), ("limpet/dev.errHurt", laid_limpet_dev_errHurt)], narrowed := true }
def DevHurtsUptoSaid : Prop := devHurtsUptoRow.holds Tryd.pinned (OpenSpec.upto devHurtsSpec)

end Rows
end Go.Proofs.YtgjdoiblgbdebaaDoor
