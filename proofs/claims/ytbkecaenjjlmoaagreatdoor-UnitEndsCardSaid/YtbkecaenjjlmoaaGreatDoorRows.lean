/-
  NARROWER THAN 'FOR EVERY INPUT', by the rows' own cells (each row's printed sentence says how): UnitOpens: laid · UnitEnds: laid.
  DERIVED. THE GIVEN ROWS OF THIS SEAT. 2 by the template 'for every input the law returns true; each argument reads behind the call as it read before'; 0 by the template 'total and deterministic' (their statements: YtbkecaenjjlmoaaGreatDoorTotals.lean).
  GIVEN WITH THE SEED: the statements are not yours to turn. If you find one false, say at which input.
  Laid BY PROGRAM, IN A SANDBOX (cutbox-rows.mjs): the forced cells as the released guide's own fill.sh prints them over the translation e404d3e6e69269c8… (all of the seat's roots in one cut). By AI agents, Wed Nov 11 2026. No macro, syntax, notation, axiom, sorry.
-/
import Derived.Test.YtbkecaenjjlmoaaGreatDoorChecked
import GoSem.Claim
import GoSem.ClaimJoined
import GoSem.ClaimMapViews
import Derived.JoinedTies
import Derived.KernelRfl
namespace Go.Proofs.YtbkecaenjjlmoaaGreatDoor
/- THE CELL 'sum', in the pinned program and in every row, IS THE sha256 OF THE DUMP (.gsa) THAT YtbkecaenjjlmoaaGreatDoorProg.lean LOADS. Nothing in Lean hashes anything: it is a label: what it is worth is what the hold of that sum in a sandbox is worth. -/
noncomputable def Tryz.pinned : Pinned := { name := "ytbkecaenjjlmoaagreatdoor", sum := "e404d3e6e69269c8a5c4546754deb9c05804a64adb76fb2f5b41b09f89ecffcc", checked := Tryz.checked }
namespace Rows
def none {H : Type} : Left H := { results := [], args := [] }

/- WHAT THE LISTED PACKAGE-LEVEL VARIABLES READ AS WHEN THE CALL BEGINS. Each datum BY PROGRAM (the guide's laid-datum.mjs) off the statement by which the dump's own 'gosem.cut.vars' lays the variable. In a bare row this is a premise. The card (YtbkecaenjjlmoaaGreatDoorCards.lean) ties it to the program's text. -/
def laid_errors_errorType {H : Type} : DataW H := .iface "internal/reflectlite.rtype" (.agg [.ptr (.lit (.string [101, 114, 114, 111, 114]))])
def laid_limpet_code_errWidth {H : Type} : DataW H := .iface "*errors.errorString" (.ptr (.agg [.lit (.string [116, 104, 101, 114, 101, 32, 105, 115, 32, 110, 111, 32, 102, 105, 101, 108, 100, 32, 111, 102, 32, 116, 104, 105, 115, 32, 119, 105, 100, 116, 104])]))
def laid_limpet_code_errFew {H : Type} : DataW H := .iface "*errors.errorString" (.ptr (.agg [.lit (.string [116, 104, 101, 114, 101, 32, 97, 114, 101, 32, 116, 111, 111, 32, 102, 101, 119, 32, 98, 121, 116, 101, 115])]))
def laid_limpet_code_errGreat {H : Type} : DataW H := .iface "*errors.errorString" (.ptr (.agg [.lit (.string [116, 104, 101, 32, 110, 117, 109, 98, 101, 114, 32, 105, 115, 32, 97, 98, 111, 118, 101, 32, 116, 104, 101, 32, 103, 114, 101, 97, 116, 101, 115, 116, 32, 111, 110, 101])]))
def laid_limpet_code_errMuch {H : Type} : DataW H := .iface "*errors.errorString" (.ptr (.agg [.lit (.string [116, 104, 101, 114, 101, 32, 105, 115, 32, 109, 111, 114, 101, 32, 116, 104, 97, 110, 32, 119, 97, 115, 32, 97, 115, 107, 101, 100, 32, 102, 111, 114])]))
def laid_limpet_unit_errBytes {H : Type} : DataW H := .iface "*errors.errorString" (.ptr (.agg [.lit (.string [97, 32, 98, 108, 111, 99, 107, 32, 104, 97, 115, 32, 97, 110, 111, 116, 104, 101, 114, 32, 110, 117, 109, 98, 101, 114, 32, 111, 102, 32, 98, 121, 116, 101, 115])]))
def laid_limpet_unit_errKind {H : Type} : DataW H := .iface "*errors.errorString" (.ptr (.agg [.lit (.string [116, 104, 101, 114, 101, 32, 105, 115, 32, 110, 111, 32, 117, 110, 105, 116, 32, 111, 102, 32, 116, 104, 105, 115, 32, 107, 105, 110, 100])]))
def laid_limpet_unit_errSum {H : Type} : DataW H := .iface "*errors.errorString" (.ptr (.agg [.lit (.string [116, 104, 101, 32, 115, 117, 109, 32, 100, 111, 101, 115, 32, 110, 111, 116, 32, 102, 105, 116])]))
def laid_limpet_unit_errNum {H : Type} : DataW H := .iface "*errors.errorString" (.ptr (.agg [.lit (.string [116, 104, 101, 114, 101, 32, 105, 115, 32, 110, 111, 32, 117, 110, 105, 116, 32, 111, 102, 32, 116, 104, 105, 115, 32, 110, 117, 109, 98, 101, 114])]))
def laid_limpet_unit_errBody {H : Type} : DataW H := .iface "*errors.errorString" (.ptr (.agg [.lit (.string [97, 32, 98, 111, 100, 121, 32, 104, 97, 115, 32, 110, 111, 116, 32, 115, 111, 32, 109, 97, 110, 121, 32, 98, 121, 116, 101, 115])]))
def laid_limpet_unit_errNought {H : Type} : DataW H := .iface "*errors.errorString" (.ptr (.agg [.lit (.string [97, 32, 110, 111, 117, 103, 104, 116, 32, 109, 117, 115, 116, 32, 115, 116, 97, 110, 100, 32, 104, 101, 114, 101])]))
def laid_limpet_unit_errEnd {H : Type} : DataW H := .iface "*errors.errorString" (.ptr (.agg [.lit (.string [116, 104, 101, 32, 101, 110, 100, 32, 105, 115, 32, 97, 110, 111, 116, 104, 101, 114, 32, 111, 110, 101])]))
def laid_limpet_unit_errOther {H : Type} : DataW H := .iface "*errors.errorString" (.ptr (.agg [.lit (.string [116, 104, 101, 32, 117, 110, 105, 116, 32, 105, 115, 32, 97, 110, 111, 116, 104, 101, 114, 32, 111, 110, 101, 32, 116, 104, 97, 110, 32, 119, 97, 115, 32, 97, 115, 107, 101, 100, 32, 102, 111, 114])]))

/-- 'limpetlaw04.UnitOpens': WHATEVER THE INPUT: true; the input reads as it did. -/
def unitOpensSpec : ChangeSpec := { name := "unitOpens", fn := fun _ => fun
  | [d1, d2, d3] => { results := [.lit (.bool true)], args := [d1, d2, d3] }
  | _ => none }
def unitOpensRow : OpenClaim := { program := "ytbkecaenjjlmoaagreatdoor", sum := "e404d3e6e69269c8a5c4546754deb9c05804a64adb76fb2f5b41b09f89ecffcc", func := "limpet/limpetlaw04.UnitOpens", spec := "unitOpens", inPlace := ["internal/reflectlite.ValueOf", "(internal/reflectlite.Value).Type", "(internal/reflectlite.Value).IsNil", "internal/reflectlite.TypeOf", "(internal/reflectlite.Value).Elem", "(internal/reflectlite.Value).Set"], unfollowed := true, recurses := true, named := ["limpet/unit.errBytes", "limpet/unit.errKind", "limpet/unit.errSum", "limpet/code.errWidth", "limpet/code.errFew", "limpet/code.errGreat", "limpet/unit.errNum", "errors.errorType", "limpet/code.errMuch", "limpet/unit.errBody", "limpet/unit.errEnd", "limpet/unit.errNought", "limpet/unit.errOther"], apart := false, laid := [("errors.errorType", laid_errors_errorType), ("limpet/code.errWidth", laid_limpet_code_errWidth), ("limpet/code.errFew", laid_limpet_code_errFew), ("limpet/code.errGreat", laid_limpet_code_errGreat), ("limpet/code.errMuch", laid_limpet_code_errMuch), ("limpet/unit.errBytes", laid_limpet_unit_errBytes), ("limpet/unit.errKind", laid_limpet_unit_errKind), ("limpet/unit.errSum", laid_limpet_unit_errSum), ("limpet/unit.errNum", laid_limpet_unit_errNum), ("limpet/unit.errBody", laid_limpet_unit_errBody), ("limpet/unit.errNought", laid_limpet_unit_errNought), ("limpet/unit.errEnd", laid_limpet_unit_errEnd), ("limpet/unit.errOther", laid_limpet_unit_errOther)] }
def UnitOpensSaid : Prop := unitOpensRow.holds Tryz.pinned (OpenSpec.ofChange unitOpensSpec)

/-- ITS FALSE NEIGHBOUR: 'it returns false'. Refute it at one input. -/
def unitOpensWrong : ChangeSpec := { name := "unitOpens", fn := fun _ => fun
  | [d1, d2, d3] => { results := [.lit (.bool false)], args := [d1, d2, d3] }
  | _ => none }
def UnitOpensWrongFalsely : Prop := unitOpensRow.holds Tryz.pinned (OpenSpec.ofChange unitOpensWrong)

/-- 'limpetlaw04.UnitEnds': WHATEVER THE INPUT: true; the input reads as it did. -/
def unitEndsSpec : ChangeSpec := { name := "unitEnds", fn := fun _ => fun
  | [] => { results := [.lit (.bool true)], args := [] }
  | _ => none }
def unitEndsRow : OpenClaim := { program := "ytbkecaenjjlmoaagreatdoor", sum := "e404d3e6e69269c8a5c4546754deb9c05804a64adb76fb2f5b41b09f89ecffcc", func := "limpet/limpetlaw04.UnitEnds", spec := "unitEnds", inPlace := ["internal/reflectlite.ValueOf", "(internal/reflectlite.Value).Type", "(internal/reflectlite.Value).IsNil", "internal/reflectlite.TypeOf", "(internal/reflectlite.Value).Elem", "(internal/reflectlite.Value).Set"], unfollowed := true, recurses := true, named := ["limpet/unit.errBytes", "limpet/unit.errKind", "limpet/unit.errSum", "limpet/code.errWidth", "limpet/code.errFew", "limpet/code.errGreat", "limpet/unit.errNum", "errors.errorType", "limpet/code.errMuch", "limpet/unit.errBody", "limpet/unit.errEnd", "limpet/unit.errNought", "limpet/unit.errOther"], apart := false, laid := [("errors.errorType", laid_errors_errorType), ("limpet/code.errWidth", laid_limpet_code_errWidth), ("limpet/code.errFew", laid_limpet_code_errFew), ("limpet/code.errGreat", laid_limpet_code_errGreat), ("limpet/code.errMuch", laid_limpet_code_errMuch), ("limpet/unit.errBytes", laid_limpet_unit_errBytes), ("limpet/unit.errKind", laid_limpet_unit_errKind), ("limpet/unit.errSum", laid_limpet_unit_errSum), ("limpet/unit.errNum", laid_limpet_unit_errNum), ("limpet/unit.errBody", laid_limpet_unit_errBody), ("limpet/unit.errNought", laid_limpet_unit_errNought), ("limpet/unit.errEnd", laid_limpet_unit_errEnd), ("limpet/unit.errOther", laid_limpet_unit_errOther)] }
def UnitEndsSaid : Prop := unitEndsRow.holds Tryz.pinned (OpenSpec.ofChange unitEndsSpec)

/-- ITS FALSE NEIGHBOUR: 'it returns false'. Refute it at one input. -/
def unitEndsWrong : ChangeSpec := { name := "unitEnds", fn := fun _ => fun
  | [] => { results := [.lit (.bool false)], args := [] }
  | _ => none }
def UnitEndsWrongFalsely : Prop := unitEndsRow.holds Tryz.pinned (OpenSpec.ofChange unitEndsWrong)

/- THE SECOND FORM. 'bulk': how many values and letters a reading holds, each counted each time it is reached (what is shared counts as often as it is met; a slice's spare places count too). A statement '..UptoSaid' is the law's where the arguments, and the package variables that the reading takes, are together of bulk at most 1048576: NARROWER than '..Said'. Prove '..Said' where nothing that the law and all that it calls make is longer than what came in: it says more and counts as full. Else prove '..UptoSaid'. A law counts once. -/
mutual
def uptoBulk {H : Type} : DataW H → Nat
  | .lit (.string bytes) => bytes.length + 1
  | .lit _ => 1
  | .nil => 1
  | .ptr d => uptoBulk d + 1
  | .slice elems spare => uptoBulkAll elems + uptoBulkAll spare + 1
  | .agg parts => uptoBulkAll parts + 1
  | .iface _ d => uptoBulk d + 1
  | .map entries => uptoBulkEntries entries + 1
  | .held _ => 1
def uptoBulkAll {H : Type} : List (DataW H) → Nat
  | [] => 0
  | d :: r => uptoBulk d + uptoBulkAll r
def uptoBulkEntries {H : Type} : List (Lit × DataW H) → Nat
  | [] => 0
  | x :: r => uptoBulkEntry x + uptoBulkEntries r
def uptoBulkEntry {H : Type} : Lit × DataW H → Nat
  | (.string bytes, d) => bytes.length + uptoBulk d + 1
  | (_, d) => uptoBulk d + 1
 end
def uptoSmall : (H : Type) → List (DataW H) → Bool := fun _ ds => decide (uptoBulkAll ds ≤ 1048576)
def OpenSpec.upto (s : _root_.Go.ChangeSpec) : _root_.Go.OpenSpec := { _root_.Go.OpenSpec.ofChange s with cond := some uptoSmall }

/-- 'limpetlaw04.UnitOpens', WHERE WHAT IT READS IS OF BULK AT MOST 1048576: true; the input reads as it did. -/
def unitOpensUptoRow : OpenClaim := { program := "ytbkecaenjjlmoaagreatdoor", sum := "e404d3e6e69269c8a5c4546754deb9c05804a64adb76fb2f5b41b09f89ecffcc", func := "limpet/limpetlaw04.UnitOpens", spec := "unitOpens", inPlace := ["internal/reflectlite.ValueOf", "(internal/reflectlite.Value).Type", "(internal/reflectlite.Value).IsNil", "internal/reflectlite.TypeOf", "(internal/reflectlite.Value).Elem", "(internal/reflectlite.Value).Set"], unfollowed := true, recurses := true, named := ["limpet/unit.errBytes", "limpet/unit.errKind", "limpet/unit.errSum", "limpet/code.errWidth", "limpet/code.errFew", "limpet/code.errGreat", "limpet/unit.errNum", "errors.errorType", "limpet/code.errMuch", "limpet/unit.errBody", "limpet/unit.errEnd", "limpet/unit.errNought", "limpet/unit.errOther"], apart := false, laid := [("errors.errorType", laid_errors_errorType), ("limpet/code.errWidth", laid_limpet_code_errWidth), ("limpet/code.errFew", laid_limpet_code_errFew), ("limpet/code.errGreat", laid_limpet_code_errGreat), ("limpet/code.errMuch", laid_limpet_code_errMuch), ("limpet/unit.errBytes", laid_limpet_unit_errBytes), ("limpet/unit.errKind", laid_limpet_unit_errKind), ("limpet/unit.errSum", laid_limpet_unit_errSum), ("limpet/unit.errNum", laid_limpet_unit_errNum), ("limpet/unit.errBody", laid_limpet_unit_errBody), ("limpet/unit.errNought", laid_limpet_unit_errNought), ("limpet/unit.errEnd", laid_limpet_unit_errEnd), ("limpet/unit.errOther", laid_limpet_unit_errOther)], narrowed := true }
def UnitOpensUptoSaid : Prop := unitOpensUptoRow.holds Tryz.pinned (OpenSpec.upto unitOpensSpec)

/-- 'limpetlaw04.UnitEnds', WHERE WHAT IT READS IS OF BULK AT MOST 1048576: true; the input reads as it did. -/
def unitEndsUptoRow : OpenClaim := { program := "ytbkecaenjjlmoaagreatdoor", sum := "e404d3e6e69269c8a5c4546754deb9c05804a64adb76fb2f5b41b09f89ecffcc", func := "limpet/limpetlaw04.UnitEnds", spec := "unitEnds", inPlace := ["internal/reflectlite.ValueOf", "(internal/reflectlite.Value).Type", "(internal/reflectlite.Value).IsNil", "internal/reflectlite.TypeOf", "(internal/reflectlite.Value).Elem", "(internal/reflectlite.Value).Set"], unfollowed := true, recurses := true, named := ["limpet/unit.errBytes", "limpet/unit.errKind", "limpet/unit.errSum", "limpet/code.errWidth", "limpet/code.errFew", "limpet/code.errGreat", "limpet/unit.errNum", "errors.errorType", "limpet/code.errMuch", "limpet/unit.errBody", "limpet/unit.errEnd", "limpet/unit.errNought", "limpet/unit.errOther"], apart := false, laid := [("errors.errorType", laid_errors_errorType), ("limpet/code.errWidth", laid_limpet_code_errWidth), ("limpet/code.errFew", laid_limpet_code_errFew), ("limpet/code.errGreat", laid_limpet_code_errGreat), ("limpet/code.errMuch", laid_limpet_code_errMuch), ("limpet/unit.errBytes", laid_limpet_unit_errBytes), ("limpet/unit.errKind", laid_limpet_unit_errKind), ("limpet/unit.errSum", laid_limpet_unit_errSum), ("limpet/unit.errNum", laid_limpet_unit_errNum), ("limpet/unit.errBody", laid_limpet_unit_errBody), ("limpet/unit.errNought", laid_limpet_unit_errNought), ("limpet/unit.errEnd", laid_limpet_unit_errEnd), ("limpet/unit.errOther", laid_limpet_unit_errOther)], narrowed := true }
def UnitEndsUptoSaid : Prop := unitEndsUptoRow.holds Tryz.pinned (OpenSpec.upto unitEndsSpec)

end Rows
end Go.Proofs.YtbkecaenjjlmoaaGreatDoor
