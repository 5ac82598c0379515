/-
  NARROWER THAN 'FOR EVERY INPUT', by the rows' own cells (each row's printed sentence says how): UnitSeals: laid · UnitOpens: laid · UnitEnds: laid · UnitSafe: laid · UnitTorn: laid · UnitHealed: laid.
  DERIVED. THE GIVEN ROWS OF THIS SEAT. 6 by the template 'for every input the law returns true; each argument reads behind the call as it read before'; 0 by the template 'total and deterministic' (their statements: YtmmebaphhgggfaaGreatDoorTotals.lean).
  GIVEN WITH THE SEED: the statements are not yours to turn. If you find one false, say at which input.
  Laid BY PROGRAM, IN A SANDBOX (cutbox-rows.mjs): the forced cells as the released guide's own fill.sh prints them over the translation a672537155579ef7… (all of the seat's roots in one cut). By AI agents, Wed Nov 11 2026. No macro, syntax, notation, axiom, sorry.
-/
import Derived.Test.YtmmebaphhgggfaaGreatDoorChecked
import GoSem.Claim
import GoSem.ClaimJoined
import GoSem.ClaimMapViews
import Derived.JoinedTies
import Derived.KernelRfl
namespace Go.Proofs.YtmmebaphhgggfaaGreatDoor
/- THE CELL 'sum', in the pinned program and in every row, IS THE sha256 OF THE DUMP (.gsa) THAT YtmmebaphhgggfaaGreatDoorProg.lean LOADS. Nothing in Lean hashes anything: it is a label: what it is worth is what the hold of that sum in a sandbox is worth. -/
noncomputable def Tryz.pinned : Pinned := { name := "ytmmebaphhgggfaagreatdoor", sum := "a672537155579ef763e3b56b1cf9e73c31eb7177b35350717b604a8543e0be13", checked := Tryz.checked }
namespace Rows
def none {H : Type} : Left H := { results := [], args := [] }

/- WHAT THE LISTED PACKAGE-LEVEL VARIABLES READ AS WHEN THE CALL BEGINS. Each datum BY PROGRAM (the guide's laid-datum.mjs) off the statement by which the dump's own 'gosem.cut.vars' lays the variable. In a bare row this is a premise. The card (YtmmebaphhgggfaaGreatDoorCards.lean) ties it to the program's text. -/
def laid_errors_errorType {H : Type} : DataW H := .iface "internal/reflectlite.rtype" (.agg [.ptr (.lit (.string [101, 114, 114, 111, 114]))])
def laid_limpet_code_errWidth {H : Type} : DataW H := .iface "*errors.errorString" (.ptr (.agg [.lit (.string [116, 104, 101, 114, 101, 32, 105, 115, 32, 110, 111, 32, 102, 105, 101, 108, 100, 32, 111, 102, 32, 116, 104, 105, 115, 32, 119, 105, 100, 116, 104])]))
def laid_limpet_code_errFew {H : Type} : DataW H := .iface "*errors.errorString" (.ptr (.agg [.lit (.string [116, 104, 101, 114, 101, 32, 97, 114, 101, 32, 116, 111, 111, 32, 102, 101, 119, 32, 98, 121, 116, 101, 115])]))
def laid_limpet_code_errGreat {H : Type} : DataW H := .iface "*errors.errorString" (.ptr (.agg [.lit (.string [116, 104, 101, 32, 110, 117, 109, 98, 101, 114, 32, 105, 115, 32, 97, 98, 111, 118, 101, 32, 116, 104, 101, 32, 103, 114, 101, 97, 116, 101, 115, 116, 32, 111, 110, 101])]))
def laid_limpet_code_errMuch {H : Type} : DataW H := .iface "*errors.errorString" (.ptr (.agg [.lit (.string [116, 104, 101, 114, 101, 32, 105, 115, 32, 109, 111, 114, 101, 32, 116, 104, 97, 110, 32, 119, 97, 115, 32, 97, 115, 107, 101, 100, 32, 102, 111, 114])]))
def laid_limpet_unit_errBytes {H : Type} : DataW H := .iface "*errors.errorString" (.ptr (.agg [.lit (.string [97, 32, 98, 108, 111, 99, 107, 32, 104, 97, 115, 32, 97, 110, 111, 116, 104, 101, 114, 32, 110, 117, 109, 98, 101, 114, 32, 111, 102, 32, 98, 121, 116, 101, 115])]))
def laid_limpet_unit_errKind {H : Type} : DataW H := .iface "*errors.errorString" (.ptr (.agg [.lit (.string [116, 104, 101, 114, 101, 32, 105, 115, 32, 110, 111, 32, 117, 110, 105, 116, 32, 111, 102, 32, 116, 104, 105, 115, 32, 107, 105, 110, 100])]))
def laid_limpet_unit_errSum {H : Type} : DataW H := .iface "*errors.errorString" (.ptr (.agg [.lit (.string [116, 104, 101, 32, 115, 117, 109, 32, 100, 111, 101, 115, 32, 110, 111, 116, 32, 102, 105, 116])]))
def laid_limpet_unit_errNum {H : Type} : DataW H := .iface "*errors.errorString" (.ptr (.agg [.lit (.string [116, 104, 101, 114, 101, 32, 105, 115, 32, 110, 111, 32, 117, 110, 105, 116, 32, 111, 102, 32, 116, 104, 105, 115, 32, 110, 117, 109, 98, 101, 114])]))
def laid_limpet_unit_errBody {H : Type} : DataW H := .iface "*errors.errorString" (.ptr (.agg [.lit (.string [97, 32, 98, 111, 100, 121, 32, 104, 97, 115, 32, 110, 111, 116, 32, 115, 111, 32, 109, 97, 110, 121, 32, 98, 121, 116, 101, 115])]))
def laid_limpet_unit_errNought {H : Type} : DataW H := .iface "*errors.errorString" (.ptr (.agg [.lit (.string [97, 32, 110, 111, 117, 103, 104, 116, 32, 109, 117, 115, 116, 32, 115, 116, 97, 110, 100, 32, 104, 101, 114, 101])]))
def laid_limpet_unit_errEnd {H : Type} : DataW H := .iface "*errors.errorString" (.ptr (.agg [.lit (.string [116, 104, 101, 32, 101, 110, 100, 32, 105, 115, 32, 97, 110, 111, 116, 104, 101, 114, 32, 111, 110, 101])]))
def laid_limpet_unit_errOther {H : Type} : DataW H := .iface "*errors.errorString" (.ptr (.agg [.lit (.string [116, 104, 101, 32, 117, 110, 105, 116, 32, 105, 115, 32, 97, 110, 111, 116, 104, 101, 114, 32, 111, 110, 101, 32, 116, 104, 97, 110, 32, 119, 97, 115, 32, 97, 115, 107, 101, 100, 32, 102, 111, 114])]))
def laid_limpet_dev_errNil {H : Type} : DataW H := .iface "*errors.errorString" (.ptr (.agg [.lit (.string [116, 104, 101, 114, 101, 32, 105, 115, 32, 110, 111, 32, 100, 105, 115, 107])]))
def laid_limpet_dev_errDown {H : Type} : DataW H := .iface "*errors.errorString" (.ptr (.agg [.lit (.string [116, 104, 101, 32, 100, 105, 115, 107, 32, 105, 115, 32, 100, 111, 119, 110])]))
def laid_limpet_dev_errBlock {H : Type} : DataW H := .iface "*errors.errorString" (.ptr (.agg [.lit (.string [116, 104, 101, 114, 101, 32, 105, 115, 32, 110, 111, 32, 115, 117, 99, 104, 32, 98, 108, 111, 99, 107])]))
def laid_limpet_dev_errLong {H : Type} : DataW H := .iface "*errors.errorString" (.ptr (.agg [.lit (.string [97, 32, 98, 108, 111, 99, 107, 32, 104, 97, 115, 32, 110, 111, 116, 32, 115, 111, 32, 109, 97, 110, 121, 32, 98, 121, 116, 101, 115])]))
def laid_limpet_dev_errSame {H : Type} : DataW H := .iface "*errors.errorString" (.ptr (.agg [.lit (.string [110, 111, 116, 104, 105, 110, 103, 32, 119, 111, 117, 108, 100, 32, 98, 101, 32, 116, 117, 114, 110, 101, 100])]))
def laid_limpet_dev_errHurt {H : Type} : DataW H := .iface "*errors.errorString" (.ptr (.agg [.lit (.string [116, 104, 101, 32, 98, 108, 111, 99, 107, 32, 105, 115, 32, 104, 117, 114, 116, 32, 97, 108, 114, 101, 97, 100, 121])]))

/-- 'limpetlaw04.UnitSeals': WHATEVER THE INPUT: true; the input reads as it did. -/
def unitSealsSpec : ChangeSpec := { name := "unitSeals", fn := fun _ => fun
  | [d] => { results := [.lit (.bool true)], args := [d] }
  | _ => none }
def unitSealsRow : OpenClaim := { program := "ytmmebaphhgggfaagreatdoor", sum := "a672537155579ef763e3b56b1cf9e73c31eb7177b35350717b604a8543e0be13", func := "limpet/limpetlaw04.UnitSeals", spec := "unitSeals", inPlace := ["internal/reflectlite.ValueOf", "(internal/reflectlite.Value).Type", "(internal/reflectlite.Value).IsNil", "internal/reflectlite.TypeOf", "(internal/reflectlite.Value).Elem", "(internal/reflectlite.Value).Set"], unfollowed := true, recurses := true, named := ["limpet/unit.errBytes", "limpet/unit.errKind", "limpet/unit.errSum", "limpet/code.errWidth", "limpet/code.errFew", "limpet/code.errGreat", "limpet/unit.errNum", "errors.errorType", "limpet/code.errMuch", "limpet/unit.errBody", "limpet/unit.errEnd", "limpet/unit.errNought", "limpet/unit.errOther"], apart := false, laid := [("errors.errorType", laid_errors_errorType), ("limpet/code.errWidth", laid_limpet_code_errWidth), ("limpet/code.errFew", laid_limpet_code_errFew), ("limpet/code.errGreat", laid_limpet_code_errGreat), ("limpet/code.errMuch", laid_limpet_code_errMuch), ("limpet/unit.errBytes", laid_limpet_unit_errBytes), ("limpet/unit.errKind", laid_limpet_unit_errKind), ("limpet/unit.errSum", laid_limpet_unit_errSum), ("limpet/unit.errNum", laid_limpet_unit_errNum), ("limpet/unit.errBody", laid_limpet_unit_errBody), ("limpet/unit.errNought", laid_limpet_unit_errNought), ("limpet/unit.errEnd", laid_limpet_unit_errEnd), ("limpet/unit.errOther", laid_limpet_unit_errOther)] }
def UnitSealsSaid : Prop := unitSealsRow.holds Tryz.pinned (OpenSpec.ofChange unitSealsSpec)

/-- ITS FALSE NEIGHBOUR: 'it returns false'. Refute it at one input. -/
def unitSealsWrong : ChangeSpec := { name := "unitSeals", fn := fun _ => fun
  | [d] => { results := [.lit (.bool false)], args := [d] }
  | _ => none }
def UnitSealsWrongFalsely : Prop := unitSealsRow.holds Tryz.pinned (OpenSpec.ofChange unitSealsWrong)

/-- 'limpetlaw04.UnitOpens': WHATEVER THE INPUT: true; the input reads as it did. -/
def unitOpensSpec : ChangeSpec := { name := "unitOpens", fn := fun _ => fun
  | [d1, d2, d3] => { results := [.lit (.bool true)], args := [d1, d2, d3] }
  | _ => none }
def unitOpensRow : OpenClaim := { program := "ytmmebaphhgggfaagreatdoor", sum := "a672537155579ef763e3b56b1cf9e73c31eb7177b35350717b604a8543e0be13", func := "limpet/limpetlaw04.UnitOpens", spec := "unitOpens", inPlace := ["internal/reflectlite.ValueOf", "(internal/reflectlite.Value).Type", "(internal/reflectlite.Value).IsNil", "internal/reflectlite.TypeOf", "(internal/reflectlite.Value).Elem", "(internal/reflectlite.Value).Set"], unfollowed := true, recurses := true, named := ["limpet/unit.errBytes", "limpet/unit.errKind", "limpet/unit.errSum", "limpet/code.errWidth", "limpet/code.errFew", "limpet/code.errGreat", "limpet/unit.errNum", "errors.errorType", "limpet/code.errMuch", "limpet/unit.errBody", "limpet/unit.errEnd", "limpet/unit.errNought", "limpet/unit.errOther"], apart := false, laid := [("errors.errorType", laid_errors_errorType), ("limpet/code.errWidth", laid_limpet_code_errWidth), ("limpet/code.errFew", laid_limpet_code_errFew), ("limpet/code.errGreat", laid_limpet_code_errGreat), ("limpet/code.errMuch", laid_limpet_code_errMuch), ("limpet/unit.errBytes", laid_limpet_unit_errBytes), ("limpet/unit.errKind", laid_limpet_unit_errKind), ("limpet/unit.errSum", laid_limpet_unit_errSum), ("limpet/unit.errNum", laid_limpet_unit_errNum), ("limpet/unit.errBody", laid_limpet_unit_errBody), ("limpet/unit.errNought", laid_limpet_unit_errNought), ("limpet/unit.errEnd", laid_limpet_unit_errEnd), ("limpet/unit.errOther", laid_limpet_unit_errOther)] }
def UnitOpensSaid : Prop := unitOpensRow.holds Tryz.pinned (OpenSpec.ofChange unitOpensSpec)

/-- ITS FALSE NEIGHBOUR: 'it returns false'. Refute it at one input. -/
def unitOpensWrong : ChangeSpec := { name := "unitOpens", fn := fun _ => fun
  | [d1, d2, d3] => { results := [.lit (.bool false)], args := [d1, d2, d3] }
  | _ => none }
def UnitOpensWrongFalsely : Prop := unitOpensRow.holds Tryz.pinned (OpenSpec.ofChange unitOpensWrong)

/-- 'limpetlaw04.UnitEnds': WHATEVER THE INPUT: true; the input reads as it did. -/
def unitEndsSpec : ChangeSpec := { name := "unitEnds", fn := fun _ => fun
  | [] => { results := [.lit (.bool true)], args := [] }
  | _ => none }
def unitEndsRow : OpenClaim := { program := "ytmmebaphhgggfaagreatdoor", sum := "a672537155579ef763e3b56b1cf9e73c31eb7177b35350717b604a8543e0be13", func := "limpet/limpetlaw04.UnitEnds", spec := "unitEnds", inPlace := ["internal/reflectlite.ValueOf", "(internal/reflectlite.Value).Type", "(internal/reflectlite.Value).IsNil", "internal/reflectlite.TypeOf", "(internal/reflectlite.Value).Elem", "(internal/reflectlite.Value).Set"], unfollowed := true, recurses := true, named := ["limpet/unit.errBytes", "limpet/unit.errKind", "limpet/unit.errSum", "limpet/code.errWidth", "limpet/code.errFew", "limpet/code.errGreat", "limpet/unit.errNum", "errors.errorType", "limpet/code.errMuch", "limpet/unit.errBody", "limpet/unit.errEnd", "limpet/unit.errNought", "limpet/unit.errOther"], apart := false, laid := [("errors.errorType", laid_errors_errorType), ("limpet/code.errWidth", laid_limpet_code_errWidth), ("limpet/code.errFew", laid_limpet_code_errFew), ("limpet/code.errGreat", laid_limpet_code_errGreat), ("limpet/code.errMuch", laid_limpet_code_errMuch), ("limpet/unit.errBytes", laid_limpet_unit_errBytes), ("limpet/unit.errKind", laid_limpet_unit_errKind), ("limpet/unit.errSum", laid_limpet_unit_errSum), ("limpet/unit.errNum", laid_limpet_unit_errNum), ("limpet/unit.errBody", laid_limpet_unit_errBody), ("limpet/unit.errNought", laid_limpet_unit_errNought), ("limpet/unit.errEnd", laid_limpet_unit_errEnd), ("limpet/unit.errOther", laid_limpet_unit_errOther)] }
def UnitEndsSaid : Prop := unitEndsRow.holds Tryz.pinned (OpenSpec.ofChange unitEndsSpec)

/-- ITS FALSE NEIGHBOUR: 'it returns false'. Refute it at one input. -/
def unitEndsWrong : ChangeSpec := { name := "unitEnds", fn := fun _ => fun
  | [] => { results := [.lit (.bool false)], args := [] }
  | _ => none }
def UnitEndsWrongFalsely : Prop := unitEndsRow.holds Tryz.pinned (OpenSpec.ofChange unitEndsWrong)

/-- 'limpetlaw04.UnitSafe': WHATEVER THE INPUT: true; the input reads as it did. -/
def unitSafeSpec : ChangeSpec := { name := "unitSafe", fn := fun _ => fun
  | [d1, d2, d3] => { results := [.lit (.bool true)], args := [d1, d2, d3] }
  | _ => none }
def unitSafeRow : OpenClaim := { program := "ytmmebaphhgggfaagreatdoor", sum := "a672537155579ef763e3b56b1cf9e73c31eb7177b35350717b604a8543e0be13", func := "limpet/limpetlaw04.UnitSafe", spec := "unitSafe", inPlace := ["internal/reflectlite.ValueOf", "(internal/reflectlite.Value).Type", "(internal/reflectlite.Value).IsNil", "internal/reflectlite.TypeOf", "(internal/reflectlite.Value).Elem", "(internal/reflectlite.Value).Set"], unfollowed := true, recurses := true, named := ["limpet/unit.errBytes", "limpet/unit.errKind", "limpet/unit.errSum", "limpet/code.errWidth", "limpet/code.errFew", "limpet/code.errGreat", "limpet/unit.errNum", "errors.errorType", "limpet/code.errMuch", "limpet/unit.errBody", "limpet/unit.errEnd", "limpet/unit.errNought", "limpet/unit.errOther", "limpet/dev.errLong", "limpet/dev.errBlock", "limpet/dev.errNil", "limpet/dev.errDown", "limpet/dev.errHurt", "limpet/dev.errSame"], apart := false, laid := [("errors.errorType", laid_errors_errorType), ("limpet/dev.errNil", laid_limpet_dev_errNil), ("limpet/dev.errDown", laid_limpet_dev_errDown), ("limpet/dev.errBlock", laid_limpet_dev_errBlock), ("limpet/dev.errLong", laid_limpet_dev_errLong), ("limpet/dev.errSame", laid_limpet_dev_errSame), ("limpet/dev.errHurt", laid_limpet_dev_errHurt), ("limpet/code.errWidth", laid_limpet_code_errWidth), ("limpet/code.errFew", laid_limpet_code_errFew), ("limpet/code.errGreat", laid_limpet_code_errGreat), ("limpet/code.errMuch", laid_limpet_code_errMuch), ("limpet/unit.errBytes", laid_limpet_unit_errBytes), ("limpet/unit.errKind", laid_limpet_unit_errKind), ("limpet/unit.errSum", laid_limpet_unit_errSum), ("limpet/unit.errNum", laid_limpet_unit_errNum), ("limpet/unit.errBody", laid_limpet_unit_errBody), ("limpet/unit.errNought", laid_limpet_unit_errNought), ("limpet/unit.errEnd", laid_limpet_unit_errEnd), ("limpet/unit.errOther", laid_limpet_unit_errOther)] }
def UnitSafeSaid : Prop := unitSafeRow.holds Tryz.pinned (OpenSpec.ofChange unitSafeSpec)

/-- ITS FALSE NEIGHBOUR: 'it returns false'. Refute it at one input. -/
def unitSafeWrong : ChangeSpec := { name := "unitSafe", fn := fun _ => fun
  | [d1, d2, d3] => { results := [.lit (.bool false)], args := [d1, d2, d3] }
  | _ => none }
def UnitSafeWrongFalsely : Prop := unitSafeRow.holds Tryz.pinned (OpenSpec.ofChange unitSafeWrong)

/-- 'limpetlaw04.UnitTorn': WHATEVER THE INPUT: true; the input reads as it did. -/
def unitTornSpec : ChangeSpec := { name := "unitTorn", fn := fun _ => fun
  | [d1, d2, d3] => { results := [.lit (.bool true)], args := [d1, d2, d3] }
  | _ => none }
def unitTornRow : OpenClaim := { program := "ytmmebaphhgggfaagreatdoor", sum := "a672537155579ef763e3b56b1cf9e73c31eb7177b35350717b604a8543e0be13", func := "limpet/limpetlaw04.UnitTorn", spec := "unitTorn", inPlace := ["internal/reflectlite.ValueOf", "(internal/reflectlite.Value).Type", "(internal/reflectlite.Value).IsNil", "internal/reflectlite.TypeOf", "(internal/reflectlite.Value).Elem", "(internal/reflectlite.Value).Set"], unfollowed := true, recurses := true, named := ["limpet/unit.errBytes", "limpet/unit.errKind", "limpet/unit.errSum", "limpet/code.errWidth", "limpet/code.errFew", "limpet/code.errGreat", "limpet/unit.errNum", "errors.errorType", "limpet/code.errMuch", "limpet/unit.errBody", "limpet/unit.errEnd", "limpet/unit.errNought", "limpet/unit.errOther", "limpet/dev.errLong", "limpet/dev.errBlock", "limpet/dev.errNil", "limpet/dev.errDown", "limpet/dev.errHurt"], apart := false, laid := [("errors.errorType", laid_errors_errorType), ("limpet/dev.errNil", laid_limpet_dev_errNil), ("limpet/dev.errDown", laid_limpet_dev_errDown), ("limpet/dev.errBlock", laid_limpet_dev_errBlock), ("limpet/dev.errLong", laid_limpet_dev_errLong), ("limpet/dev.errHurt", laid_limpet_dev_errHurt), ("limpet/code.errWidth", laid_limpet_code_errWidth), ("limpet/code.errFew", laid_limpet_code_errFew), ("limpet/code.errGreat", laid_limpet_code_errGreat), ("limpet/code.errMuch", laid_limpet_code_errMuch), ("limpet/unit.errBytes", laid_limpet_unit_errBytes), ("limpet/unit.errKind", laid_limpet_unit_errKind), ("limpet/unit.errSum", laid_limpet_unit_errSum), ("limpet/unit.errNum", laid_limpet_unit_errNum), ("limpet/unit.errBody", laid_limpet_unit_errBody), ("limpet/unit.errNought", laid_limpet_unit_errNought), ("limpet/unit.errEnd", laid_limpet_unit_errEnd), ("limpet/unit.errOther", laid_limpet_unit_errOther)] }
def UnitTornSaid : Prop := unitTornRow.holds Tryz.pinned (OpenSpec.ofChange unitTornSpec)

/-- ITS FALSE NEIGHBOUR: 'it returns false'. Refute it at one input. -/
def unitTornWrong : ChangeSpec := { name := "unitTorn", fn := fun _ => fun
  | [d1, d2, d3] => { results := [.lit (.bool false)], args := [d1, d2, d3] }
  | _ => none }
def UnitTornWrongFalsely : Prop := unitTornRow.holds Tryz.pinned (OpenSpec.ofChange unitTornWrong)

/-- 'limpetlaw04.UnitHealed': WHATEVER THE INPUT: true; the input reads as it did. -/
def unitHealedSpec : ChangeSpec := { name := "unitHealed", fn := fun _ => fun
  | [d1, d2, d3, d4, d5, d6] => { results := [.lit (.bool true)], args := [d1, d2, d3, d4, d5, d6] }
  | _ => none }
def unitHealedRow : OpenClaim := { program := "ytmmebaphhgggfaagreatdoor", sum := "a672537155579ef763e3b56b1cf9e73c31eb7177b35350717b604a8543e0be13", func := "limpet/limpetlaw04.UnitHealed", spec := "unitHealed", inPlace := ["internal/reflectlite.ValueOf", "(internal/reflectlite.Value).Type", "(internal/reflectlite.Value).IsNil", "internal/reflectlite.TypeOf", "(internal/reflectlite.Value).Elem", "(internal/reflectlite.Value).Set"], unfollowed := true, recurses := true, named := ["limpet/unit.errBytes", "limpet/unit.errKind", "limpet/unit.errSum", "limpet/code.errWidth", "limpet/code.errFew", "limpet/code.errGreat", "limpet/unit.errNum", "errors.errorType", "limpet/code.errMuch", "limpet/unit.errBody", "limpet/unit.errEnd", "limpet/unit.errNought", "limpet/unit.errOther", "limpet/dev.errLong", "limpet/dev.errBlock", "limpet/dev.errNil", "limpet/dev.errDown", "limpet/dev.errHurt", "limpet/dev.errSame"], apart := false, laid := [("errors.errorType", laid_errors_errorType), ("limpet/dev.errNil", laid_limpet_dev_errNil), ("limpet/dev.errDown", laid_limpet_dev_errDown), ("limpet/dev.errBlock", laid_limpet_dev_errBlock), ("limpet/dev.errLong", laid_limpet_dev_errLong), ("limpet/dev.errSame", laid_limpet_dev_errSame), ("limpet/dev.errHurt", laid_limpet_dev_errHurt), ("limpet/code.errWidth", laid_limpet_code_errWidth), ("limpet/code.errFew", laid_limpet_code_errFew), ("limpet/code.errGreat", laid_limpet_code_errGreat), ("limpet/code.errMuch", laid_limpet_code_errMuch), ("limpet/unit.errBytes", laid_limpet_unit_errBytes), ("limpet/unit.errKind", laid_limpet_unit_errKind), ("limpet/unit.errSum", laid_limpet_unit_errSum), ("limpet/unit.errNum", laid_limpet_unit_errNum), ("limpet/unit.errBody", laid_limpet_unit_errBody), ("limpet/unit.errNought", laid_limpet_unit_errNought), ("limpet/unit.errEnd", laid_limpet_unit_errEnd), ("limpet/unit.errOther", laid_limpet_unit_errOther)] }
def UnitHealedSaid : Prop := unitHealedRow.holds Tryz.pinned (OpenSpec.ofChange unitHealedSpec)

/-- ITS FALSE NEIGHBOUR: 'it returns false'. Refute it at one input. -/
def unitHealedWrong : ChangeSpec := { name := "unitHealed", fn := fun _ => fun
  | [d1, d2, d3, d4, d5, d6] => { results := [.lit (.bool false)], args := [d1, d2, d3, d4, d5, d6] }
  | _ => none }
def UnitHealedWrongFalsely : Prop := unitHealedRow.holds Tryz.pinned (OpenSpec.ofChange unitHealedWrong)

/- THE SECOND FORM. 'bulk': how many values and letters a reading holds, each counted each time it is reached (what is shared counts as often as it is met; a slice's spare places count too). A statement '..UptoSaid' is the law's where the arguments, and the package variables that the reading takes, are together of bulk at most 1048576: NARROWER than '..Said'. Prove '..Said' where nothing that the law and all that it calls make is longer than what came in: it says more and counts as full. Else prove '..UptoSaid'. A law counts once. -/
mutual
def uptoBulk {H : Type} : DataW H → Nat
  | .lit (.string bytes) => bytes.length + 1
  | .lit _ => 1
  | .nil => 1
  | .ptr d => uptoBulk d + 1
  | .slice elems spare => uptoBulkAll elems + uptoBulkAll spare + 1
  | .agg parts => uptoBulkAll parts + 1
  | .iface _ d => uptoBulk d + 1
  | .map entries => uptoBulkEntries entries + 1
  | .held _ => 1
def uptoBulkAll {H : Type} : List (DataW H) → Nat
  | [] => 0
  | d :: r => uptoBulk d + uptoBulkAll r
def uptoBulkEntries {H : Type} : List (Lit × DataW H) → Nat
  | [] => 0
  | x :: r => uptoBulkEntry x + uptoBulkEntries r
def uptoBulkEntry {H : Type} : Lit × DataW H → Nat
  | (.string bytes, d) => bytes.length + uptoBulk d + 1
  | (_, d) => uptoBulk d + 1
 end
def uptoSmall : (H : Type) → List (DataW H) → Bool := fun _ ds => decide (uptoBulkAll ds ≤ 1048576)
def OpenSpec.upto (s : _root_.Go.ChangeSpec) : _root_.Go.OpenSpec := { _root_.Go.OpenSpec.ofChange s with cond := some uptoSmall }

/-- 'limpetlaw04.UnitSeals', WHERE WHAT IT READS IS OF BULK AT MOST 1048576: true; the input reads as it did. -/
def unitSealsUptoRow : OpenClaim := { program := "ytmmebaphhgggfaagreatdoor", sum := "a672537155579ef763e3b56b1cf9e73c31eb7177b35350717b604a8543e0be13", func := "limpet/limpetlaw04.UnitSeals", spec := "unitSeals", inPlace := ["internal/reflectlite.ValueOf", "(internal/reflectlite.Value).Type", "(internal/reflectlite.Value).IsNil", "internal/reflectlite.TypeOf", "(internal/reflectlite.Value).Elem", "(internal/reflectlite.Value).Set"], unfollowed := true, recurses := true, named := ["limpet/unit.errBytes", "limpet/unit.errKind", "limpet/unit.errSum", "limpet/code.errWidth", "limpet/code.errFew", "limpet/code.errGreat", "limpet/unit.errNum", "errors.errorType", "limpet/code.errMuch", "limpet/unit.errBody", "limpet/unit.errEnd", "limpet/unit.errNought", "limpet/unit.errOther"], apart := false, laid := [("errors.errorType", laid_errors_errorType), ("limpet/code.errWidth", laid_limpet_code_errWidth), ("limpet/code.errFew", laid_limpet_code_errFew), ("limpet/code.errGreat", laid_limpet_code_errGreat), ("limpet/code.errMuch", laid_limpet_code_errMuch), ("limpet/unit.errBytes", laid_limpet_unit_errBytes), ("limpet/unit.errKind", laid_limpet_unit_errKind), ("limpet/unit.errSum", laid_limpet_unit_errSum), ("limpet/unit.errNum", laid_limpet_unit_errNum), ("limpet/unit.errBody", laid_limpet_unit_errBody), ("limpet/unit.errNought", laid_limpet_unit_errNought), ("limpet/unit.errEnd", laid_limpet_unit_errEnd), ("limpet/unit.errOther", laid_limpet_unit_errOther)], narrowed := true }
def UnitSealsUptoSaid : Prop := unitSealsUptoRow.holds Tryz.pinned (OpenSpec.upto unitSealsSpec)

/-- 'limpetlaw04.UnitOpens', WHERE WHAT IT READS IS OF BULK AT MOST 1048576: true; the input reads as it did. -/
def unitOpensUptoRow : OpenClaim := { program := "ytmmebaphhgggfaagreatdoor", sum := "a672537155579ef763e3b56b1cf9e73c31eb7177b35350717b604a8543e0be13", func := "limpet/limpetlaw04.UnitOpens", spec := "unitOpens", inPlace := ["internal/reflectlite.ValueOf", "(internal/reflectlite.Value).Type", "(internal/reflectlite.Value).IsNil", "internal/reflectlite.TypeOf", "(internal/reflectlite.Value).Elem", "(internal/reflectlite.Value).Set"], unfollowed := true, recurses := true, named := ["limpet/unit.errBytes", "limpet/unit.errKind", "limpet/unit.errSum", "limpet/code.errWidth", "limpet/code.errFew", "limpet/code.errGreat", "limpet/unit.errNum", "errors.errorType", "limpet/code.errMuch", "limpet/unit.errBody", "limpet/unit.errEnd", "limpet/unit.errNought", "limpet/unit.errOther"], apart := false, laid := [("errors.errorType", laid_errors_errorType), ("limpet/code.errWidth", laid_limpet_code_errWidth), ("limpet/code.errFew", laid_limpet_code_errFew), ("limpet/code.errGreat", laid_limpet_code_errGreat), ("limpet/code.errMuch", laid_limpet_code_errMuch), ("limpet/unit.errBytes", laid_limpet_unit_errBytes), ("limpet/unit.errKind", laid_limpet_unit_errKind), ("limpet/unit.errSum", laid_limpet_unit_errSum), ("limpet/unit.errNum", laid_limpet_unit_errNum), ("limpet/unit.errBody", laid_limpet_unit_errBody), ("limpet/unit.errNought", laid_limpet_unit_errNought), ("limpet/unit.errEnd", laid_limpet_unit_errEnd), ("limpet/unit.errOther", laid_limpet_unit_errOther)], narrowed := true }
def UnitOpensUptoSaid : Prop := unitOpensUptoRow.holds Tryz.pinned (OpenSpec.upto unitOpensSpec)

/-- 'limpetlaw04.UnitEnds', WHERE WHAT IT READS IS OF BULK AT MOST 1048576: true; the input reads as it did. -/
def unitEndsUptoRow : OpenClaim := { program := "ytmmebaphhgggfaagreatdoor", sum := "a672537155579ef763e3b56b1cf9e73c31eb7177b35350717b604a8543e0be13", func := "limpet/limpetlaw04.UnitEnds", spec := "unitEnds", inPlace := ["internal/reflectlite.ValueOf", "(internal/reflectlite.Value).Type", "(internal/reflectlite.Value).IsNil", "internal/reflectlite.TypeOf", "(internal/reflectlite.Value).Elem", "(internal/reflectlite.Value).Set"], unfollowed := true, recurses := true, named := ["limpet/unit.errBytes", "limpet/unit.errKind", "limpet/unit.errSum", "limpet/code.errWidth", "limpet/code.errFew", "limpet/code.errGreat", "limpet/unit.errNum", "errors.errorType", "limpet/code.errMuch", "limpet/unit.errBody", "limpet/unit.errEnd", "limpet/unit.errNought", "limpet/unit.errOther"], apart := false, laid := [("errors.errorType", laid_errors_errorType), ("limpet/code.errWidth", laid_limpet_code_errWidth), ("limpet/code.errFew", laid_limpet_code_errFew), ("limpet/code.errGreat", laid_limpet_code_errGreat), ("limpet/code.errMuch", laid_limpet_code_errMuch), ("limpet/unit.errBytes", laid_limpet_unit_errBytes), ("limpet/unit.errKind", laid_limpet_unit_errKind), ("limpet/unit.errSum", laid_limpet_unit_errSum), ("limpet/unit.errNum", laid_limpet_unit_errNum), ("limpet/unit.errBody", laid_limpet_unit_errBody), ("limpet/unit.errNought", laid_limpet_unit_errNought), ("limpet/unit.errEnd", laid_limpet_unit_errEnd), ("limpet/unit.errOther", laid_limpet_unit_errOther)], narrowed := true }
def UnitEndsUptoSaid : Prop := unitEndsUptoRow.holds Tryz.pinned (OpenSpec.upto unitEndsSpec)

/-- 'limpetlaw04.UnitSafe', WHERE WHAT IT READS IS OF BULK AT MOST 1048576: true; the input reads as it did. -/
def unitSafeUptoRow : OpenClaim := { program := "ytmmebaphhgggfaagreatdoor", sum := "a672537155579ef763e3b56b1cf9e73c31eb7177b35350717b604a8543e0be13", func := "limpet/limpetlaw04.UnitSafe", spec := "unitSafe", inPlace := ["internal/reflectlite.ValueOf", "(internal/reflectlite.Value).Type", "(internal/reflectlite.Value).IsNil", "internal/reflectlite.TypeOf", "(internal/reflectlite.Value).Elem", "(internal/reflectlite.Value).Set"], unfollowed := true, recurses := true, named := ["limpet/unit.errBytes", "limpet/unit.errKind", "limpet/unit.errSum", "limpet/code.errWidth", "limpet/code.errFew", "limpet/code.errGreat", "limpet/unit.errNum", "errors.errorType", "limpet/code.errMuch", "limpet/unit.errBody", "limpet/unit.errEnd", "limpet/unit.errNought", "limpet/unit.errOther", "limpet/dev.errLong", "limpet/dev.errBlock", "limpet/dev.errNil", "limpet/dev.errDown", "limpet/dev.errHurt", "limpet/dev.errSame"], apart := false, laid := [("errors.errorType", laid_errors_errorType), ("limpet/dev.errNil", laid_limpet_dev_errNil), ("limpet/dev.errDown", laid_limpet_dev_errDown), ("limpet/dev.errBlock", laid_limpet_dev_errBlock), ("limpet/dev.errLong", laid_limpet_dev_errLong), ("limpet/dev.errSame", laid_limpet_dev_errSame), ("limpet/dev.errHurt", laid_limpet_dev_errHurt), ("limpet/code.errWidth", laid_limpet_code_errWidth), ("limpet/code.errFew", laid_limpet_code_errFew), ("limpet/code.errGreat", laid_limpet_code_errGreat), ("limpet/code.errMuch", laid_limpet_code_errMuch), ("limpet/unit.errBytes", laid_limpet_unit_errBytes), ("limpet/unit.errKind", laid_limpet_unit_errKind), ("limpet/unit.errSum", laid_limpet_unit_errSum), ("limpet/unit.errNum", laid_limpet_unit_errNum), ("limpet/unit.errBody", laid_limpet_unit_errBody), ("limpet/unit.errNought", laid_limpet_unit_errNought), ("limpet/unit.errEnd", laid_limpet_unit_errEnd), ("limpet/unit.errOther", laid_limpet_unit_errOther)], narrowed := true }
def UnitSafeUptoSaid : Prop := unitSafeUptoRow.holds Tryz.pinned (OpenSpec.upto unitSafeSpec)

/-- 'limpetlaw04.UnitTorn', WHERE WHAT IT READS IS OF BULK AT MOST 1048576: true; the input reads as it did. -/
def unitTornUptoRow : OpenClaim := { program := "ytmmebaphhgggfaagreatdoor", sum := "a672537155579ef763e3b56b1cf9e73c31eb7177b35350717b604a8543e0be13", func := "limpet/limpetlaw04.UnitTorn", spec := "unitTorn", inPlace := ["internal/reflectlite.ValueOf", "(internal/reflectlite.Value).Type", "(internal/reflectlite.Value).IsNil", "internal/reflectlite.TypeOf", "(internal/reflectlite.Value).Elem", "(internal/reflectlite.Value).Set"], unfollowed := true, recurses := true, named := ["limpet/unit.errBytes", "limpet/unit.errKind", "limpet/unit.errSum", "limpet/code.errWidth", "limpet/code.errFew", "limpet/code.errGreat", "limpet/unit.errNum", "errors.errorType", "limpet/code.errMuch", "limpet/unit.errBody", "limpet/unit.errEnd", "limpet/unit.errNought", "limpet/unit.errOther", "limpet/dev.errLong", "limpet/dev.errBlock", "limpet/dev.errNil", "limpet/dev.errDown", "limpet/dev.errHurt"], apart := false, laid := [("errors.errorType", laid_errors_errorType), ("limpet/dev.errNil", laid_limpet_dev_errNil), ("limpet/dev.errDown", laid_limpet_dev_errDown), ("limpet/dev.errBlock", laid_limpet_dev_errBlock), ("limpet/dev.errLong", laid_limpet_dev_errLong), ("limpet/dev.errHurt", laid_limpet_dev_errHurt), ("limpet/code.errWidth", laid_limpet_code_errWidth), ("limpet/code.errFew", laid_limpet_code_errFew), ("limpet/code.errGreat", laid_limpet_code_errGreat), ("limpet/code.errMuch", laid_limpet_code_errMuch), ("limpet/unit.errBytes", laid_limpet_unit_errBytes), ("limpet/unit.errKind", laid_limpet_unit_errKind), ("limpet/unit.errSum", laid_limpet_unit_errSum), ("limpet/unit.errNum", laid_limpet_unit_errNum), ("limpet/unit.errBody", laid_limpet_unit_errBody), ("limpet/unit.errNought", laid_limpet_unit_errNought), ("limpet/unit.errEnd", laid_limpet_unit_errEnd), ("limpet/unit.errOther", laid_limpet_unit_errOther)], narrowed := true }
def UnitTornUptoSaid : Prop := unitTornUptoRow.holds Tryz.pinned (OpenSpec.upto unitTornSpec)

/-- 'limpetlaw04.UnitHealed', WHERE WHAT IT READS IS OF BULK AT MOST 1048576: true; the input reads as it did. -/
def unitHealedUptoRow : OpenClaim := { program := "ytmmebaphhgggfaagreatdoor", sum := "a672537155579ef763e3b56b1cf9e73c31eb7177b35350717b604a8543e0be13", func := "limpet/limpetlaw04.UnitHealed", spec := "unitHealed", inPlace := ["internal/reflectlite.ValueOf", "(internal/reflectlite.Value).Type", "(internal/reflectlite.Value).IsNil", "internal/reflectlite.TypeOf", "(internal/reflectlite.Value).Elem", "(internal/reflectlite.Value).Set"], unfollowed := true, recurses := true, named := ["limpet/unit.errBytes", "limpet/unit.errKind", "limpet/unit.errSum", "limpet/code.errWidth", "limpet/code.errFew", "limpet/code.errGreat", "limpet/unit.errNum", "errors.errorType", "limpet/code.errMuch", "limpet/unit.errBody", "limpet/unit.errEnd", "limpet/unit.errNought", "limpet/unit.errOther", "limpet/dev.errLong", "limpet/dev.errBlock", "limpet/dev.errNil", "limpet/dev.errDown", "limpet/dev.errHurt", "limpet/dev.errSame"], apart := false, laid := [("errors.errorType", laid_errors_errorType), ("limpet/dev.errNil", laid_limpet_dev_errNil), ("limpet/dev.errDown", laid_limpet_dev_errDown), ("limpet/dev.errBlock", laid_limpet_dev_errBlock), ("limpet/dev.errLong", laid_limpet_dev_errLong), ("limpet/dev.errSame", laid_limpet_dev_errSame), ("limpet/dev.errHurt", laid_limpet_dev_errHurt), ("limpet/code.errWidth", laid_limpet_code_errWidth), ("limpet/code.errFew", laid_limpet_code_errFew), ("limpet/code.errGreat", laid_limpet_code_errGreat), ("limpet/code.errMuch", laid_limpet_code_errMuch), ("limpet/unit.errBytes", laid_limpet_unit_errBytes), ("limpet/unit.errKind", laid_limpet_unit_errKind), ("limpet/unit.errSum", laid_limpet_unit_errSum), ("limpet/unit.errNum", laid_limpet_unit_errNum), ("limpet/unit.errBody", laid_limpet_unit_errBody), ("limpet/unit.errNought", laid_limpet_unit_errNought), ("limpet/unit.errEnd", laid_limpet_unit_errEnd), ("limpet/unit.errOther", laid_limpet_unit_errOther)], narrowed := true }
def UnitHealedUptoSaid : Prop := unitHealedUptoRow.holds Tryz.pinned (OpenSpec.upto unitHealedSpec)

end Rows
end Go.Proofs.YtmmebaphhgggfaaGreatDoor
