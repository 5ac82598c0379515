/- errors.Is at a misfit that wraps the sentinel, and at nil. -/
import Derived.Test.YtdmomeeilibnmaaDoorMixWalksA
import Derived.Test.YtdmomeeilibnmaaDoorChecked
import Derived.LaidEql
import Derived.Stop.Asserts
import Derived.RowKitTokens
import Derived.Below
namespace Go.Proofs.YtdmomeeilibnmaaDoor
open Go.RowKit Go.Extern.Stop Go.Stop Go.Extern
theorem isTypeOf (v : Value) (w : World) : (Extern.ReflectliteType.typeOf #[.iface 73 v]).run Tryd.prog w = .ok (.iface 63 (.agg #[.pointer (some ⟨1, 73, none⟩)])) w := by kernel_rfl
theorem callTypeOf (v : Value) (w : World) : (callFunc 28 #[.iface 73 v]).run Tryd.prog w = .ok (.value (.iface 63 (.agg #[.pointer (some ⟨1, 73, none⟩)]))) w := by
  rw [@run_callFunc_extern Tryd.prog 28 _ Extern.ReflectliteType.typeOf Tryd.func28 (by kernel_rfl) (by kernel_rfl) (by kernel_rfl) (by kernel_rfl), isTypeOf]; rfl
theorem isComparable (w : World) : ((Extern.ReflectliteType.method fun t => do Rtype.noPackHeld "Comparable" t; pure (.bool (← typeInfo t).comparable)) #[.agg #[.pointer (some ⟨1, 73, none⟩)]]).run Tryd.prog w = .ok (.bool true) w := by kernel_rfl
theorem callComparable (w : World) : (callFunc 54 #[.agg #[.pointer (some ⟨1, 73, none⟩)]]).run Tryd.prog w = .ok (.value (.bool true)) w := by
  rw [@run_callFunc_extern Tryd.prog 54 _ (Extern.ReflectliteType.method fun t => do Rtype.noPackHeld "Comparable" t; pure (.bool (← typeInfo t).comparable)) Tryd.func54 (by kernel_rfl) (by kernel_rfl) (by kernel_rfl) (by kernel_rfl), isComparable]; rfl
theorem isMethodComparable (v : Value) (w : World) : (Go.method 210 63 v "Comparable").run Tryd.prog w = .ok (54, v) w := by kernel_rfl
theorem isComp : (Tryd.prog.info? 73).map (·.comparable) = some true := by kernel_rfl
theorem isSize : (Tryd.prog.info? 98).map (·.size) = some 1 := by kernel_rfl
theorem noIsW (v : Value) (xT : TypeId) (w : World) : (Instr.typeAssert (.iface 58 v) xT 65 true).run Tryd.prog w = .ok (.tuple #[.nilIface, .bool false]) w := run_typeAssert_lacksB Tryd.underlying65 (by kernel_rfl) (by kernel_rfl) v xT w
theorem hasUnwrapW (v : Value) (xT : TypeId) (w : World) : (Instr.typeAssert (.iface 58 v) xT 68 true).run Tryd.prog w = .ok (.tuple #[.iface 58 v, .bool true]) w := run_typeAssert_hasB Tryd.underlying68 (by kernel_rfl) v xT w
theorem methodUnwrap (v : Value) (w : World) : (Go.method 210 58 v "Unwrap").run Tryd.prog w = .ok (50, v) w := by kernel_rfl
theorem is_nil (b : Addr) (w : World) :
    Calls Tryd.prog 20 #[.nilIface, .iface 73 (.pointer (some b))] w fun e w' => e = .returned (.bool false) ∧ w = w' := by
  have hn := run_eql_iface_nil_left (P := Tryd.prog) w 73 (.pointer (some b)) Tryd.underlying43
  go_enter Tryd.func20, Tryd.ntmps20
  go_wp2
  go_ret
  exact ⟨rfl, rfl⟩
set_option maxRecDepth 100000 in
set_option maxHeartbeats 1000000 in
theorem is_misfit (a c : Int) (b : Addr) (w : World) :
    Calls Tryd.prog 20 #[.iface 58 (.agg #[.int .u32 a, .int .u32 c, .iface 73 (.pointer (some b))]), .iface 73 (.pointer (some b))] w fun e w' => e = .returned (.bool true) ∧ Below w.heap.size w w' := by
  obtain ⟨i, hi, hcmp⟩ := Option.map_eq_some_iff.1 isComp
  obtain ⟨j, hj, hjs⟩ := Option.map_eq_some_iff.1 isSize
  have tT := callTypeOf
  have cT := callComparable
  have mR := isMethodComparable
  have nW := noIsW
  have uW := hasUnwrapW
  have mU := methodUnwrap
  have heq := fun w => run_eql_iface_ptr_same (P := Tryd.prog) w b Tryd.underlying43 Tryd.underlying73 hi hcmp hj
  have hty := fun (w : World) => run_eql_iface_types (P := Tryd.prog) 58 73 (.agg #[.int .u32 a, .int .u32 c, .iface 73 (.pointer (some b))]) (.pointer (some b)) Tryd.underlying43 (by decide) w
  go_enter Tryd.func20, Tryd.ntmps20
  go_wp2
  refine wp_loop_rounds 2 ?_
  rw [rounds_succ]
  go_wp2
  rw [rounds_succ]
  go_wp2
  go_ret
  exact ⟨rfl, (Below.refl _ _).alloc (Nat.le_refl _) _⟩
end Go.Proofs.YtdmomeeilibnmaaDoor
