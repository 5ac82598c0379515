/- errors.Is at a fault, whose cause is the one asked for, or another one. -/
import Derived.Test.YtifoiiaddcgngaaGreatDoorReadText
import Derived.Test.YtifoiiaddcgngaaGreatDoorChecked
import Derived.LaidEql
import Derived.Stop.Asserts
import Derived.RowKitTokens
namespace Go.Proofs.YtifoiiaddcgngaaGreatDoor
open Go.RowKit Go.Extern.Stop Go.Stop Go.Extern
theorem isTypeOf (v : Value) (w : World) : (Extern.ReflectliteType.typeOf #[.iface 205 v]).run Tryz.prog w = .ok (.iface 185 (.agg #[.pointer (some ⟨6, 205, none⟩)])) w := by kernel_rfl
theorem callTypeOf (v : Value) (w : World) : (callFunc 102 #[.iface 205 v]).run Tryz.prog w = .ok (.value (.iface 185 (.agg #[.pointer (some ⟨6, 205, none⟩)]))) w := by
  rw [@run_callFunc_extern Tryz.prog 102 _ Extern.ReflectliteType.typeOf Tryz.func102 (by kernel_rfl) (by kernel_rfl) (by kernel_rfl) (by kernel_rfl), isTypeOf]; rfl
theorem isComparable (w : World) : ((Extern.ReflectliteType.method fun t => do Rtype.noPackHeld "Comparable" t; pure (.bool (← typeInfo t).comparable)) #[.agg #[.pointer (some ⟨6, 205, none⟩)]]).run Tryz.prog w = .ok (.bool true) w := by kernel_rfl
theorem callComparable (w : World) : (callFunc 133 #[.agg #[.pointer (some ⟨6, 205, none⟩)]]).run Tryz.prog w = .ok (.value (.bool true)) w := by
  rw [@run_callFunc_extern Tryz.prog 133 _ (Extern.ReflectliteType.method fun t => do Rtype.noPackHeld "Comparable" t; pure (.bool (← typeInfo t).comparable)) Tryz.func133 (by kernel_rfl) (by kernel_rfl) (by kernel_rfl) (by kernel_rfl), isComparable]; rfl
theorem isMethodComparable (v : Value) (w : World) : (Go.method 337 185 v "Comparable").run Tryz.prog w = .ok (133, v) w := by kernel_rfl
theorem isComp : (Tryz.prog.info? 205).map (·.comparable) = some true := by kernel_rfl
theorem isSize : (Tryz.prog.info? 225).map (·.size) = some 1 := by kernel_rfl
theorem noIsF (v : Value) (xT : TypeId) (w : World) : (Instr.typeAssert (.iface 107 v) xT 202 true).run Tryz.prog w = .ok (.tuple #[.nilIface, .bool false]) w := run_typeAssert_lacksB Tryz.underlying202 (by kernel_rfl) (by kernel_rfl) v xT w
theorem noIsE (v : Value) (xT : TypeId) (w : World) : (Instr.typeAssert (.iface 205 v) xT 202 true).run Tryz.prog w = .ok (.tuple #[.nilIface, .bool false]) w := run_typeAssert_lacksB Tryz.underlying202 (by kernel_rfl) (by kernel_rfl) v xT w
theorem noUnwrapE (v : Value) (xT : TypeId) (w : World) : (Instr.typeAssert (.iface 205 v) xT 193 true).run Tryz.prog w = .ok (.tuple #[.nilIface, .bool false]) w := run_typeAssert_lacksB Tryz.underlying193 (by kernel_rfl) (by kernel_rfl) v xT w
theorem noUnwrapsE (v : Value) (xT : TypeId) (w : World) : (Instr.typeAssert (.iface 205 v) xT 195 true).run Tryz.prog w = .ok (.tuple #[.nilIface, .bool false]) w := run_typeAssert_lacksB Tryz.underlying195 (by kernel_rfl) (by kernel_rfl) v xT w
theorem hasUnwrapF (v : Value) (xT : TypeId) (w : World) : (Instr.typeAssert (.iface 107 v) xT 193 true).run Tryz.prog w = .ok (.tuple #[.iface 107 v, .bool true]) w := run_typeAssert_hasB Tryz.underlying193 (by kernel_rfl) v xT w
theorem methodUnwrapF (v : Value) (w : World) : (Go.method 337 107 v "Unwrap").run Tryz.prog w = .ok (127, v) w := by kernel_rfl
set_option maxRecDepth 100000 in
set_option maxHeartbeats 1000000 in
theorem is_same (pos : Int) (b : Addr) (w : World) :
    Calls Tryz.prog 89 #[.iface 107 (.agg #[.int .i64 pos, .iface 205 (.pointer (some b))]), .iface 205 (.pointer (some b))] w fun e w' => e = .returned (.bool true) ∧ Below w.heap.size w w' := by
  obtain ⟨i, hi, hcmp⟩ := Option.map_eq_some_iff.1 isComp
  obtain ⟨j, hj, hjs⟩ := Option.map_eq_some_iff.1 isSize
  have tT := callTypeOf
  have cT := callComparable
  have mR := isMethodComparable
  have nW := noIsF
  have uW := hasUnwrapF
  have mU := methodUnwrapF
  have heq := fun w => run_eql_iface_ptr_same (P := Tryz.prog) w b Tryz.underlying98 Tryz.underlying205 hi hcmp hj
  have hty := fun (w : World) => run_eql_iface_types (P := Tryz.prog) 107 205 (.agg #[.int .i64 pos, .iface 205 (.pointer (some b))]) (.pointer (some b)) Tryz.underlying98 (by decide) w
  go_enter Tryz.func89, Tryz.ntmps89
  go_wp2
  refine wp_loop_rounds 2 ?_
  rw [rounds_succ]
  go_wp2
  rw [rounds_succ]
  go_wp2
  go_ret
  exact ⟨rfl, (Below.refl _ _).alloc (Nat.le_refl _) _⟩
set_option maxRecDepth 100000 in
set_option maxHeartbeats 1000000 in
theorem is_other (pos : Int) (a b : Addr) (w : World) (hne : a ≠ b) (ha : ∃ c t, w.heap[a.block]? = some (.cells c t (0, 0))) (hb : ∃ c t, w.heap[b.block]? = some (.cells c t (0, 0))) :
    Calls Tryz.prog 89 #[.iface 107 (.agg #[.int .i64 pos, .iface 205 (.pointer (some a))]), .iface 205 (.pointer (some b))] w fun e w' => e = .returned (.bool false) ∧ Below w.heap.size w w' := by
  obtain ⟨i, hi, hcmp⟩ := Option.map_eq_some_iff.1 isComp
  obtain ⟨j, hj, hjs⟩ := Option.map_eq_some_iff.1 isSize
  obtain ⟨ca, ta, ha⟩ := ha
  obtain ⟨cb, tb, hb⟩ := hb
  have tT := callTypeOf
  have cT := callComparable
  have mR := isMethodComparable
  have nW := noIsF
  have nE := noIsE
  have nU := noUnwrapE
  have nUs := noUnwrapsE
  have uW := hasUnwrapF
  have mU := methodUnwrapF
  have hbn := below_new w (.cells #[.int .i64 pos, .iface 205 (.pointer (some a))] 107)
  have heq := run_eql_iface_ptr_other (P := Tryz.prog) (w.alloc (.cells #[.int .i64 pos, .iface 205 (.pointer (some a))] 107)) Tryz.underlying98 Tryz.underlying205 hi hcmp hj (by rw [hjs]; decide) hne ((hbn.block _ (Array.getElem?_eq_some_iff.1 ha).1).trans ha) ((hbn.block _ (Array.getElem?_eq_some_iff.1 hb).1).trans hb)
  have hty := fun (w : World) => run_eql_iface_types (P := Tryz.prog) 107 205 (.agg #[.int .i64 pos, .iface 205 (.pointer (some a))]) (.pointer (some b)) Tryz.underlying98 (by decide) w
  clear ha hb
  go_enter Tryz.func89, Tryz.ntmps89
  go_wp2
  refine wp_loop_rounds 2 ?_
  rw [rounds_succ]
  go_wp2
  rw [rounds_succ]
  go_wp2
  go_ret
  exact ⟨rfl, hbn⟩
end Go.Proofs.YtifoiiaddcgngaaGreatDoor
