/- errors.Is at a flaw of a block, whose cause is the one asked for, or another one. -/
import Derived.Test.YtbkecaenjjlmoaaGreatDoorKitIs
import Derived.LaidEql
import Derived.Stop.Asserts
import Derived.RowKitTokens
namespace Go.Proofs.YtbkecaenjjlmoaaGreatDoor
open Go.RowKit Go.Extern.Stop Go.Stop Go.Extern
theorem noIsUF (v : Value) (xT : TypeId) (w : World) : (Instr.typeAssert (.iface 88 v) xT 225 true).run Tryz.prog w = .ok (.tuple #[.nilIface, .bool false]) w := run_typeAssert_lacksB Tryz.underlying225 (by kernel_rfl) (by kernel_rfl) v xT w
theorem hasUnwrapUF (v : Value) (xT : TypeId) (w : World) : (Instr.typeAssert (.iface 88 v) xT 205 true).run Tryz.prog w = .ok (.tuple #[.iface 88 v, .bool true]) w := run_typeAssert_hasB Tryz.underlying205 (by kernel_rfl) v xT w
theorem methodUnwrapUF (v : Value) (w : World) : (Go.method 362 88 v "Unwrap").run Tryz.prog w = .ok (138, v) w := by kernel_rfl
set_option maxRecDepth 100000 in
set_option maxHeartbeats 1000000 in
theorem uis_same (pos : Int) (b : Addr) (w : World) :
    Calls Tryz.prog 72 #[.iface 88 (.agg #[.int .i64 pos, .iface 230 (.pointer (some b))]), .iface 230 (.pointer (some b))] w fun e w' => e = .returned (.bool true) ∧ Below w.heap.size w w' := by
  obtain ⟨i, hi, hcmp⟩ := Option.map_eq_some_iff.1 isComp
  obtain ⟨j, hj, hjs⟩ := Option.map_eq_some_iff.1 isSize
  have tT := callTypeOf
  have cT := callComparable
  have mR := isMethodComparable
  have nW := noIsUF
  have uW := hasUnwrapUF
  have mU := methodUnwrapUF
  have heq := fun w => run_eql_iface_ptr_same (P := Tryz.prog) w b Tryz.underlying43 Tryz.underlying230 hi hcmp hj
  have hty := fun (w : World) => run_eql_iface_types (P := Tryz.prog) 88 230 (.agg #[.int .i64 pos, .iface 230 (.pointer (some b))]) (.pointer (some b)) Tryz.underlying43 (by decide) w
  go_enter Tryz.func72, Tryz.ntmps72
  go_wp2
  refine wp_loop_rounds 2 ?_
  rw [rounds_succ]
  go_wp2
  rw [rounds_succ]
  go_wp2
  go_ret
  exact ⟨rfl, (Below.refl _ _).alloc (Nat.le_refl _) _⟩
set_option maxRecDepth 100000 in
set_option maxHeartbeats 1000000 in
theorem uis_other (pos : Int) (a b : Addr) (w : World) (hne : a ≠ b) (ha : ∃ c t, w.heap[a.block]? = some (.cells c t (0, 0))) (hb : ∃ c t, w.heap[b.block]? = some (.cells c t (0, 0))) :
    Calls Tryz.prog 72 #[.iface 88 (.agg #[.int .i64 pos, .iface 230 (.pointer (some a))]), .iface 230 (.pointer (some b))] w fun e w' => e = .returned (.bool false) ∧ Below w.heap.size w w' := by
  obtain ⟨i, hi, hcmp⟩ := Option.map_eq_some_iff.1 isComp
  obtain ⟨j, hj, hjs⟩ := Option.map_eq_some_iff.1 isSize
  obtain ⟨ca, ta, ha⟩ := ha
  obtain ⟨cb, tb, hb⟩ := hb
  have tT := callTypeOf
  have cT := callComparable
  have mR := isMethodComparable
  have nW := noIsUF
  have nE := noIsE
  have nU := noUnwrapE
  have nUs := noUnwrapsE
  have uW := hasUnwrapUF
  have mU := methodUnwrapUF
  have hbn := below_new w (.cells #[.int .i64 pos, .iface 230 (.pointer (some a))] 88)
  have heq := run_eql_iface_ptr_other (P := Tryz.prog) (w.alloc (.cells #[.int .i64 pos, .iface 230 (.pointer (some a))] 88)) Tryz.underlying43 Tryz.underlying230 hi hcmp hj (by rw [hjs]; decide) hne ((hbn.block _ (Array.getElem?_eq_some_iff.1 ha).1).trans ha) ((hbn.block _ (Array.getElem?_eq_some_iff.1 hb).1).trans hb)
  have hty := fun (w : World) => run_eql_iface_types (P := Tryz.prog) 88 230 (.agg #[.int .i64 pos, .iface 230 (.pointer (some a))]) (.pointer (some b)) Tryz.underlying43 (by decide) w
  clear ha hb
  go_enter Tryz.func72, Tryz.ntmps72
  go_wp2
  refine wp_loop_rounds 2 ?_
  rw [rounds_succ]
  go_wp2
  rw [rounds_succ]
  go_wp2
  go_ret
  exact ⟨rfl, hbn⟩
end Go.Proofs.YtbkecaenjjlmoaaGreatDoor
