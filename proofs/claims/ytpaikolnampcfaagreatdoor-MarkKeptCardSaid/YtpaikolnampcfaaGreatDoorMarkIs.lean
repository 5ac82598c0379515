/- errors.Is at the package mark's errors that wrap what a layer below told. -/
import Derived.Test.YtpaikolnampcfaaGreatDoorKitInts
import Derived.LaidEql
import Derived.Stop.Asserts
import Derived.RowKitTokens
namespace Go.Proofs.YtpaikolnampcfaaGreatDoor
open Go.RowKit Go.Extern.Stop Go.Stop Go.Extern
/-- What a layer below told, and at which block. -/
abbrev ktoldV (c : Int) : Value := .iface 142 (.int .i64 c)
abbrev blkV (n c : Int) : Value := .iface 234 (.agg #[.int .i64 n, ktoldV c])
theorem noIsKT (v : Value) (xT : TypeId) (w : World) : (Instr.typeAssert (.iface 142 v) xT 204 true).run Tryz.prog w = .ok (.tuple #[.nilIface, .bool false]) w := run_typeAssert_lacksB Tryz.underlying204 (by kernel_rfl) (by kernel_rfl) v xT w
theorem noUnwrapKT (v : Value) (xT : TypeId) (w : World) : (Instr.typeAssert (.iface 142 v) xT 207 true).run Tryz.prog w = .ok (.tuple #[.nilIface, .bool false]) w := run_typeAssert_lacksB Tryz.underlying207 (by kernel_rfl) (by kernel_rfl) v xT w
theorem noUnwrapsKT (v : Value) (xT : TypeId) (w : World) : (Instr.typeAssert (.iface 142 v) xT 208 true).run Tryz.prog w = .ok (.tuple #[.nilIface, .bool false]) w := run_typeAssert_lacksB Tryz.underlying208 (by kernel_rfl) (by kernel_rfl) v xT w
theorem noIsKF (v : Value) (xT : TypeId) (w : World) : (Instr.typeAssert (.iface 234 v) xT 204 true).run Tryz.prog w = .ok (.tuple #[.nilIface, .bool false]) w := run_typeAssert_lacksB Tryz.underlying204 (by kernel_rfl) (by kernel_rfl) v xT w
theorem hasUnwrapKF (v : Value) (xT : TypeId) (w : World) : (Instr.typeAssert (.iface 234 v) xT 207 true).run Tryz.prog w = .ok (.tuple #[.iface 234 v, .bool true]) w := run_typeAssert_hasB Tryz.underlying207 (by kernel_rfl) v xT w
theorem methodUnwrapKF (v : Value) (w : World) : (Go.method 394 234 v "Unwrap").run Tryz.prog w = .ok (213, v) w := by kernel_rfl
set_option maxRecDepth 100000 in
set_option maxHeartbeats 1000000 in
theorem kis_nil (b : Addr) (w : World) :
    Calls Tryz.prog 86 #[.nilIface, errK b] w fun e w' => e = .returned (.bool false) ∧ w = w' := by
  have hnl := fun (w : World) => run_eql_iface_nil_left (P := Tryz.prog) (w := w) 262 (.pointer (some b)) Tryz.underlying84
  unfold errK
  go_enter Tryz.func86, Tryz.ntmps86
  go_wp2
  go_ret
  exact ⟨rfl, rfl⟩
set_option maxRecDepth 100000 in
set_option maxHeartbeats 1000000 in
theorem kis_told (c : Int) (b : Addr) (w : World) :
    Calls Tryz.prog 86 #[ktoldV c, errK b] w fun e w' => e = .returned (.bool false) ∧ w = w' := by
  have tT := callTypeOf
  have cT := callComparable
  have mR := isMethodComparable
  have nE := noIsKT
  have nU := noUnwrapKT
  have nUs := noUnwrapsKT
  have hty := fun (w : World) => run_eql_iface_types (P := Tryz.prog) 142 262 (.int .i64 c) (.pointer (some b)) Tryz.underlying84 (by decide) w
  unfold errK
  go_enter Tryz.func86, Tryz.ntmps86
  go_wp2
  refine wp_loop_rounds 2 ?_
  rw [rounds_succ]
  go_wp2
  go_ret
  exact ⟨rfl, rfl⟩
set_option maxRecDepth 100000 in
set_option maxHeartbeats 1000000 in
theorem kis_blk (n c : Int) (b : Addr) (w : World) :
    Calls Tryz.prog 86 #[blkV n c, errK b] w fun e w' => e = .returned (.bool false) ∧ Below w.heap.size w w' := by
  have tT := callTypeOf
  have cT := callComparable
  have mR := isMethodComparable
  have nW := noIsKF
  have uW := hasUnwrapKF
  have mU := methodUnwrapKF
  have nE := noIsKT
  have nU := noUnwrapKT
  have nUs := noUnwrapsKT
  have hty := fun (w : World) => run_eql_iface_types (P := Tryz.prog) 234 262 (.agg #[.int .i64 n, ktoldV c]) (.pointer (some b)) Tryz.underlying84 (by decide) w
  have hty2 := fun (w : World) => run_eql_iface_types (P := Tryz.prog) 142 262 (.int .i64 c) (.pointer (some b)) Tryz.underlying84 (by decide) w
  unfold errK
  go_enter Tryz.func86, Tryz.ntmps86
  go_wp2
  refine wp_loop_rounds 2 ?_
  rw [rounds_succ]
  go_wp2
  rw [rounds_succ]
  go_wp2
  go_ret
  exact ⟨rfl, (Below.refl _ _).alloc (Nat.le_refl _) _⟩
end Go.Proofs.YtpaikolnampcfaaGreatDoor
