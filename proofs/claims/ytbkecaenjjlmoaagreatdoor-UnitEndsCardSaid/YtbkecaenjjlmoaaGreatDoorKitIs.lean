/- errors.Is, its look-ups at errors of errors.New's make: one of them, and another one. -/
import Derived.Test.YtbkecaenjjlmoaaGreatDoorKitChg
import Derived.Test.YtbkecaenjjlmoaaGreatDoorChecked
import Derived.LaidEql
import Derived.Stop.Asserts
import Derived.RowKitTokens
namespace Go.Proofs.YtbkecaenjjlmoaaGreatDoor
open Go.RowKit Go.Extern.Stop Go.Stop Go.Extern
/-- An error of errors.New's make, at this address. -/
abbrev errK (a : Addr) : Value := .iface 230 (.pointer (some a))
theorem isTypeOf (v : Value) (w : World) : (Extern.ReflectliteType.typeOf #[.iface 230 v]).run Tryz.prog w = .ok (.iface 197 (.agg #[.pointer (some ⟨13, 230, none⟩)])) w := by kernel_rfl
theorem callTypeOf (v : Value) (w : World) : (callFunc 100 #[.iface 230 v]).run Tryz.prog w = .ok (.value (.iface 197 (.agg #[.pointer (some ⟨13, 230, none⟩)]))) w := by
  rw [@run_callFunc_extern Tryz.prog 100 _ Extern.ReflectliteType.typeOf Tryz.func100 (by kernel_rfl) (by kernel_rfl) (by kernel_rfl) (by kernel_rfl), isTypeOf]; rfl
theorem isComparable (w : World) : ((Extern.ReflectliteType.method fun t => do Rtype.noPackHeld "Comparable" t; pure (.bool (← typeInfo t).comparable)) #[.agg #[.pointer (some ⟨13, 230, none⟩)]]).run Tryz.prog w = .ok (.bool true) w := by kernel_rfl
theorem callComparable (w : World) : (callFunc 146 #[.agg #[.pointer (some ⟨13, 230, none⟩)]]).run Tryz.prog w = .ok (.value (.bool true)) w := by
  rw [@run_callFunc_extern Tryz.prog 146 _ (Extern.ReflectliteType.method fun t => do Rtype.noPackHeld "Comparable" t; pure (.bool (← typeInfo t).comparable)) Tryz.func146 (by kernel_rfl) (by kernel_rfl) (by kernel_rfl) (by kernel_rfl), isComparable]; rfl
theorem isMethodComparable (v : Value) (w : World) : (Go.method 362 197 v "Comparable").run Tryz.prog w = .ok (146, v) w := by kernel_rfl
theorem isComp : (Tryz.prog.info? 230).map (·.comparable) = some true := by kernel_rfl
theorem isSize : (Tryz.prog.info? 250).map (·.size) = some 1 := by kernel_rfl
theorem noIsE (v : Value) (xT : TypeId) (w : World) : (Instr.typeAssert (.iface 230 v) xT 225 true).run Tryz.prog w = .ok (.tuple #[.nilIface, .bool false]) w := run_typeAssert_lacksB Tryz.underlying225 (by kernel_rfl) (by kernel_rfl) v xT w
theorem noUnwrapE (v : Value) (xT : TypeId) (w : World) : (Instr.typeAssert (.iface 230 v) xT 205 true).run Tryz.prog w = .ok (.tuple #[.nilIface, .bool false]) w := run_typeAssert_lacksB Tryz.underlying205 (by kernel_rfl) (by kernel_rfl) v xT w
theorem noUnwrapsE (v : Value) (xT : TypeId) (w : World) : (Instr.typeAssert (.iface 230 v) xT 206 true).run Tryz.prog w = .ok (.tuple #[.nilIface, .bool false]) w := run_typeAssert_lacksB Tryz.underlying206 (by kernel_rfl) (by kernel_rfl) v xT w
def There (w : World) (a : Addr) : Prop := ∃ c t, w.heap[a.block]? = some (.cells c t (0, 0))
set_option maxRecDepth 100000 in
set_option maxHeartbeats 1000000 in
theorem is_ptr_same (b : Addr) (w : World) :
    Calls Tryz.prog 72 #[errK b, errK b] w fun e w' => e = .returned (.bool true) ∧ w = w' := by
  obtain ⟨i, hi, hcmp⟩ := Option.map_eq_some_iff.1 isComp
  obtain ⟨j, hj, hjs⟩ := Option.map_eq_some_iff.1 isSize
  have tT := callTypeOf
  have cT := callComparable
  have mR := isMethodComparable
  have heq := fun w => run_eql_iface_ptr_same (P := Tryz.prog) w b Tryz.underlying43 Tryz.underlying230 hi hcmp hj
  unfold errK
  go_enter Tryz.func72, Tryz.ntmps72
  go_wp2
  refine wp_loop_rounds 2 ?_
  rw [rounds_succ]
  go_wp2
  go_ret
  exact ⟨rfl, rfl⟩
set_option maxRecDepth 100000 in
set_option maxHeartbeats 1000000 in
theorem is_ptr_other (a b : Addr) (w : World) (hne : a ≠ b) (ha : There w a) (hb : There w b) :
    Calls Tryz.prog 72 #[errK a, errK b] w fun e w' => e = .returned (.bool false) ∧ w = w' := by
  obtain ⟨i, hi, hcmp⟩ := Option.map_eq_some_iff.1 isComp
  obtain ⟨j, hj, hjs⟩ := Option.map_eq_some_iff.1 isSize
  obtain ⟨ca, ta, ha⟩ := ha
  obtain ⟨cb, tb, hb⟩ := hb
  have tT := callTypeOf
  have cT := callComparable
  have mR := isMethodComparable
  have nE := noIsE
  have nU := noUnwrapE
  have nUs := noUnwrapsE
  have heq := run_eql_iface_ptr_other (P := Tryz.prog) w Tryz.underlying43 Tryz.underlying230 hi hcmp hj (by rw [hjs]; decide) hne ha hb
  clear ha hb
  unfold errK
  go_enter Tryz.func72, Tryz.ntmps72
  go_wp2
  refine wp_loop_rounds 2 ?_
  rw [rounds_succ]
  go_wp2
  go_ret
  exact ⟨rfl, rfl⟩
theorem There.lt {w : World} {a : Addr} (h : There w a) : a.block < w.heap.size := by
  obtain ⟨c, t, h⟩ := h
  exact (Array.getElem?_eq_some_iff.1 h).1
theorem There.keep {w w' : World} {a : Addr} (h : There w a) (hk : w'.heap[a.block]? = w.heap[a.block]?) : There w' a := by
  obtain ⟨c, t, h⟩ := h
  exact ⟨c, t, hk.trans h⟩
theorem There.below {w w' : World} {a : Addr} (h : There w a) (hb : Below w.heap.size w w') : There w' a := h.keep (hb.block _ h.lt)
end Go.Proofs.YtbkecaenjjlmoaaGreatDoor
