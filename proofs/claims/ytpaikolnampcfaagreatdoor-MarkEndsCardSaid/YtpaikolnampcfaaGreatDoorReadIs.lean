/- errors.Is at a flaw of a block, whose cause is the one asked for, or another one. -/
import Derived.Test.YtpaikolnampcfaaGreatDoorKitInts
import Derived.LaidEql
import Derived.Stop.Asserts
import Derived.RowKitTokens
import Derived.Test.YtpaikolnampcfaaGreatDoorReadField
namespace Go.Proofs.YtpaikolnampcfaaGreatDoor
set_option maxRecDepth 100000
set_option maxHeartbeats 1000000
open Go.RowKit Go.Extern.Stop Go.Stop Go.Extern
theorem noIsUF (v:Value) (xT:TypeId) (w:World):(Instr.typeAssert (.iface 222 v) xT 204 true).run Tryz.prog w= .ok (.tuple #[.nilIface,.bool false]) w:=run_typeAssert_lacksB Tryz.underlying204 (by kernel_rfl) (by kernel_rfl) v xT w
theorem hasUnwrapUF (v:Value) (xT:TypeId) (w:World):(Instr.typeAssert (.iface 222 v) xT 207 true).run Tryz.prog w= .ok (.tuple #[.iface 222 v,.bool true]) w:=run_typeAssert_hasB Tryz.underlying207 (by kernel_rfl) v xT w
theorem methodUnwrapUF (v:Value) (w:World):(Go.method 394 222 v "Unwrap").run Tryz.prog w= .ok (209,v) w:=by kernel_rfl
theorem uis_same (pos:Int) (b:Addr) (w:World):
 Calls Tryz.prog 86 #[.iface 222 (.agg #[.int .i64 pos,.iface 262 (.pointer (some b))]),.iface 262 (.pointer (some b))] w fun e w'=>e= .returned (.bool true)∧Below w.heap.size w w':=by
 obtain⟨i,hi,hcmp⟩:=Option.map_eq_some_iff.1 isComp
 obtain⟨j,hj,hjs⟩:=Option.map_eq_some_iff.1 isSize
 have tT:=callTypeOf
 have cT:=callComparable
 have mR:=isMethodComparable
 have nW:=noIsUF
 have uW:=hasUnwrapUF
 have mU:=methodUnwrapUF
 have heq:=fun w=>run_eql_iface_ptr_same (P:=Tryz.prog) w b Tryz.underlying84 Tryz.underlying262 hi hcmp hj
 have hty:=fun(w:World)=>run_eql_iface_types (P:=Tryz.prog) 222 262 (.agg #[.int .i64 pos,.iface 262 (.pointer (some b))]) (.pointer (some b)) Tryz.underlying84 (by decide) w
 go_enter Tryz.func86,Tryz.ntmps86
 go_wp2
 refine wp_loop_rounds 2 ?_
 rw [rounds_succ]
 go_wp2
 rw [rounds_succ]
 go_wp2
 go_ret
 exact⟨rfl,(Below.refl _ _).alloc (Nat.le_refl _) _⟩
theorem uis_other (pos:Int) (a b:Addr) (w:World) (hne:a≠b) (ha: ∃c t,w.heap[a.block]? =some (.cells c t (0,0))) (hb: ∃c t,w.heap[b.block]? =some (.cells c t (0,0))):
 Calls Tryz.prog 86 #[.iface 222 (.agg #[.int .i64 pos,.iface 262 (.pointer (some a))]),.iface 262 (.pointer (some b))] w fun e w'=>e= .returned (.bool false)∧Below w.heap.size w w':=by
 obtain⟨i,hi,hcmp⟩:=Option.map_eq_some_iff.1 isComp
 obtain⟨j,hj,hjs⟩:=Option.map_eq_some_iff.1 isSize
 obtain⟨ca,ta,ha⟩:=ha
 obtain⟨cb,tb,hb⟩:=hb
 have tT:=callTypeOf
 have cT:=callComparable
 have mR:=isMethodComparable
 have nW:=noIsUF
 have nE:=noIsE
 have nU:=noUnwrapE
 have nUs:=noUnwrapsE
 have uW:=hasUnwrapUF
 have mU:=methodUnwrapUF
 have hbn:=below_new w (.cells #[.int .i64 pos,.iface 262 (.pointer (some a))] 222)
 have heq:=run_eql_iface_ptr_other (P:=Tryz.prog) (w.alloc (.cells #[.int .i64 pos,.iface 262 (.pointer (some a))] 222)) Tryz.underlying84 Tryz.underlying262 hi hcmp hj (by rw [hjs];decide) hne ((hbn.block _ (Array.getElem?_eq_some_iff.1 ha).1).trans ha) ((hbn.block _ (Array.getElem?_eq_some_iff.1 hb).1).trans hb)
 have hty:=fun(w:World)=>run_eql_iface_types (P:=Tryz.prog) 222 262 (.agg #[.int .i64 pos,.iface 262 (.pointer (some a))]) (.pointer (some b)) Tryz.underlying84 (by decide) w
 clear ha hb
 go_enter Tryz.func86,Tryz.ntmps86
 go_wp2
 refine wp_loop_rounds 2 ?_
 rw [rounds_succ]
 go_wp2
 rw [rounds_succ]
 go_wp2
 go_ret
 exact⟨rfl,hbn⟩
open Go.RowKit Go.Extern.Stop Go.Stop Go.Extern
theorem noIsCF (v:Value) (xT:TypeId) (w:World):(Instr.typeAssert (.iface 231 v) xT 204 true).run Tryz.prog w= .ok (.tuple #[.nilIface,.bool false]) w:=run_typeAssert_lacksB Tryz.underlying204 (by kernel_rfl) (by kernel_rfl) v xT w
theorem hasUnwrapCF (v:Value) (xT:TypeId) (w:World):(Instr.typeAssert (.iface 231 v) xT 207 true).run Tryz.prog w= .ok (.tuple #[.iface 231 v,.bool true]) w:=run_typeAssert_hasB Tryz.underlying207 (by kernel_rfl) v xT w
theorem methodUnwrapCF (v:Value) (w:World):(Go.method 394 231 v "Unwrap").run Tryz.prog w= .ok (211,v) w:=by kernel_rfl
theorem cis_same (pos:Int) (b:Addr) (w:World):
 Calls Tryz.prog 86 #[.iface 231 (.agg #[.int .i64 pos,.iface 262 (.pointer (some b))]),.iface 262 (.pointer (some b))] w fun e w'=>e= .returned (.bool true)∧Below w.heap.size w w':=by
 obtain⟨i,hi,hcmp⟩:=Option.map_eq_some_iff.1 isComp
 obtain⟨j,hj,hjs⟩:=Option.map_eq_some_iff.1 isSize
 have tT:=callTypeOf
 have cT:=callComparable
 have mR:=isMethodComparable
 have nW:=noIsCF
 have uW:=hasUnwrapCF
 have mU:=methodUnwrapCF
 have heq:=fun w=>run_eql_iface_ptr_same (P:=Tryz.prog) w b Tryz.underlying84 Tryz.underlying262 hi hcmp hj
 have hty:=fun(w:World)=>run_eql_iface_types (P:=Tryz.prog) 231 262 (.agg #[.int .i64 pos,.iface 262 (.pointer (some b))]) (.pointer (some b)) Tryz.underlying84 (by decide) w
 go_enter Tryz.func86,Tryz.ntmps86
 go_wp2
 refine wp_loop_rounds 2 ?_
 rw [rounds_succ]
 go_wp2
 rw [rounds_succ]
 go_wp2
 go_ret
 exact⟨rfl,(Below.refl _ _).alloc (Nat.le_refl _) _⟩
theorem cis_other (pos:Int) (a b:Addr) (w:World) (hne:a≠b) (ha: ∃c t,w.heap[a.block]? =some (.cells c t (0,0))) (hb: ∃c t,w.heap[b.block]? =some (.cells c t (0,0))):
 Calls Tryz.prog 86 #[.iface 231 (.agg #[.int .i64 pos,.iface 262 (.pointer (some a))]),.iface 262 (.pointer (some b))] w fun e w'=>e= .returned (.bool false)∧Below w.heap.size w w':=by
 obtain⟨i,hi,hcmp⟩:=Option.map_eq_some_iff.1 isComp
 obtain⟨j,hj,hjs⟩:=Option.map_eq_some_iff.1 isSize
 obtain⟨ca,ta,ha⟩:=ha
 obtain⟨cb,tb,hb⟩:=hb
 have tT:=callTypeOf
 have cT:=callComparable
 have mR:=isMethodComparable
 have nW:=noIsCF
 have nE:=noIsE
 have nU:=noUnwrapE
 have nUs:=noUnwrapsE
 have uW:=hasUnwrapCF
 have mU:=methodUnwrapCF
 have hbn:=below_new w (.cells #[.int .i64 pos,.iface 262 (.pointer (some a))] 231)
 have heq:=run_eql_iface_ptr_other (P:=Tryz.prog) (w.alloc (.cells #[.int .i64 pos,.iface 262 (.pointer (some a))] 231)) Tryz.underlying84 Tryz.underlying262 hi hcmp hj (by rw [hjs];decide) hne ((hbn.block _ (Array.getElem?_eq_some_iff.1 ha).1).trans ha) ((hbn.block _ (Array.getElem?_eq_some_iff.1 hb).1).trans hb)
 have hty:=fun(w:World)=>run_eql_iface_types (P:=Tryz.prog) 231 262 (.agg #[.int .i64 pos,.iface 262 (.pointer (some a))]) (.pointer (some b)) Tryz.underlying84 (by decide) w
 clear ha hb
 go_enter Tryz.func86,Tryz.ntmps86
 go_wp2
 refine wp_loop_rounds 2 ?_
 rw [rounds_succ]
 go_wp2
 rw [rounds_succ]
 go_wp2
 go_ret
 exact⟨rfl,hbn⟩
end Go.Proofs.YtpaikolnampcfaaGreatDoor
