/- errors.As at a flaw of a block. -/
/- errors.Is at a fault, whose cause is the one asked for, or another one. -/
/- The code of a reader's error. -/
/- A reader's error. -/
import Derived.Test.YtpdfmpegcejmkaaGreatDoorReadAs
import Derived.Test.YtpdfmpegcejmkaaGreatDoorReadField
import Derived.Test.YtpdfmpegcejmkaaGreatDoorKitChg
import Derived.LaidEql
import Derived.Stop.Asserts
import Derived.RowKitTokens
import Derived.Test.YtpdfmpegcejmkaaGreatDoorCodeAdd
import Derived.Deep.RegionHeld3
namespace Go.Proofs.YtpdfmpegcejmkaaGreatDoor
open Go.RowKit Go.Extern.Stop Go.Stop Go.Extern
/-! closed facts on the model's entries for reflectlite, at this program's types -/
abbrev tyPU : Value := .pointer (some ⟨20, 278, none⟩)
abbrev tyFU : Value := .pointer (some ⟨20, 277, none⟩)
theorem asValueOfPU (t : Addr) (w : World) : (ReflectliteValue.unpack (.iface 278 (.pointer (some t)))).run Tryz.prog w
    = .ok (.agg #[tyPU, .pointer (some ⟨w.heap.size, 0, none⟩), .int .u64 150]) (w.alloc (.cells #[.pointer (some t)] 278)) := by kernel_rfl
theorem asTypePU (a : Addr) (w : World) : (ReflectliteValue.methodAny (ReflectliteValue.valueError "reflectlite.Value.Type" 0) (fun t _ _ _ => ReflectliteType.toType t) #[.agg #[tyPU, .pointer (some a), .int .u64 150]]).run Tryz.prog w
    = .ok (.iface 256 (.agg #[tyPU])) w := by kernel_rfl
theorem asKindPU (w : World) : ((ReflectliteType.abiMethod fun t => (fun a : Nat => Value.int IntKind.u8 (a : Int)) <$> Rtype.kind t) #[tyPU]).run Tryz.prog w = .ok (.int .u8 22) w := by kernel_rfl
theorem asKindFU (w : World) : ((ReflectliteType.abiMethod fun t => (fun a : Nat => Value.int IntKind.u8 (a : Int)) <$> Rtype.kind t) #[tyFU]).run Tryz.prog w = .ok (.int .u8 25) w := by kernel_rfl
theorem asValueOfFU (pos : Int) (a : Addr) (w : World) : (ReflectliteValue.unpack (.iface 277 (.agg #[.int .i64 pos, .iface 288 (.pointer (some a))]))).run Tryz.prog w
    = .ok (.agg #[tyFU, .pointer (some ⟨w.heap.size, 0, none⟩), .int .u64 153]) (w.alloc (.cells #[.int .i64 pos, .iface 288 (.pointer (some a))] 277)) := by kernel_rfl
theorem asPartsPU (a : Addr) (w : World) : (ReflectliteValue.parts (.agg #[tyPU, .pointer (some a), .int .u64 150])).run Tryz.prog w = .ok (some (278, a, 150)) w := by kernel_rfl
theorem asIsNilU (a p : Addr) (W : World) (ha : W.cell? a = some (.pointer (some p))) :
    (ReflectliteValue.method (ReflectliteValue.valueError "reflectlite.Value.IsNil" 0) ReflectliteValue.isNil #[.agg #[tyPU, .pointer (some a), .int .u64 150]]).run Tryz.prog W = .ok (.bool false) W := by
  rw [asRlm]
  simp only [Sem.run_bind, asPartsPU, Result.andThen]
  simp [ReflectliteValue.isNil, loadVar, isAgg, underlying, Tryz.underlying278, ha, Result.andThen]
theorem asElemPU (w : World) : (ReflectliteType.method ReflectliteType.elem #[.agg #[tyPU]]).run Tryz.prog w = .ok (.iface 256 (.agg #[tyFU])) w := by kernel_rfl
theorem asImplementsFU (w : World) : (ReflectliteType.relation "Implements" ReflectliteType.implements_ #[.agg #[tyFU], .iface 256 (.agg #[tyE])]).run Tryz.prog w = .ok (.bool true) w := by kernel_rfl
theorem asTypeOfFU (v : Value) (w : World) : (ReflectliteType.typeOf #[.iface 277 v]).run Tryz.prog w = .ok (.iface 256 (.agg #[tyFU])) w := by kernel_rfl
theorem asAssignableFU (w : World) : (ReflectliteType.relation "AssignableTo" ReflectliteType.assignableTo #[.agg #[tyFU], .iface 256 (.agg #[tyFU])]).run Tryz.prog w = .ok (.bool true) w := by kernel_rfl
theorem asElemOfPU (w : World) : (Rtype.elem? 278).run Tryz.prog w = .ok (some 277) w := by kernel_rfl
theorem asMkFU (p : Addr) (w : World) : (ReflectliteValue.mk 277 p ReflectliteValue.flagAddr).run Tryz.prog w = .ok (.agg #[tyFU, .pointer (some p), .int .u64 409]) w := by kernel_rfl
theorem asElemVU (a p : Addr) (W : World) (ha : W.cell? a = some (.pointer (some p))) :
    (ReflectliteValue.method (ReflectliteValue.valueError "reflectlite.Value.Elem" 0) ReflectliteValue.elem #[.agg #[tyPU, .pointer (some a), .int .u64 150]]).run Tryz.prog W
      = .ok (.agg #[tyFU, .pointer (some p), .int .u64 409]) W := by
  rw [asRlm]
  simp only [Sem.run_bind, asPartsPU, Result.andThen]
  simp [ReflectliteValue.elem, loadVar, isAgg, underlying, Tryz.underlying278, ha, Result.andThen, asElemOfPU, asMkFU]
theorem asPartsFaU (a : Addr) (w : World) : (ReflectliteValue.parts (.agg #[tyFU, .pointer (some a), .int .u64 409])).run Tryz.prog w = .ok (some (277, a, 409)) w := by kernel_rfl
theorem asPartsFU (a : Addr) (w : World) : (ReflectliteValue.parts (.agg #[tyFU, .pointer (some a), .int .u64 153])).run Tryz.prog w = .ok (some (277, a, 153)) w := by kernel_rfl
theorem asDirectFU (w : World) : (Rtype.directlyAssignable 277 277).run Tryz.prog w = .ok true w := by kernel_rfl
/-- (Value).Set at a fault's variable in block q: it gets what the Value's own variable in block b holds. -/
theorem asSetFU (q b : Nat) (x y o0 o1 : Value) (W : World) (hb : BlockIs W b 277 #[x, y]) (hq : BlockIs W q 277 #[o0, o1]) (hx : x.oneCell' = true) (hy : y.oneCell' = true) :
    (ReflectliteValue.set #[.agg #[tyFU, .pointer (some ⟨q, 0, none⟩), .int .u64 409], .agg #[tyFU, .pointer (some ⟨b, 0, none⟩), .int .u64 153]]).run Tryz.prog W
      = .ok (.tuple #[]) ((W.setCell ⟨q, 0, none⟩ x).setCell ⟨q, 1, none⟩ y) := by
  have b0 : W.cell? ⟨b, 0, none⟩ = some x := hb.cell 0
  have b1 : W.cell? ⟨b, 1, none⟩ = some y := hb.cell 1
  have q0 : W.cell? ⟨q, 0, none⟩ = some o0 := hq.cell 0
  have q1 : W.cell? ⟨q, 1, none⟩ = some o1 := hq.cell 1
  have f0 := hq.free 0
  have f1 := hq.free 1
  have hl : (loadCells ⟨b, 0, none⟩ 2).run Tryz.prog W = .ok #[x, y] W := run_loadCells_list (P := Tryz.prog) W ⟨b, 0, none⟩ [x, y] (fun j v hj => by
    match j, hj with
    | 0, hj => obtain rfl : x = v := by simpa using hj
               exact b0
    | 1, hj => obtain rfl : y = v := by simpa using hj
               exact b1
    | j + 2, hj => simp at hj)
  rw [asRls]
  simp only [Sem.run_bind, asPartsFaU, asPartsFU, Result.andThen]
  simp [ReflectliteValue.flagAddr, loadVar, isAgg, underlying, Tryz.underlying277, hl, Result.andThen, asDirectFU, storeVar, Value.cells, storeCells, Addr.add]
  rw [run_store Tryz.prog W _ _ _ hx]
  simp [q0, f0]
  rw [run_store Tryz.prog _ _ _ _ hy]
  have q1' : (W.setCell ⟨q, 0, none⟩ x).cell? ⟨q, 1, none⟩ = some o1 := (hq.set1 0 x).cell 1
  have f1' := (hq.set1 0 x).free 1
  simp [q1', f1']
set_option maxRecDepth 100000 in
set_option maxHeartbeats 4000000 in
theorem uas_hit (pos : Int) (a : Addr) (q : Nat) (o0 o1 : Value) (w : World) (hg : w.cell? ⟨10, 0, none⟩ = some (.iface 256 (.agg #[tyE]))) (hq : BlockIs w q 277 #[o0, o1]) :
    Calls Tryz.prog 97 #[.iface 277 (.agg #[.int .i64 pos, .iface 288 (.pointer (some a))]), .iface 278 (.pointer (some ⟨q, 0, none⟩))] w fun ev w' => ev = .returned (.bool true) ∧ BlockIs w' q 277 #[.int .i64 pos, .iface 288 (.pointer (some a))] ∧ w.grownBy w' (some q) := by
  have hlt : q < w.heap.size := hq.lt
  have hgl : 10 < w.heap.size := World.block_lt_of_cell? _ _ hg
  have h1 := @run_callFunc_extern Tryz.prog 135 _ (fun args => ReflectliteValue.unpack (args.getD 0 (.tuple #[]))) Tryz.func135 (by kernel_rfl) (by kernel_rfl) (by kernel_rfl) (by kernel_rfl)
  have h2 := @run_callFunc_extern Tryz.prog 136 _ (ReflectliteValue.methodAny (ReflectliteValue.valueError "reflectlite.Value.Type" 0) (fun t _ _ _ => ReflectliteType.toType t)) Tryz.func136 (by kernel_rfl) (by kernel_rfl) (by kernel_rfl) (by kernel_rfl)
  have h3 := @run_callFunc_extern Tryz.prog 137 _ (ReflectliteValue.method (ReflectliteValue.valueError "reflectlite.Value.IsNil" 0) ReflectliteValue.isNil) Tryz.func137 (by kernel_rfl) (by kernel_rfl) (by kernel_rfl) (by kernel_rfl)
  have h4 := @run_callFunc_extern Tryz.prog 194 _ (ReflectliteType.abiMethod fun t => do pure (.int .u8 (← Rtype.kind t))) Tryz.func194 (by kernel_rfl) (by kernel_rfl) (by kernel_rfl) (by kernel_rfl)
  have h5 := @run_callFunc_extern Tryz.prog 208 _ (ReflectliteType.method ReflectliteType.elem) Tryz.func208 (by kernel_rfl) (by kernel_rfl) (by kernel_rfl) (by kernel_rfl)
  have h6 := @run_callFunc_extern Tryz.prog 209 _ (ReflectliteType.relation "Implements" ReflectliteType.implements_) Tryz.func209 (by kernel_rfl) (by kernel_rfl) (by kernel_rfl) (by kernel_rfl)
  have h7 := @run_callFunc_extern Tryz.prog 139 _ ReflectliteType.typeOf Tryz.func139 (by kernel_rfl) (by kernel_rfl) (by kernel_rfl) (by kernel_rfl)
  have h8 := @run_callFunc_extern Tryz.prog 206 _ (ReflectliteType.relation "AssignableTo" ReflectliteType.assignableTo) Tryz.func206 (by kernel_rfl) (by kernel_rfl) (by kernel_rfl) (by kernel_rfl)
  have h9 := @run_callFunc_extern Tryz.prog 161 _ (ReflectliteValue.method (ReflectliteValue.valueError "reflectlite.Value.Elem" 0) ReflectliteValue.elem) Tryz.func161 (by kernel_rfl) (by kernel_rfl) (by kernel_rfl) (by kernel_rfl)
  have h10 := @run_callFunc_extern Tryz.prog 162 _ ReflectliteValue.set Tryz.func162 (by kernel_rfl) (by kernel_rfl) (by kernel_rfl) (by kernel_rfl)
  have tO := asTypeOfFU
  have mA := asMethodAssignableTo
  have aF := asAssignableFU
  have vF := asValueOfFU
  have vP := asValueOfPU
  have tP := asTypePU
  have mK := asMethodKind
  have mE := asMethodElem
  have mI := asMethodImplements
  have kP := asKindPU
  have kF := asKindFU
  have eP := asElemPU
  have iF := asImplementsFU
  have n8 := asIsNilU ⟨w.heap.size, 0, none⟩ ⟨q, 0, none⟩ ((w.alloc (.cells #[.pointer (some ⟨q, 0, none⟩)] 278)).alloc (.cells #[tyPU, .pointer (some ⟨w.heap.size, 0, none⟩), .int .u64 150] 194)) (by simp)
  have hg2 : ((w.alloc (.cells #[.pointer (some ⟨q, 0, none⟩)] 278)).alloc (.cells #[tyPU, .pointer (some ⟨w.heap.size, 0, none⟩), .int .u64 150] 194)).cell? ⟨10, 0, none⟩ = some (.iface 256 (.agg #[tyE])) := by
    rw [World.cell?_alloc_lt _ _ ⟨10, 0, none⟩ (by simp; omega), World.cell?_alloc_lt _ _ ⟨10, 0, none⟩ hgl]; exact hg
  have el := asElemVU ⟨w.heap.size, 0, none⟩ ⟨q, 0, none⟩ (((w.alloc (.cells #[.pointer (some ⟨q, 0, none⟩)] 278)).alloc (.cells #[tyPU, .pointer (some ⟨w.heap.size, 0, none⟩), .int .u64 150] 194)).alloc (.cells #[tyPU, .pointer (some ⟨w.heap.size, 0, none⟩), .int .u64 150] 194)) (by rw [World.cell?_alloc_lt _ _ ⟨w.heap.size, 0, none⟩ (by simp; omega)]; simp)
  have hb1 := below_new w (.cells #[.pointer (some ⟨q, 0, none⟩)] 278)
  have hb2 := hb1.alloc (by simp) (.cells #[tyPU, .pointer (some ⟨w.heap.size, 0, none⟩), .int .u64 150] 194)
  have hb3 := hb2.alloc (by simp; omega) (.cells #[tyPU, .pointer (some ⟨w.heap.size, 0, none⟩), .int .u64 150] 194)
  have hb4 := hb3.alloc (by simp; omega) (.cells #[.int .i64 pos, .iface 288 (.pointer (some a))] 277)
  have hq4 := hq.below hb4 hlt
  have hv4 := BlockIs.made (((w.alloc (.cells #[.pointer (some ⟨q, 0, none⟩)] 278)).alloc (.cells #[tyPU, .pointer (some ⟨w.heap.size, 0, none⟩), .int .u64 150] 194)).alloc (.cells #[tyPU, .pointer (some ⟨w.heap.size, 0, none⟩), .int .u64 150] 194)) 277 #[.int .i64 pos, .iface 288 (.pointer (some a))]
  simp only [World.size_alloc] at hv4
  have st := asSetFU q (w.heap.size + 1 + 1 + 1) _ _ o0 o1 _ hv4 hq4 rfl rfl
  have hB5 := (hq4.set1 0 (.int .i64 pos)).set1 1 (.iface 288 (.pointer (some a)))
  have hG5 := grown_at (grown_at (grown_below hb4 (some q)) 0 (.int .i64 pos)) 1 (.iface 288 (.pointer (some a)))
  have HF := Lib.hid (And.intro hB5 hG5)
  clear hb1 hb2 hb3 hb4 hq4 hv4 hB5 hG5 hq hg
  unfold tyPU tyFU tyE at *
  go_enter Tryz.func97, Tryz.ntmps97
  go_wp2
  refine wp_loop_rounds 1 ?_
  rw [rounds_succ]
  go_wp2
  go_ret
  exact ⟨rfl, HF.out.1, HF.out.2⟩
end Go.Proofs.YtpdfmpegcejmkaaGreatDoor
namespace Go.Proofs.YtpdfmpegcejmkaaGreatDoor
open Go.RowKit Go.Extern.Stop Go.Stop Go.Extern
theorem noIsCF (v : Value) (xT : TypeId) (w : World) : (Instr.typeAssert (.iface 213 v) xT 267 true).run Tryz.prog w = .ok (.tuple #[.nilIface, .bool false]) w := run_typeAssert_lacksB Tryz.underlying267 (by kernel_rfl) (by kernel_rfl) v xT w
theorem hasUnwrapCF (v : Value) (xT : TypeId) (w : World) : (Instr.typeAssert (.iface 213 v) xT 263 true).run Tryz.prog w = .ok (.tuple #[.iface 213 v, .bool true]) w := run_typeAssert_hasB Tryz.underlying263 (by kernel_rfl) v xT w
theorem methodUnwrapCF (v : Value) (w : World) : (Go.method 420 213 v "Unwrap").run Tryz.prog w = .ok (204, v) w := by kernel_rfl
set_option maxRecDepth 100000 in
set_option maxHeartbeats 1000000 in
theorem cis_same (pos : Int) (b : Addr) (w : World) :
    Calls Tryz.prog 98 #[.iface 213 (.agg #[.int .i64 pos, .iface 288 (.pointer (some b))]), .iface 288 (.pointer (some b))] w fun e w' => e = .returned (.bool true) ∧ Below w.heap.size w w' := by
  obtain ⟨i, hi, hcmp⟩ := Option.map_eq_some_iff.1 isComp
  obtain ⟨j, hj, hjs⟩ := Option.map_eq_some_iff.1 isSize
  have tT := callTypeOf
  have cT := callComparable
  have mR := isMethodComparable
  have nW := noIsCF
  have uW := hasUnwrapCF
  have mU := methodUnwrapCF
  have heq := fun w => run_eql_iface_ptr_same (P := Tryz.prog) w b Tryz.underlying106 Tryz.underlying288 hi hcmp hj
  have hty := fun (w : World) => run_eql_iface_types (P := Tryz.prog) 213 288 (.agg #[.int .i64 pos, .iface 288 (.pointer (some b))]) (.pointer (some b)) Tryz.underlying106 (by decide) w
  go_enter Tryz.func98, Tryz.ntmps98
  go_wp2
  refine wp_loop_rounds 2 ?_
  rw [rounds_succ]
  go_wp2
  rw [rounds_succ]
  go_wp2
  go_ret
  exact ⟨rfl, (Below.refl _ _).alloc (Nat.le_refl _) _⟩
set_option maxRecDepth 100000 in
set_option maxHeartbeats 1000000 in
theorem cis_other (pos : Int) (a b : Addr) (w : World) (hne : a ≠ b) (ha : ∃ c t, w.heap[a.block]? = some (.cells c t (0, 0))) (hb : ∃ c t, w.heap[b.block]? = some (.cells c t (0, 0))) :
    Calls Tryz.prog 98 #[.iface 213 (.agg #[.int .i64 pos, .iface 288 (.pointer (some a))]), .iface 288 (.pointer (some b))] w fun e w' => e = .returned (.bool false) ∧ Below w.heap.size w w' := by
  obtain ⟨i, hi, hcmp⟩ := Option.map_eq_some_iff.1 isComp
  obtain ⟨j, hj, hjs⟩ := Option.map_eq_some_iff.1 isSize
  obtain ⟨ca, ta, ha⟩ := ha
  obtain ⟨cb, tb, hb⟩ := hb
  have tT := callTypeOf
  have cT := callComparable
  have mR := isMethodComparable
  have nW := noIsCF
  have nE := noIsE
  have nU := noUnwrapE
  have nUs := noUnwrapsE
  have uW := hasUnwrapCF
  have mU := methodUnwrapCF
  have hbn := below_new w (.cells #[.int .i64 pos, .iface 288 (.pointer (some a))] 213)
  have heq := run_eql_iface_ptr_other (P := Tryz.prog) (w.alloc (.cells #[.int .i64 pos, .iface 288 (.pointer (some a))] 213)) Tryz.underlying106 Tryz.underlying288 hi hcmp hj (by rw [hjs]; decide) hne ((hbn.block _ (Array.getElem?_eq_some_iff.1 ha).1).trans ha) ((hbn.block _ (Array.getElem?_eq_some_iff.1 hb).1).trans hb)
  have hty := fun (w : World) => run_eql_iface_types (P := Tryz.prog) 213 288 (.agg #[.int .i64 pos, .iface 288 (.pointer (some a))]) (.pointer (some b)) Tryz.underlying106 (by decide) w
  clear ha hb
  go_enter Tryz.func98, Tryz.ntmps98
  go_wp2
  refine wp_loop_rounds 2 ?_
  rw [rounds_succ]
  go_wp2
  rw [rounds_succ]
  go_wp2
  go_ret
  exact ⟨rfl, hbn⟩
end Go.Proofs.YtpdfmpegcejmkaaGreatDoor
namespace Go.Proofs.YtpdfmpegcejmkaaGreatDoor
def errCode (l : Bool) : Int := if l then 3 else 4
end Go.Proofs.YtpdfmpegcejmkaaGreatDoor
namespace Go.Proofs.YtpdfmpegcejmkaaGreatDoor
open Go.RowKit
theorem Env.drew {σ : Sen} {w0 w : World} {g : Nat} (h : Env σ w0 g w) : Env σ w0 g w.drew := ⟨h.gl, h.bl.drew, h.lo⟩
set_option maxRecDepth 100000 in
theorem cerrno_any (σ : Sen) (w0 w : World) (g : Nat) (pos : Int) (a : Addr) (long : Bool) (hE : Env σ w0 g w) (ha : σ.has a) (hlong : long = true ↔ a = σ.mu) :
    Calls Tryz.prog 147 #[.agg #[.int .i64 pos, .iface 288 (.pointer (some a))]] w fun e w' => e = .returned (.int .i64 (errCode long)) ∧ Below w.heap.size w w' := by
  have hbn := below_new w (.cells #[.int .i64 pos, .iface 288 (.pointer (some a))] 213)
  have hE1 := hE.below hbn
  have cm := hE1.at_.mu
  have hta := hE1.at_.there a ha
  have htm := hE1.at_.there σ.mu (.inr (.inr (.inr (.inl rfl))))
  unfold errV at cm
  clear hE hE1
  cases hl : long with
  | true =>
    have e : a = σ.mu := hlong.1 hl
    clear hlong
    subst hl e
    go_enter Tryz.func147, Tryz.ntmps147
    go_wp2_with fail
    refine (cis_same pos σ.mu _).mono ?_
    rintro e w2 ⟨rfl, hb2⟩
    go_wp2_with fail
    go_ret
    exact ⟨rfl, hbn.trans (hb2.mono hbn.size)⟩
  | false =>
    have hne : a ≠ σ.mu := fun e => by rw [hlong.2 e] at hl; cases hl
    clear hlong
    subst hl
    have HI := Lib.hid (cis_other pos a σ.mu _ hne hta htm)
    clear hta htm
    go_enter Tryz.func147, Tryz.ntmps147
    go_wp2_with fail
    refine HI.out.mono ?_
    rintro e w2 ⟨rfl, hb2⟩
    go_wp2_with fail
    go_ret
    exact ⟨rfl, hbn.trans (hb2.mono hbn.size)⟩
def errPos : RSt → Int
  | .ok _ => 0
  | .bad p _ => p
def errNo : RSt → Int
  | .ok _ => 0
  | .bad _ l => errCode l
theorem rerr_nil (w : World) :
    Calls Tryz.prog 113 #[.pointer none] w fun e w' => e = .returned (.tuple #[.int .i64 0, .int .i64 1]) ∧ w = w' := by
  go_enter Tryz.func113, Tryz.ntmps113
  go_wp2
  go_ret2
  exact ⟨rfl, rfl⟩
set_option maxRecDepth 100000 in
set_option maxHeartbeats 2000000 in
theorem rerr_any (σ : Sen) (w0 w : World) (g : Nat) (bs : List Int) (s : RSt) (h : RdAt σ w g bs s) (hE : Env σ w0 g w) :
    Calls Tryz.prog 113 #[.pointer (some ⟨g, 0, none⟩)] w fun e w' => e = .returned (.tuple #[.int .i64 (errPos s), .int .i64 (errNo s)]) ∧ Below w.heap.size w w' := by
  obtain ⟨x, cap, k, ev, hI⟩ := h
  obtain ⟨c0, c1, c2, c3⟩ := reader_cells hI.blk
  have hgl := hI.blk.lt
  have hbn := below_new w (.cells #[.int .i64 0, .nilIface] 213)
  have hB := BlockIs.made w 213 #[.int .i64 0, .nilIface]
  have hsz : (w.alloc (.cells #[.int .i64 0, .nilIface] 213)).heap.size = w.heap.size + 1 := by simp
  have d3 := cell_below c3 hbn
  have hE1 := hE.below hbn
  cases s with
  | ok j =>
    obtain ⟨rfl, rfl⟩ := hI.err
    have Hk := Lib.hid (And.intro hB (And.intro hbn hsz))
    clear hI c0 c1 hB hE hE1 hbn hsz
    go_enter Tryz.func113, Tryz.ntmps113
    go_wp2_with fail
    refine (as_nil _ _).mono ?_
    rintro e w' ⟨rfl, rfl⟩
    go_wp2_with fail
    go_ret2
    exact ⟨rfl, Hk.out.2.1⟩
  | bad pos long =>
    obtain ⟨a, rfl, ha, hlong⟩ := hI.err
    unfold faultV errV at *
    have HA := Lib.hid (as_hit pos a w.heap.size (.int .i64 0) .nilIface _ hE1.at_.ty hB)
    have Hk := Lib.hid (And.intro hB (And.intro hbn hsz))
    have HE := Lib.hid hE1
    clear hI c0 c1 hB hE hE1 hbn hsz
    go_enter Tryz.func113, Tryz.ntmps113
    go_wp2_with fail
    clear c2 c3 d3
    generalize w.alloc (.cells #[.int .i64 0, .nilIface] 213) = w1 at *
    refine HA.out.mono ?_
    rintro e w2 ⟨rfl, hB2, hg2⟩
    have hE2 : Env σ w0 g w2 := ⟨HE.out.gl, below_grown HE.out.bl hg2 HE.out.bl.size (by have := HE.out.lo; omega), HE.out.lo⟩
    have hb2 : Below w.heap.size w w2 := below_grown Hk.out.2.1 hg2 Hk.out.2.1.size (Nat.le_refl _)
    have HB2 := Lib.hid hB2
    have Hhl := Lib.hid hlong
    clear hB2 hlong
    go_wp2_with fail
    have d0 : w2.cell? ⟨w.heap.size, 0, none⟩ = some (.int .i64 (pos : Int)) := HB2.out.cell 0
    have d1 : w2.cell? ⟨w.heap.size, 1, none⟩ = some (.iface 288 (.pointer (some a))) := HB2.out.cell 1
    have hk3 : ∀ w3, Below w2.heap.size w2 w3 → w3.cell? ⟨w.heap.size, 0, none⟩ = some (.int .i64 (pos : Int)) ∧ w3.cell? ⟨w.heap.size, 1, none⟩ = some (.iface 288 (.pointer (some a))) := fun w3 hb3 => ⟨cell_below d0 hb3, cell_below d1 hb3⟩
    have Hk3 := Lib.hid hk3
    clear hk3
    go_region_held3 (fun w' => w'.cell? ⟨w.heap.size, 0, none⟩ = some (.int .i64 (pos : Int)) ∧ w'.cell? ⟨w.heap.size, 1, none⟩ = some (.iface 288 (.pointer (some a)))) (first | exact ⟨d0, d1⟩ | exact ⟨k1, k2⟩)
      (first | (go_at_call 147; (with_reducible refine (cerrno_any σ w0 _ g pos a long ?_ ha Hhl.out).mono ?_); (first | exact hE2 | exact hE2.drew); rintro e w3 ⟨rfl, hb3'⟩; have hb3 : Below w2.heap.size w2 w3 := (by first | exact hb3' | exact undrew hb3'); have k1 := (Hk3.out w3 hb3).1; have k2 := (Hk3.out w3 hb3).2))
    all_goals
      go_wp2_with fail
      go_ret2
      exact ⟨rfl, hb2.trans (hb3.mono hb2.size)⟩
end Go.Proofs.YtpdfmpegcejmkaaGreatDoor
