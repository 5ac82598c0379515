/- errors.As at what a layer below told. -/
import Derived.Test.YtpaikolnampcfaaGreatDoorReadAs
import Derived.Test.YtpaikolnampcfaaGreatDoorMarkIs
namespace Go.Proofs.YtpaikolnampcfaaGreatDoor
open Go.RowKit Go.Extern.Stop Go.Stop Go.Extern
/-! closed facts on the model's entries for reflectlite, at this program's types -/
abbrev tyPK : Value := .pointer (some ⟨23, 144, none⟩)
abbrev tyTK : Value := .pointer (some ⟨23, 142, none⟩)
abbrev tyFK : Value := .pointer (some ⟨23, 234, none⟩)
theorem asValueOfPK (t : Addr) (w : World) : (ReflectliteValue.unpack (.iface 144 (.pointer (some t)))).run Tryz.prog w
    = .ok (.agg #[tyPK, .pointer (some ⟨w.heap.size, 0, none⟩), .int .u64 150]) (w.alloc (.cells #[.pointer (some t)] 144)) := by kernel_rfl
theorem asTypePK (a : Addr) (w : World) : (ReflectliteValue.methodAny (ReflectliteValue.valueError "reflectlite.Value.Type" 0) (fun t _ _ _ => ReflectliteType.toType t) #[.agg #[tyPK, .pointer (some a), .int .u64 150]]).run Tryz.prog w
    = .ok (.iface 202 (.agg #[tyPK])) w := by kernel_rfl
theorem asKindPK (w : World) : ((ReflectliteType.abiMethod fun t => (fun a : Nat => Value.int IntKind.u8 (a : Int)) <$> Rtype.kind t) #[tyPK]).run Tryz.prog w = .ok (.int .u8 22) w := by kernel_rfl
theorem asKindTK (w : World) : ((ReflectliteType.abiMethod fun t => (fun a : Nat => Value.int IntKind.u8 (a : Int)) <$> Rtype.kind t) #[tyTK]).run Tryz.prog w = .ok (.int .u8 2) w := by kernel_rfl
theorem asValueOfTK (c : Int) (w : World) : (ReflectliteValue.unpack (ktoldV c)).run Tryz.prog w
    = .ok (.agg #[tyTK, .pointer (some ⟨w.heap.size, 0, none⟩), .int .u64 130]) (w.alloc (.cells #[.int .i64 c] 142)) := by kernel_rfl
theorem asPartsPK (a : Addr) (w : World) : (ReflectliteValue.parts (.agg #[tyPK, .pointer (some a), .int .u64 150])).run Tryz.prog w = .ok (some (144, a, 150)) w := by kernel_rfl
theorem asIsNilK (a p : Addr) (W : World) (ha : W.cell? a = some (.pointer (some p))) :
    (ReflectliteValue.method (ReflectliteValue.valueError "reflectlite.Value.IsNil" 0) ReflectliteValue.isNil #[.agg #[tyPK, .pointer (some a), .int .u64 150]]).run Tryz.prog W = .ok (.bool false) W := by
  rw [asRlm]
  simp only [Sem.run_bind, asPartsPK, Result.andThen]
  simp [ReflectliteValue.isNil, loadVar, isAgg, underlying, Tryz.underlying144, ha, Result.andThen]
theorem asElemPK (w : World) : (ReflectliteType.method ReflectliteType.elem #[.agg #[tyPK]]).run Tryz.prog w = .ok (.iface 202 (.agg #[tyTK])) w := by kernel_rfl
theorem asImplementsTK (w : World) : (ReflectliteType.relation "Implements" ReflectliteType.implements_ #[.agg #[tyTK], .iface 202 (.agg #[tyE])]).run Tryz.prog w = .ok (.bool true) w := by kernel_rfl
theorem asTypeOfTK (v : Value) (w : World) : (ReflectliteType.typeOf #[.iface 142 v]).run Tryz.prog w = .ok (.iface 202 (.agg #[tyTK])) w := by kernel_rfl
theorem asTypeOfFK (v : Value) (w : World) : (ReflectliteType.typeOf #[.iface 234 v]).run Tryz.prog w = .ok (.iface 202 (.agg #[tyFK])) w := by kernel_rfl
theorem noAsKF (v : Value) (xT : TypeId) (w : World) : (Instr.typeAssert (.iface 234 v) xT 213 true).run Tryz.prog w = .ok (.tuple #[.nilIface, .bool false]) w := run_typeAssert_lacksB Tryz.underlying213 (by kernel_rfl) (by kernel_rfl) v xT w
theorem asAssignableTK (w : World) : (ReflectliteType.relation "AssignableTo" ReflectliteType.assignableTo #[.agg #[tyTK], .iface 202 (.agg #[tyTK])]).run Tryz.prog w = .ok (.bool true) w := by kernel_rfl
theorem asAssignableFK (w : World) : (ReflectliteType.relation "AssignableTo" ReflectliteType.assignableTo #[.agg #[tyFK], .iface 202 (.agg #[tyTK])]).run Tryz.prog w = .ok (.bool false) w := by kernel_rfl
theorem asElemOfPK (w : World) : (Rtype.elem? 144).run Tryz.prog w = .ok (some 142) w := by kernel_rfl
theorem asMkTK (p : Addr) (w : World) : (ReflectliteValue.mk 142 p ReflectliteValue.flagAddr).run Tryz.prog w = .ok (.agg #[tyTK, .pointer (some p), .int .u64 386]) w := by kernel_rfl
theorem asElemVK (a p : Addr) (W : World) (ha : W.cell? a = some (.pointer (some p))) :
    (ReflectliteValue.method (ReflectliteValue.valueError "reflectlite.Value.Elem" 0) ReflectliteValue.elem #[.agg #[tyPK, .pointer (some a), .int .u64 150]]).run Tryz.prog W
      = .ok (.agg #[tyTK, .pointer (some p), .int .u64 386]) W := by
  rw [asRlm]
  simp only [Sem.run_bind, asPartsPK, Result.andThen]
  simp [ReflectliteValue.elem, loadVar, isAgg, underlying, Tryz.underlying144, ha, Result.andThen, asElemOfPK, asMkTK]
theorem asPartsTaK (a : Addr) (w : World) : (ReflectliteValue.parts (.agg #[tyTK, .pointer (some a), .int .u64 386])).run Tryz.prog w = .ok (some (142, a, 386)) w := by kernel_rfl
theorem asPartsTK (a : Addr) (w : World) : (ReflectliteValue.parts (.agg #[tyTK, .pointer (some a), .int .u64 130])).run Tryz.prog w = .ok (some (142, a, 130)) w := by kernel_rfl
theorem asDirectTK (w : World) : (Rtype.directlyAssignable 142 142).run Tryz.prog w = .ok true w := by kernel_rfl
/-- (Value).Set at a variable in block q: it gets what the Value's own variable in block b holds. -/
theorem asSetTK (q b : Nat) (c o : Int) (W : World) (hb : BlockIs W b 142 #[.int .i64 c]) (hq : BlockIs W q 142 #[.int .i64 o]) :
    (ReflectliteValue.set #[.agg #[tyTK, .pointer (some ⟨q, 0, none⟩), .int .u64 386], .agg #[tyTK, .pointer (some ⟨b, 0, none⟩), .int .u64 130]]).run Tryz.prog W
      = .ok (.tuple #[]) (W.setCell ⟨q, 0, none⟩ (.int .i64 c)) := by
  have b0 : W.cell? ⟨b, 0, none⟩ = some (.int .i64 c) := hb.cell 0
  have q0 : W.cell? ⟨q, 0, none⟩ = some (.int .i64 o) := hq.cell 0
  have f0 := hq.free 0
  rw [asRls]
  simp only [Sem.run_bind, asPartsTaK, asPartsTK, Result.andThen]
  simp [ReflectliteValue.flagAddr, loadVar, isAgg, underlying, Tryz.underlying142, b0, Result.andThen, asDirectTK, storeVar, Value.cells, storeCells, Addr.add]
  rw [run_store Tryz.prog W _ _ _ rfl]
  simp [q0, f0]
set_option maxRecDepth 100000 in
set_option maxHeartbeats 4000000 in
theorem kas_told (c o : Int) (q : Nat) (w : World) (hg : w.cell? ⟨9, 0, none⟩ = some (.iface 202 (.agg #[tyE]))) (hq : BlockIs w q 142 #[.int .i64 o]) :
    Calls Tryz.prog 87 #[ktoldV c, .iface 144 (.pointer (some ⟨q, 0, none⟩))] w fun ev w' => ev = .returned (.bool true) ∧ BlockIs w' q 142 #[.int .i64 c] ∧ w.grownBy w' (some q) := by
  have hlt : q < w.heap.size := hq.lt
  have hgl : 9 < w.heap.size := World.block_lt_of_cell? _ _ hg
  have h1 := @run_callFunc_extern Tryz.prog 114 _ (fun args => ReflectliteValue.unpack (args.getD 0 (.tuple #[]))) Tryz.func114 (by kernel_rfl) (by kernel_rfl) (by kernel_rfl) (by kernel_rfl)
  have h2 := @run_callFunc_extern Tryz.prog 115 _ (ReflectliteValue.methodAny (ReflectliteValue.valueError "reflectlite.Value.Type" 0) (fun t _ _ _ => ReflectliteType.toType t)) Tryz.func115 (by kernel_rfl) (by kernel_rfl) (by kernel_rfl) (by kernel_rfl)
  have h3 := @run_callFunc_extern Tryz.prog 116 _ (ReflectliteValue.method (ReflectliteValue.valueError "reflectlite.Value.IsNil" 0) ReflectliteValue.isNil) Tryz.func116 (by kernel_rfl) (by kernel_rfl) (by kernel_rfl) (by kernel_rfl)
  have h4 := @run_callFunc_extern Tryz.prog 188 _ (ReflectliteType.abiMethod fun t => do pure (.int .u8 (← Rtype.kind t))) Tryz.func188 (by kernel_rfl) (by kernel_rfl) (by kernel_rfl) (by kernel_rfl)
  have h5 := @run_callFunc_extern Tryz.prog 200 _ (ReflectliteType.method ReflectliteType.elem) Tryz.func200 (by kernel_rfl) (by kernel_rfl) (by kernel_rfl) (by kernel_rfl)
  have h6 := @run_callFunc_extern Tryz.prog 201 _ (ReflectliteType.relation "Implements" ReflectliteType.implements_) Tryz.func201 (by kernel_rfl) (by kernel_rfl) (by kernel_rfl) (by kernel_rfl)
  have h7 := @run_callFunc_extern Tryz.prog 112 _ ReflectliteType.typeOf Tryz.func112 (by kernel_rfl) (by kernel_rfl) (by kernel_rfl) (by kernel_rfl)
  have h8 := @run_callFunc_extern Tryz.prog 198 _ (ReflectliteType.relation "AssignableTo" ReflectliteType.assignableTo) Tryz.func198 (by kernel_rfl) (by kernel_rfl) (by kernel_rfl) (by kernel_rfl)
  have h9 := @run_callFunc_extern Tryz.prog 134 _ (ReflectliteValue.method (ReflectliteValue.valueError "reflectlite.Value.Elem" 0) ReflectliteValue.elem) Tryz.func134 (by kernel_rfl) (by kernel_rfl) (by kernel_rfl) (by kernel_rfl)
  have h10 := @run_callFunc_extern Tryz.prog 135 _ ReflectliteValue.set Tryz.func135 (by kernel_rfl) (by kernel_rfl) (by kernel_rfl) (by kernel_rfl)
  have tO := asTypeOfTK
  have mA := asMethodAssignableTo
  have aF := asAssignableTK
  have vF := asValueOfTK
  have vP := asValueOfPK
  have tP := asTypePK
  have mK := asMethodKind
  have mE := asMethodElem
  have mI := asMethodImplements
  have kP := asKindPK
  have kF := asKindTK
  have eP := asElemPK
  have iF := asImplementsTK
  have n8 := asIsNilK ⟨w.heap.size, 0, none⟩ ⟨q, 0, none⟩ ((w.alloc (.cells #[.pointer (some ⟨q, 0, none⟩)] 144)).alloc (.cells #[tyPK, .pointer (some ⟨w.heap.size, 0, none⟩), .int .u64 150] 175)) (by simp)
  have hg2 : ((w.alloc (.cells #[.pointer (some ⟨q, 0, none⟩)] 144)).alloc (.cells #[tyPK, .pointer (some ⟨w.heap.size, 0, none⟩), .int .u64 150] 175)).cell? ⟨9, 0, none⟩ = some (.iface 202 (.agg #[tyE])) := by
    rw [World.cell?_alloc_lt _ _ ⟨9, 0, none⟩ (by simp; omega), World.cell?_alloc_lt _ _ ⟨9, 0, none⟩ hgl]; exact hg
  have el := asElemVK ⟨w.heap.size, 0, none⟩ ⟨q, 0, none⟩ (((w.alloc (.cells #[.pointer (some ⟨q, 0, none⟩)] 144)).alloc (.cells #[tyPK, .pointer (some ⟨w.heap.size, 0, none⟩), .int .u64 150] 175)).alloc (.cells #[tyPK, .pointer (some ⟨w.heap.size, 0, none⟩), .int .u64 150] 175)) (by rw [World.cell?_alloc_lt _ _ ⟨w.heap.size, 0, none⟩ (by simp; omega)]; simp)
  have hb1 := below_new w (.cells #[.pointer (some ⟨q, 0, none⟩)] 144)
  have hb2 := hb1.alloc (by simp) (.cells #[tyPK, .pointer (some ⟨w.heap.size, 0, none⟩), .int .u64 150] 175)
  have hb3 := hb2.alloc (by simp; omega) (.cells #[tyPK, .pointer (some ⟨w.heap.size, 0, none⟩), .int .u64 150] 175)
  have hb4 := hb3.alloc (by simp; omega) (.cells #[.int .i64 c] 142)
  have hq4 := hq.below hb4 hlt
  have hv4 := BlockIs.made (((w.alloc (.cells #[.pointer (some ⟨q, 0, none⟩)] 144)).alloc (.cells #[tyPK, .pointer (some ⟨w.heap.size, 0, none⟩), .int .u64 150] 175)).alloc (.cells #[tyPK, .pointer (some ⟨w.heap.size, 0, none⟩), .int .u64 150] 175)) 142 #[.int .i64 c]
  simp only [World.size_alloc] at hv4
  have st := asSetTK q (w.heap.size + 1 + 1 + 1) c o _ hv4 hq4
  have hB5 := hq4.set1 0 (.int .i64 c)
  have hG5 := grown_at (grown_below hb4 (some q)) 0 (.int .i64 c)
  have HF := Lib.hid (And.intro hB5 hG5)
  clear hb1 hb2 hb3 hb4 hq4 hv4 hB5 hG5 hq hg
  unfold tyPK tyTK tyE ktoldV at *
  go_enter Tryz.func87, Tryz.ntmps87
  go_wp2
  refine wp_loop_rounds 1 ?_
  rw [rounds_succ]
  go_wp2
  go_ret
  exact ⟨rfl, HF.out.1, HF.out.2⟩
set_option maxRecDepth 100000 in
set_option maxHeartbeats 4000000 in
theorem kas_blk (n c o : Int) (q : Nat) (w : World) (hg : w.cell? ⟨9, 0, none⟩ = some (.iface 202 (.agg #[tyE]))) (hq : BlockIs w q 142 #[.int .i64 o]) :
    Calls Tryz.prog 87 #[blkV n c, .iface 144 (.pointer (some ⟨q, 0, none⟩))] w fun ev w' => ev = .returned (.bool true) ∧ BlockIs w' q 142 #[.int .i64 c] ∧ w.grownBy w' (some q) := by
  have hlt : q < w.heap.size := hq.lt
  have hgl : 9 < w.heap.size := World.block_lt_of_cell? _ _ hg
  have h1 := @run_callFunc_extern Tryz.prog 114 _ (fun args => ReflectliteValue.unpack (args.getD 0 (.tuple #[]))) Tryz.func114 (by kernel_rfl) (by kernel_rfl) (by kernel_rfl) (by kernel_rfl)
  have h2 := @run_callFunc_extern Tryz.prog 115 _ (ReflectliteValue.methodAny (ReflectliteValue.valueError "reflectlite.Value.Type" 0) (fun t _ _ _ => ReflectliteType.toType t)) Tryz.func115 (by kernel_rfl) (by kernel_rfl) (by kernel_rfl) (by kernel_rfl)
  have h3 := @run_callFunc_extern Tryz.prog 116 _ (ReflectliteValue.method (ReflectliteValue.valueError "reflectlite.Value.IsNil" 0) ReflectliteValue.isNil) Tryz.func116 (by kernel_rfl) (by kernel_rfl) (by kernel_rfl) (by kernel_rfl)
  have h4 := @run_callFunc_extern Tryz.prog 188 _ (ReflectliteType.abiMethod fun t => do pure (.int .u8 (← Rtype.kind t))) Tryz.func188 (by kernel_rfl) (by kernel_rfl) (by kernel_rfl) (by kernel_rfl)
  have h5 := @run_callFunc_extern Tryz.prog 200 _ (ReflectliteType.method ReflectliteType.elem) Tryz.func200 (by kernel_rfl) (by kernel_rfl) (by kernel_rfl) (by kernel_rfl)
  have h6 := @run_callFunc_extern Tryz.prog 201 _ (ReflectliteType.relation "Implements" ReflectliteType.implements_) Tryz.func201 (by kernel_rfl) (by kernel_rfl) (by kernel_rfl) (by kernel_rfl)
  have h7 := @run_callFunc_extern Tryz.prog 112 _ ReflectliteType.typeOf Tryz.func112 (by kernel_rfl) (by kernel_rfl) (by kernel_rfl) (by kernel_rfl)
  have h8 := @run_callFunc_extern Tryz.prog 198 _ (ReflectliteType.relation "AssignableTo" ReflectliteType.assignableTo) Tryz.func198 (by kernel_rfl) (by kernel_rfl) (by kernel_rfl) (by kernel_rfl)
  have h9 := @run_callFunc_extern Tryz.prog 134 _ (ReflectliteValue.method (ReflectliteValue.valueError "reflectlite.Value.Elem" 0) ReflectliteValue.elem) Tryz.func134 (by kernel_rfl) (by kernel_rfl) (by kernel_rfl) (by kernel_rfl)
  have h10 := @run_callFunc_extern Tryz.prog 135 _ ReflectliteValue.set Tryz.func135 (by kernel_rfl) (by kernel_rfl) (by kernel_rfl) (by kernel_rfl)
  have tO := asTypeOfTK
  have tO2 := asTypeOfFK
  have aF2 := asAssignableFK
  have nA := noAsKF
  have uW := hasUnwrapKF
  have mU := methodUnwrapKF
  have mA := asMethodAssignableTo
  have aF := asAssignableTK
  have vF := asValueOfTK
  have vP := asValueOfPK
  have tP := asTypePK
  have mK := asMethodKind
  have mE := asMethodElem
  have mI := asMethodImplements
  have kP := asKindPK
  have kF := asKindTK
  have eP := asElemPK
  have iF := asImplementsTK
  have n8 := asIsNilK ⟨w.heap.size, 0, none⟩ ⟨q, 0, none⟩ ((w.alloc (.cells #[.pointer (some ⟨q, 0, none⟩)] 144)).alloc (.cells #[tyPK, .pointer (some ⟨w.heap.size, 0, none⟩), .int .u64 150] 175)) (by simp)
  have hg2 : ((w.alloc (.cells #[.pointer (some ⟨q, 0, none⟩)] 144)).alloc (.cells #[tyPK, .pointer (some ⟨w.heap.size, 0, none⟩), .int .u64 150] 175)).cell? ⟨9, 0, none⟩ = some (.iface 202 (.agg #[tyE])) := by
    rw [World.cell?_alloc_lt _ _ ⟨9, 0, none⟩ (by simp; omega), World.cell?_alloc_lt _ _ ⟨9, 0, none⟩ hgl]; exact hg
  have el := asElemVK ⟨w.heap.size, 0, none⟩ ⟨q, 0, none⟩ ((((w.alloc (.cells #[.pointer (some ⟨q, 0, none⟩)] 144)).alloc (.cells #[tyPK, .pointer (some ⟨w.heap.size, 0, none⟩), .int .u64 150] 175)).alloc (.cells #[tyPK, .pointer (some ⟨w.heap.size, 0, none⟩), .int .u64 150] 175)).alloc (.cells #[.int .i64 n, ktoldV c] 234)) (by rw [World.cell?_alloc_lt _ _ ⟨w.heap.size, 0, none⟩ (by simp; omega), World.cell?_alloc_lt _ _ ⟨w.heap.size, 0, none⟩ (by simp; omega)]; simp)
  have hb1 := below_new w (.cells #[.pointer (some ⟨q, 0, none⟩)] 144)
  have hb2 := hb1.alloc (by simp) (.cells #[tyPK, .pointer (some ⟨w.heap.size, 0, none⟩), .int .u64 150] 175)
  have hb3' := hb2.alloc (by simp; omega) (.cells #[tyPK, .pointer (some ⟨w.heap.size, 0, none⟩), .int .u64 150] 175)
  have hb3 := hb3'.alloc (by simp; omega) (.cells #[.int .i64 n, ktoldV c] 234)
  have hb4 := hb3.alloc (by simp; omega) (.cells #[.int .i64 c] 142)
  have hq4 := hq.below hb4 hlt
  have hv4 := BlockIs.made ((((w.alloc (.cells #[.pointer (some ⟨q, 0, none⟩)] 144)).alloc (.cells #[tyPK, .pointer (some ⟨w.heap.size, 0, none⟩), .int .u64 150] 175)).alloc (.cells #[tyPK, .pointer (some ⟨w.heap.size, 0, none⟩), .int .u64 150] 175)).alloc (.cells #[.int .i64 n, ktoldV c] 234)) 142 #[.int .i64 c]
  simp only [World.size_alloc] at hv4
  have st := asSetTK q (w.heap.size + 1 + 1 + 1 + 1) c o _ hv4 hq4
  have hB5 := hq4.set1 0 (.int .i64 c)
  have hG5 := grown_at (grown_below hb4 (some q)) 0 (.int .i64 c)
  have HF := Lib.hid (And.intro hB5 hG5)
  clear hb1 hb2 hb3 hb3' hb4 hq4 hv4 hB5 hG5 hq hg
  unfold tyPK tyTK tyFK tyE blkV ktoldV at *
  go_enter Tryz.func87, Tryz.ntmps87
  go_wp2
  refine wp_loop_rounds 2 ?_
  rw [rounds_succ]
  go_wp2
  rw [rounds_succ]
  go_wp2
  go_ret
  exact ⟨rfl, HF.out.1, HF.out.2⟩
end Go.Proofs.YtpaikolnampcfaaGreatDoor
