/- errors.As at a fault of the package seg: what a layer below told, and an error of its own. -/
import Derived.Test.YtpdfmpegcejmkaaGreatDoorReadAs
import Derived.Test.YtpdfmpegcejmkaaGreatDoorSegIs
namespace Go.Proofs.YtpdfmpegcejmkaaGreatDoor
open Go.RowKit Go.Extern.Stop Go.Stop Go.Extern
/-- What a layer below told, and a fault of a cause. -/
abbrev gtoldV (c : Int) : Value := .iface 152 (.int .i64 c)
abbrev gfaultV (n : Int) (v : Value) : Value := .iface 108 (.agg #[.int .i64 n, v])
/-! closed facts on the model's entries for reflectlite, at this program's types -/
abbrev tyPG : Value := .pointer (some ⟨20, 154, none⟩)
abbrev tyTG : Value := .pointer (some ⟨20, 152, none⟩)
abbrev tyFG : Value := .pointer (some ⟨20, 108, none⟩)
theorem asValueOfPG (t : Addr) (w : World) : (ReflectliteValue.unpack (.iface 154 (.pointer (some t)))).run Tryz.prog w
    = .ok (.agg #[tyPG, .pointer (some ⟨w.heap.size, 0, none⟩), .int .u64 150]) (w.alloc (.cells #[.pointer (some t)] 154)) := by kernel_rfl
theorem asTypePG (a : Addr) (w : World) : (ReflectliteValue.methodAny (ReflectliteValue.valueError "reflectlite.Value.Type" 0) (fun t _ _ _ => ReflectliteType.toType t) #[.agg #[tyPG, .pointer (some a), .int .u64 150]]).run Tryz.prog w
    = .ok (.iface 256 (.agg #[tyPG])) w := by kernel_rfl
theorem asKindPG (w : World) : ((ReflectliteType.abiMethod fun t => (fun a : Nat => Value.int IntKind.u8 (a : Int)) <$> Rtype.kind t) #[tyPG]).run Tryz.prog w = .ok (.int .u8 22) w := by kernel_rfl
theorem asKindTG (w : World) : ((ReflectliteType.abiMethod fun t => (fun a : Nat => Value.int IntKind.u8 (a : Int)) <$> Rtype.kind t) #[tyTG]).run Tryz.prog w = .ok (.int .u8 2) w := by kernel_rfl
theorem asValueOfTG (c : Int) (w : World) : (ReflectliteValue.unpack (gtoldV c)).run Tryz.prog w
    = .ok (.agg #[tyTG, .pointer (some ⟨w.heap.size, 0, none⟩), .int .u64 130]) (w.alloc (.cells #[.int .i64 c] 152)) := by kernel_rfl
theorem asPartsPG (a : Addr) (w : World) : (ReflectliteValue.parts (.agg #[tyPG, .pointer (some a), .int .u64 150])).run Tryz.prog w = .ok (some (154, a, 150)) w := by kernel_rfl
theorem asIsNilG (a p : Addr) (W : World) (ha : W.cell? a = some (.pointer (some p))) :
    (ReflectliteValue.method (ReflectliteValue.valueError "reflectlite.Value.IsNil" 0) ReflectliteValue.isNil #[.agg #[tyPG, .pointer (some a), .int .u64 150]]).run Tryz.prog W = .ok (.bool false) W := by
  rw [asRlm]
  simp only [Sem.run_bind, asPartsPG, Result.andThen]
  simp [ReflectliteValue.isNil, loadVar, isAgg, underlying, Tryz.underlying154, ha, Result.andThen]
theorem asElemPG (w : World) : (ReflectliteType.method ReflectliteType.elem #[.agg #[tyPG]]).run Tryz.prog w = .ok (.iface 256 (.agg #[tyTG])) w := by kernel_rfl
theorem asImplementsTG (w : World) : (ReflectliteType.relation "Implements" ReflectliteType.implements_ #[.agg #[tyTG], .iface 256 (.agg #[tyE])]).run Tryz.prog w = .ok (.bool true) w := by kernel_rfl
theorem asTypeOfTG (v : Value) (w : World) : (ReflectliteType.typeOf #[.iface 152 v]).run Tryz.prog w = .ok (.iface 256 (.agg #[tyTG])) w := by kernel_rfl
theorem asTypeOfFG (v : Value) (w : World) : (ReflectliteType.typeOf #[.iface 108 v]).run Tryz.prog w = .ok (.iface 256 (.agg #[tyFG])) w := by kernel_rfl
theorem noAsGF (v : Value) (xT : TypeId) (w : World) : (Instr.typeAssert (.iface 108 v) xT 260 true).run Tryz.prog w = .ok (.tuple #[.nilIface, .bool false]) w := run_typeAssert_lacksB Tryz.underlying260 (by kernel_rfl) (by kernel_rfl) v xT w
theorem asAssignableTG (w : World) : (ReflectliteType.relation "AssignableTo" ReflectliteType.assignableTo #[.agg #[tyTG], .iface 256 (.agg #[tyTG])]).run Tryz.prog w = .ok (.bool true) w := by kernel_rfl
theorem asAssignableFG (w : World) : (ReflectliteType.relation "AssignableTo" ReflectliteType.assignableTo #[.agg #[tyFG], .iface 256 (.agg #[tyTG])]).run Tryz.prog w = .ok (.bool false) w := by kernel_rfl
theorem asElemOfPG (w : World) : (Rtype.elem? 154).run Tryz.prog w = .ok (some 152) w := by kernel_rfl
theorem asMkTG (p : Addr) (w : World) : (ReflectliteValue.mk 152 p ReflectliteValue.flagAddr).run Tryz.prog w = .ok (.agg #[tyTG, .pointer (some p), .int .u64 386]) w := by kernel_rfl
theorem asElemVG (a p : Addr) (W : World) (ha : W.cell? a = some (.pointer (some p))) :
    (ReflectliteValue.method (ReflectliteValue.valueError "reflectlite.Value.Elem" 0) ReflectliteValue.elem #[.agg #[tyPG, .pointer (some a), .int .u64 150]]).run Tryz.prog W
      = .ok (.agg #[tyTG, .pointer (some p), .int .u64 386]) W := by
  rw [asRlm]
  simp only [Sem.run_bind, asPartsPG, Result.andThen]
  simp [ReflectliteValue.elem, loadVar, isAgg, underlying, Tryz.underlying154, ha, Result.andThen, asElemOfPG, asMkTG]
theorem asPartsTaG (a : Addr) (w : World) : (ReflectliteValue.parts (.agg #[tyTG, .pointer (some a), .int .u64 386])).run Tryz.prog w = .ok (some (152, a, 386)) w := by kernel_rfl
theorem asPartsTG (a : Addr) (w : World) : (ReflectliteValue.parts (.agg #[tyTG, .pointer (some a), .int .u64 130])).run Tryz.prog w = .ok (some (152, a, 130)) w := by kernel_rfl
theorem asDirectTG (w : World) : (Rtype.directlyAssignable 152 152).run Tryz.prog w = .ok true w := by kernel_rfl
/-- (Value).Set at a variable in block q: it gets what the Value's own variable in block b holds. -/
theorem asSetTG (q b : Nat) (c o : Int) (W : World) (hb : BlockIs W b 152 #[.int .i64 c]) (hq : BlockIs W q 152 #[.int .i64 o]) :
    (ReflectliteValue.set #[.agg #[tyTG, .pointer (some ⟨q, 0, none⟩), .int .u64 386], .agg #[tyTG, .pointer (some ⟨b, 0, none⟩), .int .u64 130]]).run Tryz.prog W
      = .ok (.tuple #[]) (W.setCell ⟨q, 0, none⟩ (.int .i64 c)) := by
  have b0 : W.cell? ⟨b, 0, none⟩ = some (.int .i64 c) := hb.cell 0
  have q0 : W.cell? ⟨q, 0, none⟩ = some (.int .i64 o) := hq.cell 0
  have f0 := hq.free 0
  rw [asRls]
  simp only [Sem.run_bind, asPartsTaG, asPartsTG, Result.andThen]
  simp [ReflectliteValue.flagAddr, loadVar, isAgg, underlying, Tryz.underlying152, b0, Result.andThen, asDirectTG, storeVar, Value.cells, storeCells, Addr.add]
  rw [run_store Tryz.prog W _ _ _ rfl]
  simp [q0, f0]
theorem asTypeOfEG (v : Value) (w : World) : (ReflectliteType.typeOf #[.iface 288 v]).run Tryz.prog w = .ok (.iface 256 (.agg #[.pointer (some ⟨20, 288, none⟩)])) w := by kernel_rfl
theorem asAssignableEG (w : World) : (ReflectliteType.relation "AssignableTo" ReflectliteType.assignableTo #[.agg #[.pointer (some ⟨20, 288, none⟩)], .iface 256 (.agg #[tyTG])]).run Tryz.prog w = .ok (.bool false) w := by kernel_rfl
theorem noAsEG (v : Value) (xT : TypeId) (w : World) : (Instr.typeAssert (.iface 288 v) xT 260 true).run Tryz.prog w = .ok (.tuple #[.nilIface, .bool false]) w := run_typeAssert_lacksB Tryz.underlying260 (by kernel_rfl) (by kernel_rfl) v xT w
set_option maxRecDepth 100000 in
set_option maxHeartbeats 4000000 in
theorem gas_hit (n c o : Int) (q : Nat) (w : World) (hg : w.cell? ⟨10, 0, none⟩ = some (.iface 256 (.agg #[tyE]))) (hq : BlockIs w q 152 #[.int .i64 o]) :
    Calls Tryz.prog 97 #[gfaultV n (gtoldV c), .iface 154 (.pointer (some ⟨q, 0, none⟩))] w fun ev w' => ev = .returned (.bool true) ∧ BlockIs w' q 152 #[.int .i64 c] ∧ w.grownBy w' (some q) := by
  have hlt : q < w.heap.size := hq.lt
  have hgl : 10 < w.heap.size := World.block_lt_of_cell? _ _ hg
  have h1 := @run_callFunc_extern Tryz.prog 135 _ (fun args => ReflectliteValue.unpack (args.getD 0 (.tuple #[]))) Tryz.func135 (by kernel_rfl) (by kernel_rfl) (by kernel_rfl) (by kernel_rfl)
  have h2 := @run_callFunc_extern Tryz.prog 136 _ (ReflectliteValue.methodAny (ReflectliteValue.valueError "reflectlite.Value.Type" 0) (fun t _ _ _ => ReflectliteType.toType t)) Tryz.func136 (by kernel_rfl) (by kernel_rfl) (by kernel_rfl) (by kernel_rfl)
  have h3 := @run_callFunc_extern Tryz.prog 137 _ (ReflectliteValue.method (ReflectliteValue.valueError "reflectlite.Value.IsNil" 0) ReflectliteValue.isNil) Tryz.func137 (by kernel_rfl) (by kernel_rfl) (by kernel_rfl) (by kernel_rfl)
  have h4 := @run_callFunc_extern Tryz.prog 194 _ (ReflectliteType.abiMethod fun t => do pure (.int .u8 (← Rtype.kind t))) Tryz.func194 (by kernel_rfl) (by kernel_rfl) (by kernel_rfl) (by kernel_rfl)
  have h5 := @run_callFunc_extern Tryz.prog 208 _ (ReflectliteType.method ReflectliteType.elem) Tryz.func208 (by kernel_rfl) (by kernel_rfl) (by kernel_rfl) (by kernel_rfl)
  have h6 := @run_callFunc_extern Tryz.prog 209 _ (ReflectliteType.relation "Implements" ReflectliteType.implements_) Tryz.func209 (by kernel_rfl) (by kernel_rfl) (by kernel_rfl) (by kernel_rfl)
  have h7 := @run_callFunc_extern Tryz.prog 139 _ ReflectliteType.typeOf Tryz.func139 (by kernel_rfl) (by kernel_rfl) (by kernel_rfl) (by kernel_rfl)
  have h8 := @run_callFunc_extern Tryz.prog 206 _ (ReflectliteType.relation "AssignableTo" ReflectliteType.assignableTo) Tryz.func206 (by kernel_rfl) (by kernel_rfl) (by kernel_rfl) (by kernel_rfl)
  have h9 := @run_callFunc_extern Tryz.prog 161 _ (ReflectliteValue.method (ReflectliteValue.valueError "reflectlite.Value.Elem" 0) ReflectliteValue.elem) Tryz.func161 (by kernel_rfl) (by kernel_rfl) (by kernel_rfl) (by kernel_rfl)
  have h10 := @run_callFunc_extern Tryz.prog 162 _ ReflectliteValue.set Tryz.func162 (by kernel_rfl) (by kernel_rfl) (by kernel_rfl) (by kernel_rfl)
  have tO := asTypeOfTG
  have tO2 := asTypeOfFG
  have aF2 := asAssignableFG
  have nA := noAsGF
  have uW := hasUnwrapGF
  have mU := methodUnwrapGF
  have mA := asMethodAssignableTo
  have aF := asAssignableTG
  have vF := asValueOfTG
  have vP := asValueOfPG
  have tP := asTypePG
  have mK := asMethodKind
  have mE := asMethodElem
  have mI := asMethodImplements
  have kP := asKindPG
  have kF := asKindTG
  have eP := asElemPG
  have iF := asImplementsTG
  have n8 := asIsNilG ⟨w.heap.size, 0, none⟩ ⟨q, 0, none⟩ ((w.alloc (.cells #[.pointer (some ⟨q, 0, none⟩)] 154)).alloc (.cells #[tyPG, .pointer (some ⟨w.heap.size, 0, none⟩), .int .u64 150] 194)) (by simp)
  have hg2 : ((w.alloc (.cells #[.pointer (some ⟨q, 0, none⟩)] 154)).alloc (.cells #[tyPG, .pointer (some ⟨w.heap.size, 0, none⟩), .int .u64 150] 194)).cell? ⟨10, 0, none⟩ = some (.iface 256 (.agg #[tyE])) := by
    rw [World.cell?_alloc_lt _ _ ⟨10, 0, none⟩ (by simp; omega), World.cell?_alloc_lt _ _ ⟨10, 0, none⟩ hgl]; exact hg
  have el := asElemVG ⟨w.heap.size, 0, none⟩ ⟨q, 0, none⟩ ((((w.alloc (.cells #[.pointer (some ⟨q, 0, none⟩)] 154)).alloc (.cells #[tyPG, .pointer (some ⟨w.heap.size, 0, none⟩), .int .u64 150] 194)).alloc (.cells #[tyPG, .pointer (some ⟨w.heap.size, 0, none⟩), .int .u64 150] 194)).alloc (.cells #[.int .i64 n, gtoldV c] 108)) (by rw [World.cell?_alloc_lt _ _ ⟨w.heap.size, 0, none⟩ (by simp; omega), World.cell?_alloc_lt _ _ ⟨w.heap.size, 0, none⟩ (by simp; omega)]; simp)
  have hb1 := below_new w (.cells #[.pointer (some ⟨q, 0, none⟩)] 154)
  have hb2 := hb1.alloc (by simp) (.cells #[tyPG, .pointer (some ⟨w.heap.size, 0, none⟩), .int .u64 150] 194)
  have hb3' := hb2.alloc (by simp; omega) (.cells #[tyPG, .pointer (some ⟨w.heap.size, 0, none⟩), .int .u64 150] 194)
  have hb3 := hb3'.alloc (by simp; omega) (.cells #[.int .i64 n, gtoldV c] 108)
  have hb4 := hb3.alloc (by simp; omega) (.cells #[.int .i64 c] 152)
  have hq4 := hq.below hb4 hlt
  have hv4 := BlockIs.made ((((w.alloc (.cells #[.pointer (some ⟨q, 0, none⟩)] 154)).alloc (.cells #[tyPG, .pointer (some ⟨w.heap.size, 0, none⟩), .int .u64 150] 194)).alloc (.cells #[tyPG, .pointer (some ⟨w.heap.size, 0, none⟩), .int .u64 150] 194)).alloc (.cells #[.int .i64 n, gtoldV c] 108)) 152 #[.int .i64 c]
  simp only [World.size_alloc] at hv4
  have st := asSetTG q (w.heap.size + 1 + 1 + 1 + 1) c o _ hv4 hq4
  have hB5 := hq4.set1 0 (.int .i64 c)
  have hG5 := grown_at (grown_below hb4 (some q)) 0 (.int .i64 c)
  have HF := Lib.hid (And.intro hB5 hG5)
  clear hb1 hb2 hb3 hb3' hb4 hq4 hv4 hB5 hG5 hq hg
  unfold tyPG tyTG tyFG tyE gfaultV gtoldV at *
  go_enter Tryz.func97, Tryz.ntmps97
  go_wp2
  refine wp_loop_rounds 2 ?_
  rw [rounds_succ]
  go_wp2
  rw [rounds_succ]
  go_wp2
  go_ret
  exact ⟨rfl, HF.out.1, HF.out.2⟩
set_option maxRecDepth 100000 in
set_option maxHeartbeats 4000000 in
theorem gas_miss (n : Int) (a : Addr) (q : Nat) (w : World) (hg : w.cell? ⟨10, 0, none⟩ = some (.iface 256 (.agg #[tyE]))) :
    Calls Tryz.prog 97 #[gfaultV n (.iface 288 (.pointer (some a))), .iface 154 (.pointer (some ⟨q, 0, none⟩))] w fun ev w' => ev = .returned (.bool false) ∧ Below w.heap.size w w' := by
  have hgl : 10 < w.heap.size := World.block_lt_of_cell? _ _ hg
  have h1 := @run_callFunc_extern Tryz.prog 135 _ (fun args => ReflectliteValue.unpack (args.getD 0 (.tuple #[]))) Tryz.func135 (by kernel_rfl) (by kernel_rfl) (by kernel_rfl) (by kernel_rfl)
  have h2 := @run_callFunc_extern Tryz.prog 136 _ (ReflectliteValue.methodAny (ReflectliteValue.valueError "reflectlite.Value.Type" 0) (fun t _ _ _ => ReflectliteType.toType t)) Tryz.func136 (by kernel_rfl) (by kernel_rfl) (by kernel_rfl) (by kernel_rfl)
  have h3 := @run_callFunc_extern Tryz.prog 137 _ (ReflectliteValue.method (ReflectliteValue.valueError "reflectlite.Value.IsNil" 0) ReflectliteValue.isNil) Tryz.func137 (by kernel_rfl) (by kernel_rfl) (by kernel_rfl) (by kernel_rfl)
  have h4 := @run_callFunc_extern Tryz.prog 194 _ (ReflectliteType.abiMethod fun t => do pure (.int .u8 (← Rtype.kind t))) Tryz.func194 (by kernel_rfl) (by kernel_rfl) (by kernel_rfl) (by kernel_rfl)
  have h5 := @run_callFunc_extern Tryz.prog 208 _ (ReflectliteType.method ReflectliteType.elem) Tryz.func208 (by kernel_rfl) (by kernel_rfl) (by kernel_rfl) (by kernel_rfl)
  have h6 := @run_callFunc_extern Tryz.prog 209 _ (ReflectliteType.relation "Implements" ReflectliteType.implements_) Tryz.func209 (by kernel_rfl) (by kernel_rfl) (by kernel_rfl) (by kernel_rfl)
  have h7 := @run_callFunc_extern Tryz.prog 139 _ ReflectliteType.typeOf Tryz.func139 (by kernel_rfl) (by kernel_rfl) (by kernel_rfl) (by kernel_rfl)
  have h8 := @run_callFunc_extern Tryz.prog 206 _ (ReflectliteType.relation "AssignableTo" ReflectliteType.assignableTo) Tryz.func206 (by kernel_rfl) (by kernel_rfl) (by kernel_rfl) (by kernel_rfl)
  have h9 := @run_callFunc_extern Tryz.prog 161 _ (ReflectliteValue.method (ReflectliteValue.valueError "reflectlite.Value.Elem" 0) ReflectliteValue.elem) Tryz.func161 (by kernel_rfl) (by kernel_rfl) (by kernel_rfl) (by kernel_rfl)
  have h10 := @run_callFunc_extern Tryz.prog 162 _ ReflectliteValue.set Tryz.func162 (by kernel_rfl) (by kernel_rfl) (by kernel_rfl) (by kernel_rfl)
  have tO := asTypeOfTG
  have tO2 := asTypeOfFG
  have tO3 := asTypeOfEG
  have aF3 := asAssignableEG
  have nA3 := noAsEG
  have nU3 := noUnwrapE
  have nUs3 := noUnwrapsE
  have aF2 := asAssignableFG
  have nA := noAsGF
  have uW := hasUnwrapGF
  have mU := methodUnwrapGF
  have mA := asMethodAssignableTo
  have aF := asAssignableTG
  have vF := asValueOfTG
  have vP := asValueOfPG
  have tP := asTypePG
  have mK := asMethodKind
  have mE := asMethodElem
  have mI := asMethodImplements
  have kP := asKindPG
  have kF := asKindTG
  have eP := asElemPG
  have iF := asImplementsTG
  have n8 := asIsNilG ⟨w.heap.size, 0, none⟩ ⟨q, 0, none⟩ ((w.alloc (.cells #[.pointer (some ⟨q, 0, none⟩)] 154)).alloc (.cells #[tyPG, .pointer (some ⟨w.heap.size, 0, none⟩), .int .u64 150] 194)) (by simp)
  have hg2 : ((w.alloc (.cells #[.pointer (some ⟨q, 0, none⟩)] 154)).alloc (.cells #[tyPG, .pointer (some ⟨w.heap.size, 0, none⟩), .int .u64 150] 194)).cell? ⟨10, 0, none⟩ = some (.iface 256 (.agg #[tyE])) := by
    rw [World.cell?_alloc_lt _ _ ⟨10, 0, none⟩ (by simp; omega), World.cell?_alloc_lt _ _ ⟨10, 0, none⟩ hgl]; exact hg
  have el := asElemVG ⟨w.heap.size, 0, none⟩ ⟨q, 0, none⟩ ((((w.alloc (.cells #[.pointer (some ⟨q, 0, none⟩)] 154)).alloc (.cells #[tyPG, .pointer (some ⟨w.heap.size, 0, none⟩), .int .u64 150] 194)).alloc (.cells #[tyPG, .pointer (some ⟨w.heap.size, 0, none⟩), .int .u64 150] 194)).alloc (.cells #[.int .i64 n, .iface 288 (.pointer (some a))] 108)) (by rw [World.cell?_alloc_lt _ _ ⟨w.heap.size, 0, none⟩ (by simp; omega), World.cell?_alloc_lt _ _ ⟨w.heap.size, 0, none⟩ (by simp; omega)]; simp)
  have hb1 := below_new w (.cells #[.pointer (some ⟨q, 0, none⟩)] 154)
  have hb2 := hb1.alloc (by simp) (.cells #[tyPG, .pointer (some ⟨w.heap.size, 0, none⟩), .int .u64 150] 194)
  have hb3' := hb2.alloc (by simp; omega) (.cells #[tyPG, .pointer (some ⟨w.heap.size, 0, none⟩), .int .u64 150] 194)
  have hb3 := hb3'.alloc (by simp; omega) (.cells #[.int .i64 n, .iface 288 (.pointer (some a))] 108)
  have HF := Lib.hid hb3
  clear hb1 hb2 hb3 hb3' hg
  unfold tyPG tyTG tyFG tyE gfaultV at *
  go_enter Tryz.func97, Tryz.ntmps97
  go_wp2
  refine wp_loop_rounds 2 ?_
  rw [rounds_succ]
  go_wp2
  rw [rounds_succ]
  go_wp2
  go_ret
  exact ⟨rfl, HF.out⟩
end Go.Proofs.YtpdfmpegcejmkaaGreatDoor
