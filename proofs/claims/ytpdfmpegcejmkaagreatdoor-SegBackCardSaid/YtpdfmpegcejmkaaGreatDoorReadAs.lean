/- errors.As at a fault. -/
import Derived.Test.YtpdfmpegcejmkaaGreatDoorReadField
import Derived.LaidEql
import Derived.Stop.Asserts
import Derived.RowKitTokens
namespace Go.Proofs.YtpdfmpegcejmkaaGreatDoor
open Go.RowKit Go.Extern.Stop Go.Stop Go.Extern
/-- errors.As at nil. -/
theorem as_nil (t : Value) (w : World) :
    Calls Tryz.prog 97 #[.nilIface, t] w fun e w' => e = .returned (.bool false) ∧ w = w' := by
  go_enter Tryz.func97, Tryz.ntmps97
  go_wp2
  go_ret
  exact ⟨rfl, rfl⟩
/-! closed facts on the model's entries for reflectlite, at this program's types -/
abbrev tyP : Value := .pointer (some ⟨20, 215, none⟩)
abbrev tyF : Value := .pointer (some ⟨20, 213, none⟩)
abbrev tyE : Value := .pointer (some ⟨20, 106, none⟩)
theorem asValueOfP (t : Addr) (w : World) : (ReflectliteValue.unpack (.iface 215 (.pointer (some t)))).run Tryz.prog w
    = .ok (.agg #[tyP, .pointer (some ⟨w.heap.size, 0, none⟩), .int .u64 150]) (w.alloc (.cells #[.pointer (some t)] 215)) := by kernel_rfl
theorem asTypeP (a : Addr) (w : World) : (ReflectliteValue.methodAny (ReflectliteValue.valueError "reflectlite.Value.Type" 0) (fun t _ _ _ => ReflectliteType.toType t) #[.agg #[tyP, .pointer (some a), .int .u64 150]]).run Tryz.prog w
    = .ok (.iface 256 (.agg #[tyP])) w := by kernel_rfl
theorem asMethodKind (h : Value) (w : World) : (Go.method 420 256 (.agg #[h]) "Kind").run Tryz.prog w = .ok (194, h) w := by kernel_rfl
theorem asKindP (w : World) : ((ReflectliteType.abiMethod fun t => (fun a : Nat => Value.int IntKind.u8 (a : Int)) <$> Rtype.kind t) #[tyP]).run Tryz.prog w = .ok (.int .u8 22) w := by kernel_rfl
theorem asKindF (w : World) : ((ReflectliteType.abiMethod fun t => (fun a : Nat => Value.int IntKind.u8 (a : Int)) <$> Rtype.kind t) #[tyF]).run Tryz.prog w = .ok (.int .u8 25) w := by kernel_rfl
theorem asValueOfF (pos : Int) (a : Addr) (w : World) : (ReflectliteValue.unpack (.iface 213 (.agg #[.int .i64 pos, .iface 288 (.pointer (some a))]))).run Tryz.prog w
    = .ok (.agg #[tyF, .pointer (some ⟨w.heap.size, 0, none⟩), .int .u64 153]) (w.alloc (.cells #[.int .i64 pos, .iface 288 (.pointer (some a))] 213)) := by kernel_rfl
theorem asRlm (z : Sem Value) (f : TypeId → Addr → Nat → Nat → Sem Value) (v : Value) :
    ReflectliteValue.method z f #[v] = (do match ← ReflectliteValue.parts v with | none => z | some (t, a, fl) => f t a fl (fl % 32)) := rfl
theorem asPartsP (a : Addr) (w : World) : (ReflectliteValue.parts (.agg #[tyP, .pointer (some a), .int .u64 150])).run Tryz.prog w = .ok (some (215, a, 150)) w := by kernel_rfl
theorem asIsNil (a p : Addr) (W : World) (ha : W.cell? a = some (.pointer (some p))) :
    (ReflectliteValue.method (ReflectliteValue.valueError "reflectlite.Value.IsNil" 0) ReflectliteValue.isNil #[.agg #[tyP, .pointer (some a), .int .u64 150]]).run Tryz.prog W = .ok (.bool false) W := by
  rw [asRlm]
  simp only [Sem.run_bind, asPartsP, Result.andThen]
  simp [ReflectliteValue.isNil, loadVar, isAgg, underlying, Tryz.underlying215, ha, Result.andThen]
theorem asMethodElem (h : Value) (w : World) : (Go.method 420 256 (.agg #[h]) "Elem").run Tryz.prog w = .ok (208, .agg #[h]) w := by kernel_rfl
theorem asMethodImplements (h : Value) (w : World) : (Go.method 420 256 (.agg #[h]) "Implements").run Tryz.prog w = .ok (209, .agg #[h]) w := by kernel_rfl
theorem asMethodAssignableTo (h : Value) (w : World) : (Go.method 420 256 (.agg #[h]) "AssignableTo").run Tryz.prog w = .ok (206, .agg #[h]) w := by kernel_rfl
theorem asElemP (w : World) : (ReflectliteType.method ReflectliteType.elem #[.agg #[tyP]]).run Tryz.prog w = .ok (.iface 256 (.agg #[tyF])) w := by kernel_rfl
theorem asImplementsF (w : World) : (ReflectliteType.relation "Implements" ReflectliteType.implements_ #[.agg #[tyF], .iface 256 (.agg #[tyE])]).run Tryz.prog w = .ok (.bool true) w := by kernel_rfl
theorem asTypeOfF (v : Value) (w : World) : (ReflectliteType.typeOf #[.iface 213 v]).run Tryz.prog w = .ok (.iface 256 (.agg #[tyF])) w := by kernel_rfl
theorem asAssignableF (w : World) : (ReflectliteType.relation "AssignableTo" ReflectliteType.assignableTo #[.agg #[tyF], .iface 256 (.agg #[tyF])]).run Tryz.prog w = .ok (.bool true) w := by kernel_rfl
theorem asElemOfP (w : World) : (Rtype.elem? 215).run Tryz.prog w = .ok (some 213) w := by kernel_rfl
theorem asMkF (p : Addr) (w : World) : (ReflectliteValue.mk 213 p ReflectliteValue.flagAddr).run Tryz.prog w = .ok (.agg #[tyF, .pointer (some p), .int .u64 409]) w := by kernel_rfl
theorem asElemV (a p : Addr) (W : World) (ha : W.cell? a = some (.pointer (some p))) :
    (ReflectliteValue.method (ReflectliteValue.valueError "reflectlite.Value.Elem" 0) ReflectliteValue.elem #[.agg #[tyP, .pointer (some a), .int .u64 150]]).run Tryz.prog W
      = .ok (.agg #[tyF, .pointer (some p), .int .u64 409]) W := by
  rw [asRlm]
  simp only [Sem.run_bind, asPartsP, Result.andThen]
  simp [ReflectliteValue.elem, loadVar, isAgg, underlying, Tryz.underlying215, ha, Result.andThen, asElemOfP, asMkF]
theorem asRls (v x : Value) : ReflectliteValue.set #[v, x] = (do
    let (some (dst, a, fl), some (src, b, _)) := (← ReflectliteValue.parts v, ← ReflectliteValue.parts x)
      | unsupported (.noEntry "extern/(internal/reflectlite.Value).Set.zeroValue")
    if fl / ReflectliteValue.flagAddr % 2 == 0 then unsupported (.noEntry "extern/(internal/reflectlite.Value).Set.unaddressable")
    let val ← loadVar src b
    if ← Rtype.directlyAssignable dst src then storeVar dst a val
    else if ← Rtype.implements dst src then
      if (← Rtype.kind src) == 20 then
        match val with
        | .nilIface => unsupported (.noEntry "extern/reflectlite: a nil value of one interface type handed on as a value of another")
        | _ => storeVar dst a val
      else storeVar dst a (.iface src val)
    else panicString ("reflectlite.Set: value of type " ++ (← Rtype.spelt src) ++ " is not assignable to type " ++ (← Rtype.spelt dst))
    pure (.tuple #[])) := rfl
theorem asPartsFa (a : Addr) (w : World) : (ReflectliteValue.parts (.agg #[tyF, .pointer (some a), .int .u64 409])).run Tryz.prog w = .ok (some (213, a, 409)) w := by kernel_rfl
theorem asPartsF (a : Addr) (w : World) : (ReflectliteValue.parts (.agg #[tyF, .pointer (some a), .int .u64 153])).run Tryz.prog w = .ok (some (213, a, 153)) w := by kernel_rfl
theorem asDirectF (w : World) : (Rtype.directlyAssignable 213 213).run Tryz.prog w = .ok true w := by kernel_rfl
/-- (Value).Set at a fault's variable in block q: it gets what the Value's own variable in block b holds. -/
theorem asSetF (q b : Nat) (x y o0 o1 : Value) (W : World) (hb : BlockIs W b 213 #[x, y]) (hq : BlockIs W q 213 #[o0, o1]) (hx : x.oneCell' = true) (hy : y.oneCell' = true) :
    (ReflectliteValue.set #[.agg #[tyF, .pointer (some ⟨q, 0, none⟩), .int .u64 409], .agg #[tyF, .pointer (some ⟨b, 0, none⟩), .int .u64 153]]).run Tryz.prog W
      = .ok (.tuple #[]) ((W.setCell ⟨q, 0, none⟩ x).setCell ⟨q, 1, none⟩ y) := by
  have b0 : W.cell? ⟨b, 0, none⟩ = some x := hb.cell 0
  have b1 : W.cell? ⟨b, 1, none⟩ = some y := hb.cell 1
  have q0 : W.cell? ⟨q, 0, none⟩ = some o0 := hq.cell 0
  have q1 : W.cell? ⟨q, 1, none⟩ = some o1 := hq.cell 1
  have f0 := hq.free 0
  have f1 := hq.free 1
  have hl : (loadCells ⟨b, 0, none⟩ 2).run Tryz.prog W = .ok #[x, y] W := run_loadCells_list (P := Tryz.prog) W ⟨b, 0, none⟩ [x, y] (fun j v hj => by
    match j, hj with
    | 0, hj => obtain rfl : x = v := by simpa using hj
               exact b0
    | 1, hj => obtain rfl : y = v := by simpa using hj
               exact b1
    | j + 2, hj => simp at hj)
  rw [asRls]
  simp only [Sem.run_bind, asPartsFa, asPartsF, Result.andThen]
  simp [ReflectliteValue.flagAddr, loadVar, isAgg, underlying, Tryz.underlying213, hl, Result.andThen, asDirectF, storeVar, Value.cells, storeCells, Addr.add]
  rw [run_store Tryz.prog W _ _ _ hx]
  simp [q0, f0]
  rw [run_store Tryz.prog _ _ _ _ hy]
  have q1' : (W.setCell ⟨q, 0, none⟩ x).cell? ⟨q, 1, none⟩ = some o1 := (hq.set1 0 x).cell 1
  have f1' := (hq.set1 0 x).free 1
  simp [q1', f1']
set_option maxRecDepth 100000 in
set_option maxHeartbeats 4000000 in
theorem as_hit (pos : Int) (a : Addr) (q : Nat) (o0 o1 : Value) (w : World) (hg : w.cell? ⟨10, 0, none⟩ = some (.iface 256 (.agg #[tyE]))) (hq : BlockIs w q 213 #[o0, o1]) :
    Calls Tryz.prog 97 #[.iface 213 (.agg #[.int .i64 pos, .iface 288 (.pointer (some a))]), .iface 215 (.pointer (some ⟨q, 0, none⟩))] w fun ev w' => ev = .returned (.bool true) ∧ BlockIs w' q 213 #[.int .i64 pos, .iface 288 (.pointer (some a))] ∧ w.grownBy w' (some q) := by
  have hlt : q < w.heap.size := hq.lt
  have hgl : 10 < w.heap.size := World.block_lt_of_cell? _ _ hg
  have h1 := @run_callFunc_extern Tryz.prog 135 _ (fun args => ReflectliteValue.unpack (args.getD 0 (.tuple #[]))) Tryz.func135 (by kernel_rfl) (by kernel_rfl) (by kernel_rfl) (by kernel_rfl)
  have h2 := @run_callFunc_extern Tryz.prog 136 _ (ReflectliteValue.methodAny (ReflectliteValue.valueError "reflectlite.Value.Type" 0) (fun t _ _ _ => ReflectliteType.toType t)) Tryz.func136 (by kernel_rfl) (by kernel_rfl) (by kernel_rfl) (by kernel_rfl)
  have h3 := @run_callFunc_extern Tryz.prog 137 _ (ReflectliteValue.method (ReflectliteValue.valueError "reflectlite.Value.IsNil" 0) ReflectliteValue.isNil) Tryz.func137 (by kernel_rfl) (by kernel_rfl) (by kernel_rfl) (by kernel_rfl)
  have h4 := @run_callFunc_extern Tryz.prog 194 _ (ReflectliteType.abiMethod fun t => do pure (.int .u8 (← Rtype.kind t))) Tryz.func194 (by kernel_rfl) (by kernel_rfl) (by kernel_rfl) (by kernel_rfl)
  have h5 := @run_callFunc_extern Tryz.prog 208 _ (ReflectliteType.method ReflectliteType.elem) Tryz.func208 (by kernel_rfl) (by kernel_rfl) (by kernel_rfl) (by kernel_rfl)
  have h6 := @run_callFunc_extern Tryz.prog 209 _ (ReflectliteType.relation "Implements" ReflectliteType.implements_) Tryz.func209 (by kernel_rfl) (by kernel_rfl) (by kernel_rfl) (by kernel_rfl)
  have h7 := @run_callFunc_extern Tryz.prog 139 _ ReflectliteType.typeOf Tryz.func139 (by kernel_rfl) (by kernel_rfl) (by kernel_rfl) (by kernel_rfl)
  have h8 := @run_callFunc_extern Tryz.prog 206 _ (ReflectliteType.relation "AssignableTo" ReflectliteType.assignableTo) Tryz.func206 (by kernel_rfl) (by kernel_rfl) (by kernel_rfl) (by kernel_rfl)
  have h9 := @run_callFunc_extern Tryz.prog 161 _ (ReflectliteValue.method (ReflectliteValue.valueError "reflectlite.Value.Elem" 0) ReflectliteValue.elem) Tryz.func161 (by kernel_rfl) (by kernel_rfl) (by kernel_rfl) (by kernel_rfl)
  have h10 := @run_callFunc_extern Tryz.prog 162 _ ReflectliteValue.set Tryz.func162 (by kernel_rfl) (by kernel_rfl) (by kernel_rfl) (by kernel_rfl)
  have tO := asTypeOfF
  have mA := asMethodAssignableTo
  have aF := asAssignableF
  have vF := asValueOfF
  have vP := asValueOfP
  have tP := asTypeP
  have mK := asMethodKind
  have mE := asMethodElem
  have mI := asMethodImplements
  have kP := asKindP
  have kF := asKindF
  have eP := asElemP
  have iF := asImplementsF
  have n8 := asIsNil ⟨w.heap.size, 0, none⟩ ⟨q, 0, none⟩ ((w.alloc (.cells #[.pointer (some ⟨q, 0, none⟩)] 215)).alloc (.cells #[tyP, .pointer (some ⟨w.heap.size, 0, none⟩), .int .u64 150] 194)) (by simp)
  have hg2 : ((w.alloc (.cells #[.pointer (some ⟨q, 0, none⟩)] 215)).alloc (.cells #[tyP, .pointer (some ⟨w.heap.size, 0, none⟩), .int .u64 150] 194)).cell? ⟨10, 0, none⟩ = some (.iface 256 (.agg #[tyE])) := by
    rw [World.cell?_alloc_lt _ _ ⟨10, 0, none⟩ (by simp; omega), World.cell?_alloc_lt _ _ ⟨10, 0, none⟩ hgl]; exact hg
  have el := asElemV ⟨w.heap.size, 0, none⟩ ⟨q, 0, none⟩ (((w.alloc (.cells #[.pointer (some ⟨q, 0, none⟩)] 215)).alloc (.cells #[tyP, .pointer (some ⟨w.heap.size, 0, none⟩), .int .u64 150] 194)).alloc (.cells #[tyP, .pointer (some ⟨w.heap.size, 0, none⟩), .int .u64 150] 194)) (by rw [World.cell?_alloc_lt _ _ ⟨w.heap.size, 0, none⟩ (by simp; omega)]; simp)
  have hb1 := below_new w (.cells #[.pointer (some ⟨q, 0, none⟩)] 215)
  have hb2 := hb1.alloc (by simp) (.cells #[tyP, .pointer (some ⟨w.heap.size, 0, none⟩), .int .u64 150] 194)
  have hb3 := hb2.alloc (by simp; omega) (.cells #[tyP, .pointer (some ⟨w.heap.size, 0, none⟩), .int .u64 150] 194)
  have hb4 := hb3.alloc (by simp; omega) (.cells #[.int .i64 pos, .iface 288 (.pointer (some a))] 213)
  have hq4 := hq.below hb4 hlt
  have hv4 := BlockIs.made (((w.alloc (.cells #[.pointer (some ⟨q, 0, none⟩)] 215)).alloc (.cells #[tyP, .pointer (some ⟨w.heap.size, 0, none⟩), .int .u64 150] 194)).alloc (.cells #[tyP, .pointer (some ⟨w.heap.size, 0, none⟩), .int .u64 150] 194)) 213 #[.int .i64 pos, .iface 288 (.pointer (some a))]
  simp only [World.size_alloc] at hv4
  have st := asSetF q (w.heap.size + 1 + 1 + 1) _ _ o0 o1 _ hv4 hq4 rfl rfl
  have hB5 := (hq4.set1 0 (.int .i64 pos)).set1 1 (.iface 288 (.pointer (some a)))
  have hG5 := grown_at (grown_at (grown_below hb4 (some q)) 0 (.int .i64 pos)) 1 (.iface 288 (.pointer (some a)))
  have HF := Lib.hid (And.intro hB5 hG5)
  clear hb1 hb2 hb3 hb4 hq4 hv4 hB5 hG5 hq hg
  unfold tyP tyF tyE at *
  go_enter Tryz.func97, Tryz.ntmps97
  go_wp2
  refine wp_loop_rounds 1 ?_
  rw [rounds_succ]
  go_wp2
  go_ret
  exact ⟨rfl, HF.out.1, HF.out.2⟩
end Go.Proofs.YtpdfmpegcejmkaaGreatDoor
