/- errors.Is at the package mark's errors that wrap what a layer below told. -/
import Derived.Test.YtpaikolnampcfaaGreatDoorKitInts
import Derived.LaidEql
import Derived.Stop.Asserts
import Derived.RowKitTokens
import Derived.Test.YtpaikolnampcfaaGreatDoorFlawAs
namespace Go.Proofs.YtpaikolnampcfaaGreatDoor
set_option maxRecDepth 100000
set_option maxHeartbeats 4000000
open Go.RowKit Go.Extern.Stop Go.Stop Go.Extern
abbrev ktoldV (c:Int):Value:= .iface 142 (.int .i64 c)
abbrev blkV (n c:Int):Value:= .iface 234 (.agg #[.int .i64 n,ktoldV c])
theorem noIsKT (v:Value) (xT:TypeId) (w:World):(Instr.typeAssert (.iface 142 v) xT 204 true).run Tryz.prog w= .ok (.tuple #[.nilIface,.bool false]) w:=run_typeAssert_lacksB Tryz.underlying204 (by kernel_rfl) (by kernel_rfl) v xT w
theorem noUnwrapKT (v:Value) (xT:TypeId) (w:World):(Instr.typeAssert (.iface 142 v) xT 207 true).run Tryz.prog w= .ok (.tuple #[.nilIface,.bool false]) w:=run_typeAssert_lacksB Tryz.underlying207 (by kernel_rfl) (by kernel_rfl) v xT w
theorem noUnwrapsKT (v:Value) (xT:TypeId) (w:World):(Instr.typeAssert (.iface 142 v) xT 208 true).run Tryz.prog w= .ok (.tuple #[.nilIface,.bool false]) w:=run_typeAssert_lacksB Tryz.underlying208 (by kernel_rfl) (by kernel_rfl) v xT w
theorem noIsKF (v:Value) (xT:TypeId) (w:World):(Instr.typeAssert (.iface 234 v) xT 204 true).run Tryz.prog w= .ok (.tuple #[.nilIface,.bool false]) w:=run_typeAssert_lacksB Tryz.underlying204 (by kernel_rfl) (by kernel_rfl) v xT w
theorem hasUnwrapKF (v:Value) (xT:TypeId) (w:World):(Instr.typeAssert (.iface 234 v) xT 207 true).run Tryz.prog w= .ok (.tuple #[.iface 234 v,.bool true]) w:=run_typeAssert_hasB Tryz.underlying207 (by kernel_rfl) v xT w
theorem methodUnwrapKF (v:Value) (w:World):(Go.method 394 234 v "Unwrap").run Tryz.prog w= .ok (213,v) w:=by kernel_rfl
theorem kis_nil (b:Addr) (w:World):
 Calls Tryz.prog 86 #[.nilIface,errK b] w fun e w'=>e= .returned (.bool false)∧w=w':=by
 have hnl:=fun(w:World)=>run_eql_iface_nil_left (P:=Tryz.prog) (w:=w) 262 (.pointer (some b)) Tryz.underlying84
 unfold errK
 go_enter Tryz.func86,Tryz.ntmps86
 go_wp2
 go_ret
 exact⟨rfl,rfl⟩
theorem kis_told (c:Int) (b:Addr) (w:World):
 Calls Tryz.prog 86 #[ktoldV c,errK b] w fun e w'=>e= .returned (.bool false)∧w=w':=by
 have tT:=callTypeOf
 have cT:=callComparable
 have mR:=isMethodComparable
 have nE:=noIsKT
 have nU:=noUnwrapKT
 have nUs:=noUnwrapsKT
 have hty:=fun(w:World)=>run_eql_iface_types (P:=Tryz.prog) 142 262 (.int .i64 c) (.pointer (some b)) Tryz.underlying84 (by decide) w
 unfold errK
 go_enter Tryz.func86,Tryz.ntmps86
 go_wp2
 refine wp_loop_rounds 2 ?_
 rw [rounds_succ]
 go_wp2
 go_ret
 exact⟨rfl,rfl⟩
theorem kis_blk (n c:Int) (b:Addr) (w:World):
 Calls Tryz.prog 86 #[blkV n c,errK b] w fun e w'=>e= .returned (.bool false)∧Below w.heap.size w w':=by
 have tT:=callTypeOf
 have cT:=callComparable
 have mR:=isMethodComparable
 have nW:=noIsKF
 have uW:=hasUnwrapKF
 have mU:=methodUnwrapKF
 have nE:=noIsKT
 have nU:=noUnwrapKT
 have nUs:=noUnwrapsKT
 have hty:=fun(w:World)=>run_eql_iface_types (P:=Tryz.prog) 234 262 (.agg #[.int .i64 n,ktoldV c]) (.pointer (some b)) Tryz.underlying84 (by decide) w
 have hty2:=fun(w:World)=>run_eql_iface_types (P:=Tryz.prog) 142 262 (.int .i64 c) (.pointer (some b)) Tryz.underlying84 (by decide) w
 unfold errK
 go_enter Tryz.func86,Tryz.ntmps86
 go_wp2
 refine wp_loop_rounds 2 ?_
 rw [rounds_succ]
 go_wp2
 rw [rounds_succ]
 go_wp2
 go_ret
 exact⟨rfl,(Below.refl _ _).alloc (Nat.le_refl _) _⟩
open Go.RowKit Go.Extern.Stop Go.Stop Go.Extern
abbrev tyPK :Value:= .pointer (some ⟨23,144,none⟩)
abbrev tyTK :Value:= .pointer (some ⟨23,142,none⟩)
abbrev tyFK :Value:= .pointer (some ⟨23,234,none⟩)
theorem asValueOfPK (t:Addr) (w:World):(ReflectliteValue.unpack (.iface 144 (.pointer (some t)))).run Tryz.prog w
 = .ok (.agg #[tyPK,.pointer (some ⟨w.heap.size,0,none⟩),.int .u64 150]) (w.alloc (.cells #[.pointer (some t)] 144)):=by kernel_rfl
theorem asTypePK (a:Addr) (w:World):(ReflectliteValue.methodAny (ReflectliteValue.valueError "reflectlite.Value.Type" 0) (fun t _ _ _=>ReflectliteType.toType t) #[.agg #[tyPK,.pointer (some a),.int .u64 150]]).run Tryz.prog w
 = .ok (.iface 202 (.agg #[tyPK])) w:=by kernel_rfl
theorem asKindPK (w:World):((ReflectliteType.abiMethod fun t=>(fun a:Nat=>Value.int IntKind.u8 (a:Int)) <$> Rtype.kind t) #[tyPK]).run Tryz.prog w= .ok (.int .u8 22) w:=by kernel_rfl
theorem asKindTK (w:World):((ReflectliteType.abiMethod fun t=>(fun a:Nat=>Value.int IntKind.u8 (a:Int)) <$> Rtype.kind t) #[tyTK]).run Tryz.prog w= .ok (.int .u8 2) w:=by kernel_rfl
theorem asValueOfTK (c:Int) (w:World):(ReflectliteValue.unpack (ktoldV c)).run Tryz.prog w
 = .ok (.agg #[tyTK,.pointer (some ⟨w.heap.size,0,none⟩),.int .u64 130]) (w.alloc (.cells #[.int .i64 c] 142)):=by kernel_rfl
theorem asPartsPK (a:Addr) (w:World):(ReflectliteValue.parts (.agg #[tyPK,.pointer (some a),.int .u64 150])).run Tryz.prog w= .ok (some (144,a,150)) w:=by kernel_rfl
theorem asIsNilK (a p:Addr) (W:World) (ha:W.cell? a=some (.pointer (some p))):
 (ReflectliteValue.method (ReflectliteValue.valueError "reflectlite.Value.IsNil" 0) ReflectliteValue.isNil #[.agg #[tyPK,.pointer (some a),.int .u64 150]]).run Tryz.prog W= .ok (.bool false) W:=by
 rw [asRlm]
 simp only [Sem.run_bind,asPartsPK,Result.andThen]
 simp [ReflectliteValue.isNil,loadVar,isAgg,underlying,Tryz.underlying144,ha,Result.andThen]
theorem asElemPK (w:World):(ReflectliteType.method ReflectliteType.elem #[.agg #[tyPK]]).run Tryz.prog w= .ok (.iface 202 (.agg #[tyTK])) w:=by kernel_rfl
theorem asImplementsTK (w:World):(ReflectliteType.relation "Implements" ReflectliteType.implements_ #[.agg #[tyTK],.iface 202 (.agg #[tyE])]).run Tryz.prog w= .ok (.bool true) w:=by kernel_rfl
theorem asTypeOfTK (v:Value) (w:World):(ReflectliteType.typeOf #[.iface 142 v]).run Tryz.prog w= .ok (.iface 202 (.agg #[tyTK])) w:=by kernel_rfl
theorem asTypeOfFK (v:Value) (w:World):(ReflectliteType.typeOf #[.iface 234 v]).run Tryz.prog w= .ok (.iface 202 (.agg #[tyFK])) w:=by kernel_rfl
theorem noAsKF (v:Value) (xT:TypeId) (w:World):(Instr.typeAssert (.iface 234 v) xT 213 true).run Tryz.prog w= .ok (.tuple #[.nilIface,.bool false]) w:=run_typeAssert_lacksB Tryz.underlying213 (by kernel_rfl) (by kernel_rfl) v xT w
theorem asAssignableTK (w:World):(ReflectliteType.relation "AssignableTo" ReflectliteType.assignableTo #[.agg #[tyTK],.iface 202 (.agg #[tyTK])]).run Tryz.prog w= .ok (.bool true) w:=by kernel_rfl
theorem asAssignableFK (w:World):(ReflectliteType.relation "AssignableTo" ReflectliteType.assignableTo #[.agg #[tyFK],.iface 202 (.agg #[tyTK])]).run Tryz.prog w= .ok (.bool false) w:=by kernel_rfl
theorem asElemOfPK (w:World):(Rtype.elem? 144).run Tryz.prog w= .ok (some 142) w:=by kernel_rfl
theorem asMkTK (p:Addr) (w:World):(ReflectliteValue.mk 142 p ReflectliteValue.flagAddr).run Tryz.prog w= .ok (.agg #[tyTK,.pointer (some p),.int .u64 386]) w:=by kernel_rfl
theorem asElemVK (a p:Addr) (W:World) (ha:W.cell? a=some (.pointer (some p))):
 (ReflectliteValue.method (ReflectliteValue.valueError "reflectlite.Value.Elem" 0) ReflectliteValue.elem #[.agg #[tyPK,.pointer (some a),.int .u64 150]]).run Tryz.prog W
  = .ok (.agg #[tyTK,.pointer (some p),.int .u64 386]) W:=by
 rw [asRlm]
 simp only [Sem.run_bind,asPartsPK,Result.andThen]
 simp [ReflectliteValue.elem,loadVar,isAgg,underlying,Tryz.underlying144,ha,Result.andThen,asElemOfPK,asMkTK]
theorem asPartsTaK (a:Addr) (w:World):(ReflectliteValue.parts (.agg #[tyTK,.pointer (some a),.int .u64 386])).run Tryz.prog w= .ok (some (142,a,386)) w:=by kernel_rfl
theorem asPartsTK (a:Addr) (w:World):(ReflectliteValue.parts (.agg #[tyTK,.pointer (some a),.int .u64 130])).run Tryz.prog w= .ok (some (142,a,130)) w:=by kernel_rfl
theorem asDirectTK (w:World):(Rtype.directlyAssignable 142 142).run Tryz.prog w= .ok true w:=by kernel_rfl
theorem asSetTK (q b:Nat) (c o:Int) (W:World) (hb:BlockIs W b 142 #[.int .i64 c]) (hq:BlockIs W q 142 #[.int .i64 o]):
 (ReflectliteValue.set #[.agg #[tyTK,.pointer (some ⟨q,0,none⟩),.int .u64 386],.agg #[tyTK,.pointer (some ⟨b,0,none⟩),.int .u64 130]]).run Tryz.prog W
  = .ok (.tuple #[]) (W.setCell ⟨q,0,none⟩ (.int .i64 c)):=by
 have b0:W.cell? ⟨b,0,none⟩=some (.int .i64 c):=hb.cell 0
 have q0:W.cell? ⟨q,0,none⟩=some (.int .i64 o):=hq.cell 0
 have f0:=hq.free 0
 rw [asRls]
 simp only [Sem.run_bind,asPartsTaK,asPartsTK,Result.andThen]
 simp [ReflectliteValue.flagAddr,loadVar,isAgg,underlying,Tryz.underlying142,b0,Result.andThen,asDirectTK,storeVar,Value.cells,storeCells,Addr.add]
 rw [run_store Tryz.prog W _ _ _ rfl]
 simp [q0,f0]
theorem kas_told (c o:Int) (q:Nat) (w:World) (hg:w.cell? ⟨9,0,none⟩=some (.iface 202 (.agg #[tyE]))) (hq:BlockIs w q 142 #[.int .i64 o]):
 Calls Tryz.prog 87 #[ktoldV c,.iface 144 (.pointer (some ⟨q,0,none⟩))] w fun ev w'=>ev= .returned (.bool true)∧BlockIs w' q 142 #[.int .i64 c]∧w.grownBy w' (some q):=by
 have hlt:q < w.heap.size:=hq.lt
 have hgl:9 < w.heap.size:=World.block_lt_of_cell? _ _ hg
 have h1:= @run_callFunc_extern Tryz.prog 114 _ (fun args=>ReflectliteValue.unpack (args.getD 0 (.tuple #[]))) Tryz.func114 (by kernel_rfl) (by kernel_rfl) (by kernel_rfl) (by kernel_rfl)
 have h2:= @run_callFunc_extern Tryz.prog 115 _ (ReflectliteValue.methodAny (ReflectliteValue.valueError "reflectlite.Value.Type" 0) (fun t _ _ _=>ReflectliteType.toType t)) Tryz.func115 (by kernel_rfl) (by kernel_rfl) (by kernel_rfl) (by kernel_rfl)
 have h3:= @run_callFunc_extern Tryz.prog 116 _ (ReflectliteValue.method (ReflectliteValue.valueError "reflectlite.Value.IsNil" 0) ReflectliteValue.isNil) Tryz.func116 (by kernel_rfl) (by kernel_rfl) (by kernel_rfl) (by kernel_rfl)
 have h4:= @run_callFunc_extern Tryz.prog 188 _ (ReflectliteType.abiMethod fun t=>do pure (.int .u8 (← Rtype.kind t))) Tryz.func188 (by kernel_rfl) (by kernel_rfl) (by kernel_rfl) (by kernel_rfl)
 have h5:= @run_callFunc_extern Tryz.prog 200 _ (ReflectliteType.method ReflectliteType.elem) Tryz.func200 (by kernel_rfl) (by kernel_rfl) (by kernel_rfl) (by kernel_rfl)
 have h6:= @run_callFunc_extern Tryz.prog 201 _ (ReflectliteType.relation "Implements" ReflectliteType.implements_) Tryz.func201 (by kernel_rfl) (by kernel_rfl) (by kernel_rfl) (by kernel_rfl)
 have h7:= @run_callFunc_extern Tryz.prog 112 _ ReflectliteType.typeOf Tryz.func112 (by kernel_rfl) (by kernel_rfl) (by kernel_rfl) (by kernel_rfl)
 have h8:= @run_callFunc_extern Tryz.prog 198 _ (ReflectliteType.relation "AssignableTo" ReflectliteType.assignableTo) Tryz.func198 (by kernel_rfl) (by kernel_rfl) (by kernel_rfl) (by kernel_rfl)
 have h9:= @run_callFunc_extern Tryz.prog 134 _ (ReflectliteValue.method (ReflectliteValue.valueError "reflectlite.Value.Elem" 0) ReflectliteValue.elem) Tryz.func134 (by kernel_rfl) (by kernel_rfl) (by kernel_rfl) (by kernel_rfl)
 have h10:= @run_callFunc_extern Tryz.prog 135 _ ReflectliteValue.set Tryz.func135 (by kernel_rfl) (by kernel_rfl) (by kernel_rfl) (by kernel_rfl)
 have tO:=asTypeOfTK
 have mA:=asMethodAssignableTo
 have aF:=asAssignableTK
 have vF:=asValueOfTK
 have vP:=asValueOfPK
 have tP:=asTypePK
 have mK:=asMethodKind
 have mE:=asMethodElem
 have mI:=asMethodImplements
 have kP:=asKindPK
 have kF:=asKindTK
 have eP:=asElemPK
 have iF:=asImplementsTK
 have n8:=asIsNilK ⟨w.heap.size,0,none⟩ ⟨q,0,none⟩ ((w.alloc (.cells #[.pointer (some ⟨q,0,none⟩)] 144)).alloc (.cells #[tyPK,.pointer (some ⟨w.heap.size,0,none⟩),.int .u64 150] 175)) (by simp)
 have hg2:((w.alloc (.cells #[.pointer (some ⟨q,0,none⟩)] 144)).alloc (.cells #[tyPK,.pointer (some ⟨w.heap.size,0,none⟩),.int .u64 150] 175)).cell? ⟨9,0,none⟩=some (.iface 202 (.agg #[tyE])):=by
  rw [World.cell?_alloc_lt _ _ ⟨9,0,none⟩ (by simp;omega),World.cell?_alloc_lt _ _ ⟨9,0,none⟩ hgl];exact hg
 have el:=asElemVK ⟨w.heap.size,0,none⟩ ⟨q,0,none⟩ (((w.alloc (.cells #[.pointer (some ⟨q,0,none⟩)] 144)).alloc (.cells #[tyPK,.pointer (some ⟨w.heap.size,0,none⟩),.int .u64 150] 175)).alloc (.cells #[tyPK,.pointer (some ⟨w.heap.size,0,none⟩),.int .u64 150] 175)) (by rw [World.cell?_alloc_lt _ _ ⟨w.heap.size,0,none⟩ (by simp;omega)];simp)
 have hb1:=below_new w (.cells #[.pointer (some ⟨q,0,none⟩)] 144)
 have hb2:=hb1.alloc (by simp) (.cells #[tyPK,.pointer (some ⟨w.heap.size,0,none⟩),.int .u64 150] 175)
 have hb3:=hb2.alloc (by simp;omega) (.cells #[tyPK,.pointer (some ⟨w.heap.size,0,none⟩),.int .u64 150] 175)
 have hb4:=hb3.alloc (by simp;omega) (.cells #[.int .i64 c] 142)
 have hq4:=hq.below hb4 hlt
 have hv4:=BlockIs.made (((w.alloc (.cells #[.pointer (some ⟨q,0,none⟩)] 144)).alloc (.cells #[tyPK,.pointer (some ⟨w.heap.size,0,none⟩),.int .u64 150] 175)).alloc (.cells #[tyPK,.pointer (some ⟨w.heap.size,0,none⟩),.int .u64 150] 175)) 142 #[.int .i64 c]
 simp only [World.size_alloc]at hv4
 have st:=asSetTK q (w.heap.size+1+1+1) c o _ hv4 hq4
 have hB5:=hq4.set1 0 (.int .i64 c)
 have hG5:=grown_at (grown_below hb4 (some q)) 0 (.int .i64 c)
 have HF:=qh (And.intro hB5 hG5)
 clear hb1 hb2 hb3 hb4 hq4 hv4 hB5 hG5 hq hg
 unfold tyPK tyTK tyE ktoldV at *
 go_enter Tryz.func87,Tryz.ntmps87
 go_wp2
 refine wp_loop_rounds 1 ?_
 rw [rounds_succ]
 go_wp2
 go_ret
 exact⟨rfl,HF.out.1,HF.out.2⟩
theorem kas_blk (n c o:Int) (q:Nat) (w:World) (hg:w.cell? ⟨9,0,none⟩=some (.iface 202 (.agg #[tyE]))) (hq:BlockIs w q 142 #[.int .i64 o]):
 Calls Tryz.prog 87 #[blkV n c,.iface 144 (.pointer (some ⟨q,0,none⟩))] w fun ev w'=>ev= .returned (.bool true)∧BlockIs w' q 142 #[.int .i64 c]∧w.grownBy w' (some q):=by
 have hlt:q < w.heap.size:=hq.lt
 have hgl:9 < w.heap.size:=World.block_lt_of_cell? _ _ hg
 have h1:= @run_callFunc_extern Tryz.prog 114 _ (fun args=>ReflectliteValue.unpack (args.getD 0 (.tuple #[]))) Tryz.func114 (by kernel_rfl) (by kernel_rfl) (by kernel_rfl) (by kernel_rfl)
 have h2:= @run_callFunc_extern Tryz.prog 115 _ (ReflectliteValue.methodAny (ReflectliteValue.valueError "reflectlite.Value.Type" 0) (fun t _ _ _=>ReflectliteType.toType t)) Tryz.func115 (by kernel_rfl) (by kernel_rfl) (by kernel_rfl) (by kernel_rfl)
 have h3:= @run_callFunc_extern Tryz.prog 116 _ (ReflectliteValue.method (ReflectliteValue.valueError "reflectlite.Value.IsNil" 0) ReflectliteValue.isNil) Tryz.func116 (by kernel_rfl) (by kernel_rfl) (by kernel_rfl) (by kernel_rfl)
 have h4:= @run_callFunc_extern Tryz.prog 188 _ (ReflectliteType.abiMethod fun t=>do pure (.int .u8 (← Rtype.kind t))) Tryz.func188 (by kernel_rfl) (by kernel_rfl) (by kernel_rfl) (by kernel_rfl)
 have h5:= @run_callFunc_extern Tryz.prog 200 _ (ReflectliteType.method ReflectliteType.elem) Tryz.func200 (by kernel_rfl) (by kernel_rfl) (by kernel_rfl) (by kernel_rfl)
 have h6:= @run_callFunc_extern Tryz.prog 201 _ (ReflectliteType.relation "Implements" ReflectliteType.implements_) Tryz.func201 (by kernel_rfl) (by kernel_rfl) (by kernel_rfl) (by kernel_rfl)
 have h7:= @run_callFunc_extern Tryz.prog 112 _ ReflectliteType.typeOf Tryz.func112 (by kernel_rfl) (by kernel_rfl) (by kernel_rfl) (by kernel_rfl)
 have h8:= @run_callFunc_extern Tryz.prog 198 _ (ReflectliteType.relation "AssignableTo" ReflectliteType.assignableTo) Tryz.func198 (by kernel_rfl) (by kernel_rfl) (by kernel_rfl) (by kernel_rfl)
 have h9:= @run_callFunc_extern Tryz.prog 134 _ (ReflectliteValue.method (ReflectliteValue.valueError "reflectlite.Value.Elem" 0) ReflectliteValue.elem) Tryz.func134 (by kernel_rfl) (by kernel_rfl) (by kernel_rfl) (by kernel_rfl)
 have h10:= @run_callFunc_extern Tryz.prog 135 _ ReflectliteValue.set Tryz.func135 (by kernel_rfl) (by kernel_rfl) (by kernel_rfl) (by kernel_rfl)
 have tO:=asTypeOfTK
 have tO2:=asTypeOfFK
 have aF2:=asAssignableFK
 have nA:=noAsKF
 have uW:=hasUnwrapKF
 have mU:=methodUnwrapKF
 have mA:=asMethodAssignableTo
 have aF:=asAssignableTK
 have vF:=asValueOfTK
 have vP:=asValueOfPK
 have tP:=asTypePK
 have mK:=asMethodKind
 have mE:=asMethodElem
 have mI:=asMethodImplements
 have kP:=asKindPK
 have kF:=asKindTK
 have eP:=asElemPK
 have iF:=asImplementsTK
 have n8:=asIsNilK ⟨w.heap.size,0,none⟩ ⟨q,0,none⟩ ((w.alloc (.cells #[.pointer (some ⟨q,0,none⟩)] 144)).alloc (.cells #[tyPK,.pointer (some ⟨w.heap.size,0,none⟩),.int .u64 150] 175)) (by simp)
 have hg2:((w.alloc (.cells #[.pointer (some ⟨q,0,none⟩)] 144)).alloc (.cells #[tyPK,.pointer (some ⟨w.heap.size,0,none⟩),.int .u64 150] 175)).cell? ⟨9,0,none⟩=some (.iface 202 (.agg #[tyE])):=by
  rw [World.cell?_alloc_lt _ _ ⟨9,0,none⟩ (by simp;omega),World.cell?_alloc_lt _ _ ⟨9,0,none⟩ hgl];exact hg
 have el:=asElemVK ⟨w.heap.size,0,none⟩ ⟨q,0,none⟩ ((((w.alloc (.cells #[.pointer (some ⟨q,0,none⟩)] 144)).alloc (.cells #[tyPK,.pointer (some ⟨w.heap.size,0,none⟩),.int .u64 150] 175)).alloc (.cells #[tyPK,.pointer (some ⟨w.heap.size,0,none⟩),.int .u64 150] 175)).alloc (.cells #[.int .i64 n,ktoldV c] 234)) (by rw [World.cell?_alloc_lt _ _ ⟨w.heap.size,0,none⟩ (by simp;omega),World.cell?_alloc_lt _ _ ⟨w.heap.size,0,none⟩ (by simp;omega)];simp)
 have hb1:=below_new w (.cells #[.pointer (some ⟨q,0,none⟩)] 144)
 have hb2:=hb1.alloc (by simp) (.cells #[tyPK,.pointer (some ⟨w.heap.size,0,none⟩),.int .u64 150] 175)
 have hb3':=hb2.alloc (by simp;omega) (.cells #[tyPK,.pointer (some ⟨w.heap.size,0,none⟩),.int .u64 150] 175)
 have hb3:=hb3'.alloc (by simp;omega) (.cells #[.int .i64 n,ktoldV c] 234)
 have hb4:=hb3.alloc (by simp;omega) (.cells #[.int .i64 c] 142)
 have hq4:=hq.below hb4 hlt
 have hv4:=BlockIs.made ((((w.alloc (.cells #[.pointer (some ⟨q,0,none⟩)] 144)).alloc (.cells #[tyPK,.pointer (some ⟨w.heap.size,0,none⟩),.int .u64 150] 175)).alloc (.cells #[tyPK,.pointer (some ⟨w.heap.size,0,none⟩),.int .u64 150] 175)).alloc (.cells #[.int .i64 n,ktoldV c] 234)) 142 #[.int .i64 c]
 simp only [World.size_alloc]at hv4
 have st:=asSetTK q (w.heap.size+1+1+1+1) c o _ hv4 hq4
 have hB5:=hq4.set1 0 (.int .i64 c)
 have hG5:=grown_at (grown_below hb4 (some q)) 0 (.int .i64 c)
 have HF:=qh (And.intro hB5 hG5)
 clear hb1 hb2 hb3 hb3' hb4 hq4 hv4 hB5 hG5 hq hg
 unfold tyPK tyTK tyFK tyE blkV ktoldV at *
 go_enter Tryz.func87,Tryz.ntmps87
 go_wp2
 refine wp_loop_rounds 2 ?_
 rw [rounds_succ]
 go_wp2
 rw [rounds_succ]
 go_wp2
 go_ret
 exact⟨rfl,HF.out.1,HF.out.2⟩
open Go.RowKit
structure SenK where
 so:Addr
 wr:Addr
 bd:Addr
 lo:Addr
structure GlK (κ:SenK) (w:World):Prop where
 so:w.cell? ⟨1,0,none⟩=some (errK κ.so)
 wr:w.cell? ⟨0,0,none⟩=some (errK κ.wr)
 bd:w.cell? ⟨2,0,none⟩=some (errK κ.bd)
 lo:w.cell? ⟨3,0,none⟩=some (errK κ.lo)
 ty:w.cell? ⟨9,0,none⟩=some (.iface 202 (.agg #[tyE]))
 ts:There w κ.so
 tw:There w κ.wr
 tb:There w κ.bd
 tl:There w κ.lo
 sw:κ.so≠κ.wr
 sb:κ.so≠κ.bd
 sl:κ.so≠κ.lo
 wb:κ.wr≠κ.bd
 wl:κ.wr≠κ.lo
 bl:κ.bd≠κ.lo
theorem GlK.below {κ:SenK} {w w':World} (h:GlK κ w) (hb:Below w.heap.size w w'):GlK κ w':=
 ⟨cell_below h.so hb,cell_below h.wr hb,cell_below h.bd hb,cell_below h.lo hb,cell_below h.ty hb,h.ts.below hb,h.tw.below hb,h.tb.below hb,h.tl.below hb,h.sw,h.sb,h.sl,h.wb,h.wl,h.bl⟩
def KErr (κ:SenK) (c:Int) (v:Value):Prop:=(c=0∧v= .nilIface)∨(c=2∧v=errK κ.so)∨(c=2∧v=errK κ.wr)∨(c=4∧v=errK κ.bd)∨(c=10∧v=errK κ.lo)∨(c≠0∧v=ktoldV c)∨(c≠0∧ ∃n,v=blkV n c)
theorem KErr.zero {κ:SenK} {v:Value} (h:KErr κ 0 v):v= .nilIface:=by
 rcases h with⟨_,h⟩ | ⟨h,_⟩ | ⟨h,_⟩ | ⟨h,_⟩ | ⟨h,_⟩ | ⟨h,_⟩ | ⟨h,_⟩
 · exact h
 · exact absurd h (by decide)
 · exact absurd h (by decide)
 · exact absurd h (by decide)
 · exact absurd h (by decide)
 · exact absurd rfl h
 · exact absurd rfl h
theorem KErr.some {κ:SenK} {c:Int} {v:Value} (h:KErr κ c v) (hc:c≠0): ∃t x,v= .iface t x:=by
 rcases h with⟨h,_⟩ | ⟨_,h⟩ | ⟨_,h⟩ | ⟨_,h⟩ | ⟨_,h⟩ | ⟨_,h⟩ | ⟨_,n,h⟩
 · exact absurd h hc
 all_goals exact⟨_,_,h⟩
theorem kerrno_any (κ:SenK) (w:World) (hG:GlK κ w) (c:Int) (v:Value) (hv:KErr κ c v):
 Calls Tryz.prog 41 #[v] w fun e w'=>e= .returned (.int .i64 c)∧Below w.heap.size w w':=by
 have g0:=hG.so
 have g1:=hG.wr
 have g2:=hG.bd
 have g3:=hG.lo
 have HG:=qh hG
 clear hG
 unfold errK at g0 g1 g2 g3
 rcases hv with⟨rfl,rfl⟩ | ⟨rfl,rfl⟩ | ⟨rfl,rfl⟩ | ⟨rfl,rfl⟩ | ⟨rfl,rfl⟩ | ⟨_,rfl⟩ | ⟨_,n,rfl⟩
 · have hbn:=below_new w (.cells #[.int .i64 0] 142)
   have Hk:=qh hbn
   clear hbn
   go_enter Tryz.func41,Tryz.ntmps41
   go_wp2_with fail
   refine(kis_nil _ _).mono ?_
   rintro e w' ⟨rfl,rfl⟩
   go_wp2_with fail
   refine(kis_nil _ _).mono ?_
   rintro e w' ⟨rfl,rfl⟩
   go_wp2_with fail
   refine(kis_nil _ _).mono ?_
   rintro e w' ⟨rfl,rfl⟩
   go_wp2_with fail
   refine(kis_nil _ _).mono ?_
   rintro e w' ⟨rfl,rfl⟩
   go_wp2_with fail
   refine(as_nil _ _).mono ?_
   rintro e w' ⟨rfl,rfl⟩
   go_wp2_with fail
   go_ret
   exact⟨rfl,Hk.out⟩
 · unfold errK
   go_enter Tryz.func41,Tryz.ntmps41
   go_wp2_with fail
   refine(is_ptr_same _ _).mono ?_
   rintro e w' ⟨rfl,rfl⟩
   go_wp2_with fail
   go_ret
   exact⟨rfl,Below.refl _ _⟩
 · unfold errK
   go_enter Tryz.func41,Tryz.ntmps41
   go_wp2_with fail
   refine(is_ptr_other _ _ _ (Ne.symm HG.out.sw) HG.out.tw HG.out.ts).mono ?_
   rintro e w' ⟨rfl,rfl⟩
   go_wp2_with fail
   refine(is_ptr_same _ _).mono ?_
   rintro e w' ⟨rfl,rfl⟩
   go_wp2_with fail
   go_ret
   exact⟨rfl,Below.refl _ _⟩
 · unfold errK
   go_enter Tryz.func41,Tryz.ntmps41
   go_wp2_with fail
   refine(is_ptr_other _ _ _ (Ne.symm HG.out.sb) HG.out.tb HG.out.ts).mono ?_
   rintro e w' ⟨rfl,rfl⟩
   go_wp2_with fail
   refine(is_ptr_other _ _ _ (Ne.symm HG.out.wb) HG.out.tb HG.out.tw).mono ?_
   rintro e w' ⟨rfl,rfl⟩
   go_wp2_with fail
   refine(is_ptr_same _ _).mono ?_
   rintro e w' ⟨rfl,rfl⟩
   go_wp2_with fail
   go_ret
   exact⟨rfl,Below.refl _ _⟩
 · unfold errK
   go_enter Tryz.func41,Tryz.ntmps41
   go_wp2_with fail
   refine(is_ptr_other _ _ _ (Ne.symm HG.out.sl) HG.out.tl HG.out.ts).mono ?_
   rintro e w' ⟨rfl,rfl⟩
   go_wp2_with fail
   refine(is_ptr_other _ _ _ (Ne.symm HG.out.wl) HG.out.tl HG.out.tw).mono ?_
   rintro e w' ⟨rfl,rfl⟩
   go_wp2_with fail
   refine(is_ptr_other _ _ _ (Ne.symm HG.out.bl) HG.out.tl HG.out.tb).mono ?_
   rintro e w' ⟨rfl,rfl⟩
   go_wp2_with fail
   refine(is_ptr_same _ _).mono ?_
   rintro e w' ⟨rfl,rfl⟩
   go_wp2_with fail
   go_ret
   exact⟨rfl,Below.refl _ _⟩
 · have hbn:=below_new w (.cells #[.int .i64 0] 142)
   have HA:=qh (kas_told c 0 w.heap.size _ (HG.out.below hbn).ty (BlockIs.made w 142 #[.int .i64 0]))
   have Hk:=qh hbn
   clear hbn
   unfold ktoldV at *
   go_enter Tryz.func41,Tryz.ntmps41
   go_wp2_with fail
   refine(kis_told _ _ _).mono ?_
   rintro e w' ⟨rfl,rfl⟩
   go_wp2_with fail
   refine(kis_told _ _ _).mono ?_
   rintro e w' ⟨rfl,rfl⟩
   go_wp2_with fail
   refine(kis_told _ _ _).mono ?_
   rintro e w' ⟨rfl,rfl⟩
   go_wp2_with fail
   refine(kis_told _ _ _).mono ?_
   rintro e w' ⟨rfl,rfl⟩
   go_wp2_with fail
   refine HA.out.mono ?_
   rintro e w2 ⟨rfl,hB2,hg2⟩
   have hb2:=qh (below_grown Hk.out hg2 Hk.out.size (Nat.le_refl _))
   have d0:w2.cell? ⟨w.heap.size,0,none⟩=some (.int .i64 c):=hB2.cell 0
   clear hB2 hg2 HA g0 g1 g2 g3
   go_wp2_with fail
   go_ret
   exact⟨rfl,hb2.out⟩
 · have H1:=qh (fun b w=>kis_blk n c b w)
   unfold blkV ktoldV at *
   go_enter Tryz.func41,Tryz.ntmps41
   go_wp2_with fail
   refine(H1.out _ _).mono ?_
   rintro e w1 ⟨rfl,hb1⟩
   have B1:=qh hb1
   clear g0 g1 g2 g3 hb1
   have gg1:=(HG.out.below B1.out).wr
   unfold errK at gg1
   go_wp2_with fail
   refine(H1.out _ _).mono ?_
   rintro e w2 ⟨rfl,hb2⟩
   have B2:=qh (B1.out.trans (hb2.mono B1.out.size))
   clear gg1 hb2
   have gg2:=(HG.out.below B2.out).bd
   unfold errK at gg2
   go_wp2_with fail
   refine(H1.out _ _).mono ?_
   rintro e w3 ⟨rfl,hb3⟩
   have B3:=qh (B2.out.trans (hb3.mono B2.out.size))
   clear gg2 hb3
   have gg3:=(HG.out.below B3.out).lo
   unfold errK at gg3
   go_wp2_with fail
   refine(H1.out _ _).mono ?_
   rintro e w4 ⟨rfl,hb4⟩
   have B4:=qh (B3.out.trans (hb4.mono B3.out.size))
   clear gg3 hb4
   have hbn:=below_new w4 (.cells #[.int .i64 0] 142)
   have B5:=qh (B4.out.trans (hbn.mono B4.out.size))
   have HA:=qh (kas_blk n c 0 w4.heap.size _ (HG.out.below B5.out).ty (BlockIs.made w4 142 #[.int .i64 0]))
   unfold blkV ktoldV at HA
   clear hbn
   go_wp2_with fail
   refine HA.out.mono ?_
   rintro e w6 ⟨rfl,hB6,hg6⟩
   have B6:=qh (below_grown B5.out hg6 B5.out.size B4.out.size)
   have d0:w6.cell? ⟨w4.heap.size,0,none⟩=some (.int .i64 c):=hB6.cell 0
   clear hB6 hg6 HA
   go_wp2_with fail
   go_ret
   exact⟨rfl,B6.out⟩
theorem kfailed_any (κ:SenK) (w:World) (n c:Int):
 Calls Tryz.prog 130 #[.int .i64 n,.int .i64 c] w fun e w2=> ∃v,e= .returned v∧KErr κ c v∧Below w.heap.size w w2:=by
 by_cases hc:c=0
 · subst hc
   go_enter Tryz.func130,Tryz.ntmps130
   go_wp2_with fail
   go_ret
   exact⟨_,rfl,.inl ⟨rfl,rfl⟩,Below.refl _ _⟩
 · have hne:(c==0)=false:=beq_eq_false_iff_ne.2 hc
   have Hc:=qh hc
   clear hc
   go_enter Tryz.func130,Tryz.ntmps130
   go_wp2_with fail
   go_ret
   exact⟨_,rfl,.inr (.inr (.inr (.inr (.inr (.inr ⟨Hc.out,n,rfl⟩))))),by first | exact Below.refl _ _ | exact below_new _ _⟩
end Go.Proofs.YtpaikolnampcfaaGreatDoor
