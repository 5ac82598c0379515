/- errors.As at a fault. -/
import Derived.Test.YtpaikolnampcfaaGreatDoorReadField
import Derived.LaidEql
import Derived.Stop.Asserts
import Derived.RowKitTokens
namespace Go.Proofs.YtpaikolnampcfaaGreatDoor
set_option maxRecDepth 100000
set_option maxHeartbeats 4000000
open Go.RowKit Go.Extern.Stop Go.Stop Go.Extern
theorem as_nil (t:Value) (w:World):
 Calls Tryz.prog 87 #[.nilIface,t] w fun e w'=>e= .returned (.bool false)∧w=w':=by
 go_enter Tryz.func87,Tryz.ntmps87
 go_wp2
 go_ret
 exact⟨rfl,rfl⟩
abbrev tyP :Value:= .pointer (some ⟨23,232,none⟩)
abbrev tyF :Value:= .pointer (some ⟨23,231,none⟩)
abbrev tyE :Value:= .pointer (some ⟨23,84,none⟩)
theorem asValueOfP (t:Addr) (w:World):(ReflectliteValue.unpack (.iface 232 (.pointer (some t)))).run Tryz.prog w
 = .ok (.agg #[tyP,.pointer (some ⟨w.heap.size,0,none⟩),.int .u64 150]) (w.alloc (.cells #[.pointer (some t)] 232)):=by kernel_rfl
theorem asTypeP (a:Addr) (w:World):(ReflectliteValue.methodAny (ReflectliteValue.valueError "reflectlite.Value.Type" 0) (fun t _ _ _=>ReflectliteType.toType t) #[.agg #[tyP,.pointer (some a),.int .u64 150]]).run Tryz.prog w
 = .ok (.iface 202 (.agg #[tyP])) w:=by kernel_rfl
theorem asMethodKind (h:Value) (w:World):(Go.method 394 202 (.agg #[h]) "Kind").run Tryz.prog w= .ok (188,h) w:=by kernel_rfl
theorem asKindP (w:World):((ReflectliteType.abiMethod fun t=>(fun a:Nat=>Value.int IntKind.u8 (a:Int)) <$> Rtype.kind t) #[tyP]).run Tryz.prog w= .ok (.int .u8 22) w:=by kernel_rfl
theorem asKindF (w:World):((ReflectliteType.abiMethod fun t=>(fun a:Nat=>Value.int IntKind.u8 (a:Int)) <$> Rtype.kind t) #[tyF]).run Tryz.prog w= .ok (.int .u8 25) w:=by kernel_rfl
theorem asValueOfF (pos:Int) (a:Addr) (w:World):(ReflectliteValue.unpack (.iface 231 (.agg #[.int .i64 pos,.iface 262 (.pointer (some a))]))).run Tryz.prog w
 = .ok (.agg #[tyF,.pointer (some ⟨w.heap.size,0,none⟩),.int .u64 153]) (w.alloc (.cells #[.int .i64 pos,.iface 262 (.pointer (some a))] 231)):=by kernel_rfl
theorem asRlm (z:Sem Value) (f:TypeId→Addr→Nat→Nat→Sem Value) (v:Value):
 ReflectliteValue.method z f #[v]=(do match ← ReflectliteValue.parts v with | none=>z | some (t,a,fl)=>f t a fl (fl % 32)):=rfl
theorem asPartsP (a:Addr) (w:World):(ReflectliteValue.parts (.agg #[tyP,.pointer (some a),.int .u64 150])).run Tryz.prog w= .ok (some (232,a,150)) w:=by kernel_rfl
theorem asIsNil (a p:Addr) (W:World) (ha:W.cell? a=some (.pointer (some p))):
 (ReflectliteValue.method (ReflectliteValue.valueError "reflectlite.Value.IsNil" 0) ReflectliteValue.isNil #[.agg #[tyP,.pointer (some a),.int .u64 150]]).run Tryz.prog W= .ok (.bool false) W:=by
 rw [asRlm]
 simp only [Sem.run_bind,asPartsP,Result.andThen]
 simp [ReflectliteValue.isNil,loadVar,isAgg,underlying,Tryz.underlying232,ha,Result.andThen]
theorem asMethodElem (h:Value) (w:World):(Go.method 394 202 (.agg #[h]) "Elem").run Tryz.prog w= .ok (200,.agg #[h]) w:=by kernel_rfl
theorem asMethodImplements (h:Value) (w:World):(Go.method 394 202 (.agg #[h]) "Implements").run Tryz.prog w= .ok (201,.agg #[h]) w:=by kernel_rfl
theorem asMethodAssignableTo (h:Value) (w:World):(Go.method 394 202 (.agg #[h]) "AssignableTo").run Tryz.prog w= .ok (198,.agg #[h]) w:=by kernel_rfl
theorem asElemP (w:World):(ReflectliteType.method ReflectliteType.elem #[.agg #[tyP]]).run Tryz.prog w= .ok (.iface 202 (.agg #[tyF])) w:=by kernel_rfl
theorem asImplementsF (w:World):(ReflectliteType.relation "Implements" ReflectliteType.implements_ #[.agg #[tyF],.iface 202 (.agg #[tyE])]).run Tryz.prog w= .ok (.bool true) w:=by kernel_rfl
theorem asTypeOfF (v:Value) (w:World):(ReflectliteType.typeOf #[.iface 231 v]).run Tryz.prog w= .ok (.iface 202 (.agg #[tyF])) w:=by kernel_rfl
theorem asAssignableF (w:World):(ReflectliteType.relation "AssignableTo" ReflectliteType.assignableTo #[.agg #[tyF],.iface 202 (.agg #[tyF])]).run Tryz.prog w= .ok (.bool true) w:=by kernel_rfl
theorem asElemOfP (w:World):(Rtype.elem? 232).run Tryz.prog w= .ok (some 231) w:=by kernel_rfl
theorem asMkF (p:Addr) (w:World):(ReflectliteValue.mk 231 p ReflectliteValue.flagAddr).run Tryz.prog w= .ok (.agg #[tyF,.pointer (some p),.int .u64 409]) w:=by kernel_rfl
theorem asElemV (a p:Addr) (W:World) (ha:W.cell? a=some (.pointer (some p))):
 (ReflectliteValue.method (ReflectliteValue.valueError "reflectlite.Value.Elem" 0) ReflectliteValue.elem #[.agg #[tyP,.pointer (some a),.int .u64 150]]).run Tryz.prog W
  = .ok (.agg #[tyF,.pointer (some p),.int .u64 409]) W:=by
 rw [asRlm]
 simp only [Sem.run_bind,asPartsP,Result.andThen]
 simp [ReflectliteValue.elem,loadVar,isAgg,underlying,Tryz.underlying232,ha,Result.andThen,asElemOfP,asMkF]
theorem asRls (v x:Value):ReflectliteValue.set #[v,x]=(do
 let (some (dst,a,fl),some (src,b,_)):=(← ReflectliteValue.parts v, ← ReflectliteValue.parts x)
  | unsupported (.noEntry "extern/(internal/reflectlite.Value).Set.zeroValue")
 if fl / ReflectliteValue.flagAddr % 2==0 then unsupported (.noEntry "extern/(internal/reflectlite.Value).Set.unaddressable")
 let val ← loadVar src b
 if ← Rtype.directlyAssignable dst src then storeVar dst a val
 else if ← Rtype.implements dst src then
  if(← Rtype.kind src)==20 then
   match val with
   | .nilIface=>unsupported (.noEntry "extern/reflectlite: a nil value of one interface type handed on as a value of another")
   | _=>storeVar dst a val
  else storeVar dst a (.iface src val)
 else panicString ("reflectlite.Set: value of type " ++(← Rtype.spelt src)++ " is not assignable to type " ++(← Rtype.spelt dst))
 pure (.tuple #[])):=rfl
theorem asPartsFa (a:Addr) (w:World):(ReflectliteValue.parts (.agg #[tyF,.pointer (some a),.int .u64 409])).run Tryz.prog w= .ok (some (231,a,409)) w:=by kernel_rfl
theorem asPartsF (a:Addr) (w:World):(ReflectliteValue.parts (.agg #[tyF,.pointer (some a),.int .u64 153])).run Tryz.prog w= .ok (some (231,a,153)) w:=by kernel_rfl
theorem asDirectF (w:World):(Rtype.directlyAssignable 231 231).run Tryz.prog w= .ok true w:=by kernel_rfl
theorem asSetF (q b:Nat) (x y o0 o1:Value) (W:World) (hb:BlockIs W b 231 #[x,y]) (hq:BlockIs W q 231 #[o0,o1]) (hx:x.oneCell'=true) (hy:y.oneCell'=true):
 (ReflectliteValue.set #[.agg #[tyF,.pointer (some ⟨q,0,none⟩),.int .u64 409],.agg #[tyF,.pointer (some ⟨b,0,none⟩),.int .u64 153]]).run Tryz.prog W
  = .ok (.tuple #[]) ((W.setCell ⟨q,0,none⟩ x).setCell ⟨q,1,none⟩ y):=by
 have b0:W.cell? ⟨b,0,none⟩=some x:=hb.cell 0
 have b1:W.cell? ⟨b,1,none⟩=some y:=hb.cell 1
 have q0:W.cell? ⟨q,0,none⟩=some o0:=hq.cell 0
 have q1:W.cell? ⟨q,1,none⟩=some o1:=hq.cell 1
 have f0:=hq.free 0
 have f1:=hq.free 1
 have hl:(loadCells ⟨b,0,none⟩ 2).run Tryz.prog W= .ok #[x,y] W:=run_loadCells_list (P:=Tryz.prog) W ⟨b,0,none⟩ [x,y] (fun j v hj=>by
  match j,hj with
  | 0,hj=>obtain rfl:x=v:=by simpa using hj
          exact b0
  | 1,hj=>obtain rfl:y=v:=by simpa using hj
          exact b1
  | j+2,hj=>simp at hj)
 rw [asRls]
 simp only [Sem.run_bind,asPartsFa,asPartsF,Result.andThen]
 simp [ReflectliteValue.flagAddr,loadVar,isAgg,underlying,Tryz.underlying231,hl,Result.andThen,asDirectF,storeVar,Value.cells,storeCells,Addr.add]
 rw [run_store Tryz.prog W _ _ _ hx]
 simp [q0,f0]
 rw [run_store Tryz.prog _ _ _ _ hy]
 have q1':(W.setCell ⟨q,0,none⟩ x).cell? ⟨q,1,none⟩=some o1:=(hq.set1 0 x).cell 1
 have f1':=(hq.set1 0 x).free 1
 simp [q1',f1']
theorem as_hit (pos:Int) (a:Addr) (q:Nat) (o0 o1:Value) (w:World) (hg:w.cell? ⟨9,0,none⟩=some (.iface 202 (.agg #[tyE]))) (hq:BlockIs w q 231 #[o0,o1]):
 Calls Tryz.prog 87 #[.iface 231 (.agg #[.int .i64 pos,.iface 262 (.pointer (some a))]),.iface 232 (.pointer (some ⟨q,0,none⟩))] w fun ev w'=>ev= .returned (.bool true)∧BlockIs w' q 231 #[.int .i64 pos,.iface 262 (.pointer (some a))]∧w.grownBy w' (some q):=by
 have hlt:q < w.heap.size:=hq.lt
 have hgl:9 < w.heap.size:=World.block_lt_of_cell? _ _ hg
 have h1:= @run_callFunc_extern Tryz.prog 114 _ (fun args=>ReflectliteValue.unpack (args.getD 0 (.tuple #[]))) Tryz.func114 (by kernel_rfl) (by kernel_rfl) (by kernel_rfl) (by kernel_rfl)
 have h2:= @run_callFunc_extern Tryz.prog 115 _ (ReflectliteValue.methodAny (ReflectliteValue.valueError "reflectlite.Value.Type" 0) (fun t _ _ _=>ReflectliteType.toType t)) Tryz.func115 (by kernel_rfl) (by kernel_rfl) (by kernel_rfl) (by kernel_rfl)
 have h3:= @run_callFunc_extern Tryz.prog 116 _ (ReflectliteValue.method (ReflectliteValue.valueError "reflectlite.Value.IsNil" 0) ReflectliteValue.isNil) Tryz.func116 (by kernel_rfl) (by kernel_rfl) (by kernel_rfl) (by kernel_rfl)
 have h4:= @run_callFunc_extern Tryz.prog 188 _ (ReflectliteType.abiMethod fun t=>do pure (.int .u8 (← Rtype.kind t))) Tryz.func188 (by kernel_rfl) (by kernel_rfl) (by kernel_rfl) (by kernel_rfl)
 have h5:= @run_callFunc_extern Tryz.prog 200 _ (ReflectliteType.method ReflectliteType.elem) Tryz.func200 (by kernel_rfl) (by kernel_rfl) (by kernel_rfl) (by kernel_rfl)
 have h6:= @run_callFunc_extern Tryz.prog 201 _ (ReflectliteType.relation "Implements" ReflectliteType.implements_) Tryz.func201 (by kernel_rfl) (by kernel_rfl) (by kernel_rfl) (by kernel_rfl)
 have h7:= @run_callFunc_extern Tryz.prog 112 _ ReflectliteType.typeOf Tryz.func112 (by kernel_rfl) (by kernel_rfl) (by kernel_rfl) (by kernel_rfl)
 have h8:= @run_callFunc_extern Tryz.prog 198 _ (ReflectliteType.relation "AssignableTo" ReflectliteType.assignableTo) Tryz.func198 (by kernel_rfl) (by kernel_rfl) (by kernel_rfl) (by kernel_rfl)
 have h9:= @run_callFunc_extern Tryz.prog 134 _ (ReflectliteValue.method (ReflectliteValue.valueError "reflectlite.Value.Elem" 0) ReflectliteValue.elem) Tryz.func134 (by kernel_rfl) (by kernel_rfl) (by kernel_rfl) (by kernel_rfl)
 have h10:= @run_callFunc_extern Tryz.prog 135 _ ReflectliteValue.set Tryz.func135 (by kernel_rfl) (by kernel_rfl) (by kernel_rfl) (by kernel_rfl)
 have tO:=asTypeOfF
 have mA:=asMethodAssignableTo
 have aF:=asAssignableF
 have vF:=asValueOfF
 have vP:=asValueOfP
 have tP:=asTypeP
 have mK:=asMethodKind
 have mE:=asMethodElem
 have mI:=asMethodImplements
 have kP:=asKindP
 have kF:=asKindF
 have eP:=asElemP
 have iF:=asImplementsF
 have n8:=asIsNil ⟨w.heap.size,0,none⟩ ⟨q,0,none⟩ ((w.alloc (.cells #[.pointer (some ⟨q,0,none⟩)] 232)).alloc (.cells #[tyP,.pointer (some ⟨w.heap.size,0,none⟩),.int .u64 150] 175)) (by simp)
 have hg2:((w.alloc (.cells #[.pointer (some ⟨q,0,none⟩)] 232)).alloc (.cells #[tyP,.pointer (some ⟨w.heap.size,0,none⟩),.int .u64 150] 175)).cell? ⟨9,0,none⟩=some (.iface 202 (.agg #[tyE])):=by
  rw [World.cell?_alloc_lt _ _ ⟨9,0,none⟩ (by simp;omega),World.cell?_alloc_lt _ _ ⟨9,0,none⟩ hgl];exact hg
 have el:=asElemV ⟨w.heap.size,0,none⟩ ⟨q,0,none⟩ (((w.alloc (.cells #[.pointer (some ⟨q,0,none⟩)] 232)).alloc (.cells #[tyP,.pointer (some ⟨w.heap.size,0,none⟩),.int .u64 150] 175)).alloc (.cells #[tyP,.pointer (some ⟨w.heap.size,0,none⟩),.int .u64 150] 175)) (by rw [World.cell?_alloc_lt _ _ ⟨w.heap.size,0,none⟩ (by simp;omega)];simp)
 have hb1:=below_new w (.cells #[.pointer (some ⟨q,0,none⟩)] 232)
 have hb2:=hb1.alloc (by simp) (.cells #[tyP,.pointer (some ⟨w.heap.size,0,none⟩),.int .u64 150] 175)
 have hb3:=hb2.alloc (by simp;omega) (.cells #[tyP,.pointer (some ⟨w.heap.size,0,none⟩),.int .u64 150] 175)
 have hb4:=hb3.alloc (by simp;omega) (.cells #[.int .i64 pos,.iface 262 (.pointer (some a))] 231)
 have hq4:=hq.below hb4 hlt
 have hv4:=BlockIs.made (((w.alloc (.cells #[.pointer (some ⟨q,0,none⟩)] 232)).alloc (.cells #[tyP,.pointer (some ⟨w.heap.size,0,none⟩),.int .u64 150] 175)).alloc (.cells #[tyP,.pointer (some ⟨w.heap.size,0,none⟩),.int .u64 150] 175)) 231 #[.int .i64 pos,.iface 262 (.pointer (some a))]
 simp only [World.size_alloc]at hv4
 have st:=asSetF q (w.heap.size+1+1+1) _ _ o0 o1 _ hv4 hq4 rfl rfl
 have hB5:=(hq4.set1 0 (.int .i64 pos)).set1 1 (.iface 262 (.pointer (some a)))
 have hG5:=grown_at (grown_at (grown_below hb4 (some q)) 0 (.int .i64 pos)) 1 (.iface 262 (.pointer (some a)))
 have HF:=qh (And.intro hB5 hG5)
 clear hb1 hb2 hb3 hb4 hq4 hv4 hB5 hG5 hq hg
 unfold tyP tyF tyE at *
 go_enter Tryz.func87,Tryz.ntmps87
 go_wp2
 refine wp_loop_rounds 1 ?_
 rw [rounds_succ]
 go_wp2
 go_ret
 exact⟨rfl,HF.out.1,HF.out.2⟩
open Go.RowKit Go.Extern.Stop Go.Stop Go.Extern
abbrev tyPU :Value:= .pointer (some ⟨23,223,none⟩)
abbrev tyFU :Value:= .pointer (some ⟨23,222,none⟩)
theorem asValueOfPU (t:Addr) (w:World):(ReflectliteValue.unpack (.iface 223 (.pointer (some t)))).run Tryz.prog w
 = .ok (.agg #[tyPU,.pointer (some ⟨w.heap.size,0,none⟩),.int .u64 150]) (w.alloc (.cells #[.pointer (some t)] 223)):=by kernel_rfl
theorem asTypePU (a:Addr) (w:World):(ReflectliteValue.methodAny (ReflectliteValue.valueError "reflectlite.Value.Type" 0) (fun t _ _ _=>ReflectliteType.toType t) #[.agg #[tyPU,.pointer (some a),.int .u64 150]]).run Tryz.prog w
 = .ok (.iface 202 (.agg #[tyPU])) w:=by kernel_rfl
theorem asKindPU (w:World):((ReflectliteType.abiMethod fun t=>(fun a:Nat=>Value.int IntKind.u8 (a:Int)) <$> Rtype.kind t) #[tyPU]).run Tryz.prog w= .ok (.int .u8 22) w:=by kernel_rfl
theorem asKindFU (w:World):((ReflectliteType.abiMethod fun t=>(fun a:Nat=>Value.int IntKind.u8 (a:Int)) <$> Rtype.kind t) #[tyFU]).run Tryz.prog w= .ok (.int .u8 25) w:=by kernel_rfl
theorem asValueOfFU (pos:Int) (a:Addr) (w:World):(ReflectliteValue.unpack (.iface 222 (.agg #[.int .i64 pos,.iface 262 (.pointer (some a))]))).run Tryz.prog w
 = .ok (.agg #[tyFU,.pointer (some ⟨w.heap.size,0,none⟩),.int .u64 153]) (w.alloc (.cells #[.int .i64 pos,.iface 262 (.pointer (some a))] 222)):=by kernel_rfl
theorem asPartsPU (a:Addr) (w:World):(ReflectliteValue.parts (.agg #[tyPU,.pointer (some a),.int .u64 150])).run Tryz.prog w= .ok (some (223,a,150)) w:=by kernel_rfl
theorem asIsNilU (a p:Addr) (W:World) (ha:W.cell? a=some (.pointer (some p))):
 (ReflectliteValue.method (ReflectliteValue.valueError "reflectlite.Value.IsNil" 0) ReflectliteValue.isNil #[.agg #[tyPU,.pointer (some a),.int .u64 150]]).run Tryz.prog W= .ok (.bool false) W:=by
 rw [asRlm]
 simp only [Sem.run_bind,asPartsPU,Result.andThen]
 simp [ReflectliteValue.isNil,loadVar,isAgg,underlying,Tryz.underlying223,ha,Result.andThen]
theorem asElemPU (w:World):(ReflectliteType.method ReflectliteType.elem #[.agg #[tyPU]]).run Tryz.prog w= .ok (.iface 202 (.agg #[tyFU])) w:=by kernel_rfl
theorem asImplementsFU (w:World):(ReflectliteType.relation "Implements" ReflectliteType.implements_ #[.agg #[tyFU],.iface 202 (.agg #[tyE])]).run Tryz.prog w= .ok (.bool true) w:=by kernel_rfl
theorem asTypeOfFU (v:Value) (w:World):(ReflectliteType.typeOf #[.iface 222 v]).run Tryz.prog w= .ok (.iface 202 (.agg #[tyFU])) w:=by kernel_rfl
theorem asAssignableFU (w:World):(ReflectliteType.relation "AssignableTo" ReflectliteType.assignableTo #[.agg #[tyFU],.iface 202 (.agg #[tyFU])]).run Tryz.prog w= .ok (.bool true) w:=by kernel_rfl
theorem asElemOfPU (w:World):(Rtype.elem? 223).run Tryz.prog w= .ok (some 222) w:=by kernel_rfl
theorem asMkFU (p:Addr) (w:World):(ReflectliteValue.mk 222 p ReflectliteValue.flagAddr).run Tryz.prog w= .ok (.agg #[tyFU,.pointer (some p),.int .u64 409]) w:=by kernel_rfl
theorem asElemVU (a p:Addr) (W:World) (ha:W.cell? a=some (.pointer (some p))):
 (ReflectliteValue.method (ReflectliteValue.valueError "reflectlite.Value.Elem" 0) ReflectliteValue.elem #[.agg #[tyPU,.pointer (some a),.int .u64 150]]).run Tryz.prog W
  = .ok (.agg #[tyFU,.pointer (some p),.int .u64 409]) W:=by
 rw [asRlm]
 simp only [Sem.run_bind,asPartsPU,Result.andThen]
 simp [ReflectliteValue.elem,loadVar,isAgg,underlying,Tryz.underlying223,ha,Result.andThen,asElemOfPU,asMkFU]
theorem asPartsFaU (a:Addr) (w:World):(ReflectliteValue.parts (.agg #[tyFU,.pointer (some a),.int .u64 409])).run Tryz.prog w= .ok (some (222,a,409)) w:=by kernel_rfl
theorem asPartsFU (a:Addr) (w:World):(ReflectliteValue.parts (.agg #[tyFU,.pointer (some a),.int .u64 153])).run Tryz.prog w= .ok (some (222,a,153)) w:=by kernel_rfl
theorem asDirectFU (w:World):(Rtype.directlyAssignable 222 222).run Tryz.prog w= .ok true w:=by kernel_rfl
theorem asSetFU (q b:Nat) (x y o0 o1:Value) (W:World) (hb:BlockIs W b 222 #[x,y]) (hq:BlockIs W q 222 #[o0,o1]) (hx:x.oneCell'=true) (hy:y.oneCell'=true):
 (ReflectliteValue.set #[.agg #[tyFU,.pointer (some ⟨q,0,none⟩),.int .u64 409],.agg #[tyFU,.pointer (some ⟨b,0,none⟩),.int .u64 153]]).run Tryz.prog W
  = .ok (.tuple #[]) ((W.setCell ⟨q,0,none⟩ x).setCell ⟨q,1,none⟩ y):=by
 have b0:W.cell? ⟨b,0,none⟩=some x:=hb.cell 0
 have b1:W.cell? ⟨b,1,none⟩=some y:=hb.cell 1
 have q0:W.cell? ⟨q,0,none⟩=some o0:=hq.cell 0
 have q1:W.cell? ⟨q,1,none⟩=some o1:=hq.cell 1
 have f0:=hq.free 0
 have f1:=hq.free 1
 have hl:(loadCells ⟨b,0,none⟩ 2).run Tryz.prog W= .ok #[x,y] W:=run_loadCells_list (P:=Tryz.prog) W ⟨b,0,none⟩ [x,y] (fun j v hj=>by
  match j,hj with
  | 0,hj=>obtain rfl:x=v:=by simpa using hj
          exact b0
  | 1,hj=>obtain rfl:y=v:=by simpa using hj
          exact b1
  | j+2,hj=>simp at hj)
 rw [asRls]
 simp only [Sem.run_bind,asPartsFaU,asPartsFU,Result.andThen]
 simp [ReflectliteValue.flagAddr,loadVar,isAgg,underlying,Tryz.underlying222,hl,Result.andThen,asDirectFU,storeVar,Value.cells,storeCells,Addr.add]
 rw [run_store Tryz.prog W _ _ _ hx]
 simp [q0,f0]
 rw [run_store Tryz.prog _ _ _ _ hy]
 have q1':(W.setCell ⟨q,0,none⟩ x).cell? ⟨q,1,none⟩=some o1:=(hq.set1 0 x).cell 1
 have f1':=(hq.set1 0 x).free 1
 simp [q1',f1']
theorem uas_hit (pos:Int) (a:Addr) (q:Nat) (o0 o1:Value) (w:World) (hg:w.cell? ⟨9,0,none⟩=some (.iface 202 (.agg #[tyE]))) (hq:BlockIs w q 222 #[o0,o1]):
 Calls Tryz.prog 87 #[.iface 222 (.agg #[.int .i64 pos,.iface 262 (.pointer (some a))]),.iface 223 (.pointer (some ⟨q,0,none⟩))] w fun ev w'=>ev= .returned (.bool true)∧BlockIs w' q 222 #[.int .i64 pos,.iface 262 (.pointer (some a))]∧w.grownBy w' (some q):=by
 have hlt:q < w.heap.size:=hq.lt
 have hgl:9 < w.heap.size:=World.block_lt_of_cell? _ _ hg
 have h1:= @run_callFunc_extern Tryz.prog 114 _ (fun args=>ReflectliteValue.unpack (args.getD 0 (.tuple #[]))) Tryz.func114 (by kernel_rfl) (by kernel_rfl) (by kernel_rfl) (by kernel_rfl)
 have h2:= @run_callFunc_extern Tryz.prog 115 _ (ReflectliteValue.methodAny (ReflectliteValue.valueError "reflectlite.Value.Type" 0) (fun t _ _ _=>ReflectliteType.toType t)) Tryz.func115 (by kernel_rfl) (by kernel_rfl) (by kernel_rfl) (by kernel_rfl)
 have h3:= @run_callFunc_extern Tryz.prog 116 _ (ReflectliteValue.method (ReflectliteValue.valueError "reflectlite.Value.IsNil" 0) ReflectliteValue.isNil) Tryz.func116 (by kernel_rfl) (by kernel_rfl) (by kernel_rfl) (by kernel_rfl)
 have h4:= @run_callFunc_extern Tryz.prog 188 _ (ReflectliteType.abiMethod fun t=>do pure (.int .u8 (← Rtype.kind t))) Tryz.func188 (by kernel_rfl) (by kernel_rfl) (by kernel_rfl) (by kernel_rfl)
 have h5:= @run_callFunc_extern Tryz.prog 200 _ (ReflectliteType.method ReflectliteType.elem) Tryz.func200 (by kernel_rfl) (by kernel_rfl) (by kernel_rfl) (by kernel_rfl)
 have h6:= @run_callFunc_extern Tryz.prog 201 _ (ReflectliteType.relation "Implements" ReflectliteType.implements_) Tryz.func201 (by kernel_rfl) (by kernel_rfl) (by kernel_rfl) (by kernel_rfl)
 have h7:= @run_callFunc_extern Tryz.prog 112 _ ReflectliteType.typeOf Tryz.func112 (by kernel_rfl) (by kernel_rfl) (by kernel_rfl) (by kernel_rfl)
 have h8:= @run_callFunc_extern Tryz.prog 198 _ (ReflectliteType.relation "AssignableTo" ReflectliteType.assignableTo) Tryz.func198 (by kernel_rfl) (by kernel_rfl) (by kernel_rfl) (by kernel_rfl)
 have h9:= @run_callFunc_extern Tryz.prog 134 _ (ReflectliteValue.method (ReflectliteValue.valueError "reflectlite.Value.Elem" 0) ReflectliteValue.elem) Tryz.func134 (by kernel_rfl) (by kernel_rfl) (by kernel_rfl) (by kernel_rfl)
 have h10:= @run_callFunc_extern Tryz.prog 135 _ ReflectliteValue.set Tryz.func135 (by kernel_rfl) (by kernel_rfl) (by kernel_rfl) (by kernel_rfl)
 have tO:=asTypeOfFU
 have mA:=asMethodAssignableTo
 have aF:=asAssignableFU
 have vF:=asValueOfFU
 have vP:=asValueOfPU
 have tP:=asTypePU
 have mK:=asMethodKind
 have mE:=asMethodElem
 have mI:=asMethodImplements
 have kP:=asKindPU
 have kF:=asKindFU
 have eP:=asElemPU
 have iF:=asImplementsFU
 have n8:=asIsNilU ⟨w.heap.size,0,none⟩ ⟨q,0,none⟩ ((w.alloc (.cells #[.pointer (some ⟨q,0,none⟩)] 223)).alloc (.cells #[tyPU,.pointer (some ⟨w.heap.size,0,none⟩),.int .u64 150] 175)) (by simp)
 have hg2:((w.alloc (.cells #[.pointer (some ⟨q,0,none⟩)] 223)).alloc (.cells #[tyPU,.pointer (some ⟨w.heap.size,0,none⟩),.int .u64 150] 175)).cell? ⟨9,0,none⟩=some (.iface 202 (.agg #[tyE])):=by
  rw [World.cell?_alloc_lt _ _ ⟨9,0,none⟩ (by simp;omega),World.cell?_alloc_lt _ _ ⟨9,0,none⟩ hgl];exact hg
 have el:=asElemVU ⟨w.heap.size,0,none⟩ ⟨q,0,none⟩ (((w.alloc (.cells #[.pointer (some ⟨q,0,none⟩)] 223)).alloc (.cells #[tyPU,.pointer (some ⟨w.heap.size,0,none⟩),.int .u64 150] 175)).alloc (.cells #[tyPU,.pointer (some ⟨w.heap.size,0,none⟩),.int .u64 150] 175)) (by rw [World.cell?_alloc_lt _ _ ⟨w.heap.size,0,none⟩ (by simp;omega)];simp)
 have hb1:=below_new w (.cells #[.pointer (some ⟨q,0,none⟩)] 223)
 have hb2:=hb1.alloc (by simp) (.cells #[tyPU,.pointer (some ⟨w.heap.size,0,none⟩),.int .u64 150] 175)
 have hb3:=hb2.alloc (by simp;omega) (.cells #[tyPU,.pointer (some ⟨w.heap.size,0,none⟩),.int .u64 150] 175)
 have hb4:=hb3.alloc (by simp;omega) (.cells #[.int .i64 pos,.iface 262 (.pointer (some a))] 222)
 have hq4:=hq.below hb4 hlt
 have hv4:=BlockIs.made (((w.alloc (.cells #[.pointer (some ⟨q,0,none⟩)] 223)).alloc (.cells #[tyPU,.pointer (some ⟨w.heap.size,0,none⟩),.int .u64 150] 175)).alloc (.cells #[tyPU,.pointer (some ⟨w.heap.size,0,none⟩),.int .u64 150] 175)) 222 #[.int .i64 pos,.iface 262 (.pointer (some a))]
 simp only [World.size_alloc]at hv4
 have st:=asSetFU q (w.heap.size+1+1+1) _ _ o0 o1 _ hv4 hq4 rfl rfl
 have hB5:=(hq4.set1 0 (.int .i64 pos)).set1 1 (.iface 262 (.pointer (some a)))
 have hG5:=grown_at (grown_at (grown_below hb4 (some q)) 0 (.int .i64 pos)) 1 (.iface 262 (.pointer (some a)))
 have HF:=qh (And.intro hB5 hG5)
 clear hb1 hb2 hb3 hb4 hq4 hv4 hB5 hG5 hq hg
 unfold tyPU tyFU tyE at *
 go_enter Tryz.func87,Tryz.ntmps87
 go_wp2
 refine wp_loop_rounds 1 ?_
 rw [rounds_succ]
 go_wp2
 go_ret
 exact⟨rfl,HF.out.1,HF.out.2⟩
end Go.Proofs.YtpaikolnampcfaaGreatDoor
