/- What a disk has in memory. -/
import Derived.Test.YtpaikolnampcfaaGreatDoorKitInts
import Derived.Test.YtpaikolnampcfaaGreatDoorMarkV
import Derived.Test.YtpaikolnampcfaaGreatDoorDevErr
import Derived.Deep.MidRow
import Derived.Laws.CopyOwn
import Derived.Deep.WholeRow
import Derived.LaidEqlPtr
import Derived.BigQuiet
import Derived.Deep.RegionLaw
import Derived.IntWalk
namespace Go.Proofs.YtpaikolnampcfaaGreatDoor
set_option maxRecDepth 100000
open Go.RowKit
theorem flat_split {α:Type} (f:α→List Value) {l:List α} {n:Nat} (h:n < l.length):l.flatMap f=(l.take n).flatMap f++(f l[n]++(l.drop (n+1)).flatMap f):=by
 conv=>lhs;rw [← List.take_append_drop n l]
 rw [List.flatMap_append,List.drop_eq_getElem_cons h,List.flatMap_cons]
theorem flat_lenV {α:Type} (f:α→List Value) (W:Nat): ∀(l:List α),(∀x∈l,(f x).length=W)→(l.flatMap f).length=l.length * W
 | [],_=>by simp
 | x::r,h=>by
   rw [List.flatMap_cons,List.length_append,flat_lenV f W r (fun y hy=>h y (List.mem_cons_of_mem _ hy)),h x (List.mem_cons_self),List.length_cons,Nat.add_mul,Nat.one_mul,Nat.add_comm]
theorem flat_head_len {α:Type} (f:α→List Value) (W:Nat) {l:List α} (h: ∀x∈l,(f x).length=W) {n:Nat} (hn:n≤l.length):((l.take n).flatMap f).length=n * W:=by
 rw [flat_lenV f W _ (fun x hx=>h x (List.mem_of_mem_take hx)),List.length_take,Nat.min_eq_left hn]
theorem flat_at {α:Type} (f:α→List Value) (W:Nat) {l:List α} (h: ∀x∈l,(f x).length=W) {n:Nat} (hn:n < l.length) {i:Nat} (hi:i < W):(l.flatMap f)[n * W+i]? =(f l[n])[i]? :=by
 have h1:=flat_head_len f W h (Nat.le_of_lt hn)
 rw [flat_split f hn,List.getElem?_append_right (by omega),h1,Nat.add_sub_cancel_left,List.getElem?_append_left (by rw [h _ (List.getElem_mem hn)];exact hi)]
theorem splice_mid {α:Type} (A B L:List α) (o:Nat) (vs:List α) (h:o+vs.length≤B.length):splice (A++(B++L)) (A.length+o) vs=A++(splice B o vs++L):=by
 unfold splice
 rw [List.take_length_add_append,List.append_assoc,Nat.add_assoc,List.drop_length_add_append,List.take_append_of_le_length (by omega),List.drop_append_of_le_length h]
 simp
theorem flat_splice {α:Type} (f:α→List Value) (W:Nat) {l:List α} (h: ∀x∈l,(f x).length=W) {n:Nat} (hn:n < l.length) {o:Nat} {vs:List Value} (ho:o+vs.length≤W) {y:α} (hy:f y=splice (f l[n]) o vs):splice (l.flatMap f) (n * W+o) vs=(l.set n y).flatMap f:=by
 have h1:=flat_head_len f W h (Nat.le_of_lt hn)
 rw [flat_split f hn, ← h1,splice_mid _ _ _ _ _ (by rw [h _ (List.getElem_mem hn)];exact ho), ← hy]
 have hn':n < (l.set n y).length:=by rw [List.length_set];exact hn
 rw [flat_split f hn',List.take_set_of_le (Nat.le_refl n),List.drop_set_of_lt (Nat.lt_succ_self n),List.getElem_set_self]
theorem splice_one {α:Type} (L:List α) (o:Nat) (v:α) (h:o < L.length):splice L o [v]=L.set o v:=by
 unfold splice
 rw [List.set_eq_take_append_cons_drop,if_pos h];simp
structure MCell where
 bs:List Int
 hurt:Bool
 last:Nat
instance : Inhabited MCell:=⟨⟨[],false,0⟩⟩
def cellV (m:MCell):List Value:=u8s m.bs++ [.bool m.hurt,.int .i64 (m.last:Int)]
def writeV (p:Nat × List Int):List Value:= .int .i64 (p.1:Int)::u8s p.2
theorem cellV_len {m:MCell} (h:BlkOk m.bs):(cellV m).length=258:=by unfold cellV;rw [List.length_append,u8s_len,h.1];rfl
theorem writeV_len {p:Nat × List Int} (h:BlkOk p.2):(writeV p).length=257:=by unfold writeV;rw [List.length_cons,u8s_len,h.1]
theorem cellV_hurt {m:MCell} (h:BlkOk m.bs):(cellV m)[256]? =some (.bool m.hurt):=by
 unfold cellV;rw [List.getElem?_append_right (by rw [u8s_len,h.1];omega),u8s_len,h.1];rfl
theorem cellV_last {m:MCell} (h:BlkOk m.bs):(cellV m)[257]? =some (.int .i64 (m.last:Int)):=by
 unfold cellV;rw [List.getElem?_append_right (by rw [u8s_len,h.1];omega),u8s_len,h.1];rfl
theorem cellV_set_hurt {m:MCell} (h:BlkOk m.bs) (x:Bool):(cellV m).set 256 (.bool x)=cellV { m with hurt:=x } :=by
 unfold cellV;rw [List.set_append_right _ _ (by rw [u8s_len,h.1];omega),u8s_len,h.1];rfl
theorem cellV_set_last {m:MCell} (h:BlkOk m.bs) (x:Nat):(cellV m).set 257 (.int .i64 (x:Int))=cellV { m with last:=x } :=by
 unfold cellV;rw [List.set_append_right _ _ (by rw [u8s_len,h.1];omega),u8s_len,h.1];rfl
theorem cellV_splice {m:MCell} (h:BlkOk m.bs) {ys:List Int} (hy:ys.length≤256):splice (cellV m) 0 (u8s ys)=cellV { m with bs:=ys++m.bs.drop ys.length } :=by
 unfold cellV splice
 rw [List.take_zero,List.nil_append,Nat.zero_add,u8s_len,List.drop_append_of_le_length (by rw [u8s_len,h.1];exact hy), ← u8s_app]
 unfold u8s
 rw [List.map_drop];simp
structure DevR (w:World) (T:Nat→Prop) (h C:Nat) (wv:Value) (hu tu cr:Nat) (M:List MCell) (ws:List (Nat × List Int)) (left:Int) (dn:Bool):Prop where
 foot: ∀k,T k→k < w.heap.size
 self:T h
 tc:T C
 ne:C≠h
 blk:BlockIs w h 107 #[.int .i64 (hu:Int),.int .i64 (tu:Int),.int .i64 (cr:Int),.pointer (some ⟨h,0,none⟩),.slice (some ⟨C,0,none⟩) M.length M.length,wv,.int .i64 left,.bool dn]
 cells:BlockIs w C 121 (M.flatMap cellV).toArray
 own:w.ownsRow 0 165 257 wv ws.length (ws.flatMap writeV)
 off:wv.ownBlock≠some h
 offC:wv.ownBlock≠some C
 mem: ∀b,wv.ownBlock=some b→T b
 mb: ∀m∈M,BlkOk m.bs
 many:M.length≤4096
 wb: ∀p∈ws,p.1 < M.length∧BlkOk p.2
section
variable {w w' : World} {T T' : Nat → Prop} {h C : Nat} {wv : Value} {hu tu cr : Nat} {M : List MCell} {ws : List (Nat × List Int)} {left : Int} {dn : Bool}
theorem DevR.lt (k:DevR w T h C wv hu tu cr M ws left dn):h < w.heap.size:=k.foot h k.self
theorem DevR.keep (k:DevR w T h C wv hu tu cr M ws left dn) (hs:w.heap.size≤w'.heap.size) (hk: ∀b,T b→w'.heap[b]? =w.heap[b]?):DevR w' T h C wv hu tu cr M ws left dn:=
 ⟨fun _ hj=>Nat.lt_of_lt_of_le (k.foot _ hj) hs,k.self,k.tc,k.ne,k.blk.keep (hk _ k.self),k.cells.keep (hk _ k.tc),own_keep k.own (fun b hb=>hk b (k.mem b hb)),k.off,k.offC,k.mem,k.mb,k.many,k.wb⟩
theorem DevR.below (k:DevR w T h C wv hu tu cr M ws left dn) (hb:Below w.heap.size w w'):DevR w' T h C wv hu tu cr M ws left dn:=k.keep hb.size (fun b hT=>hb.block b (k.foot b hT))
theorem DevR.drewN (k:DevR w T h C wv hu tu cr M ws left dn) (n:Nat):DevR (w.drewN n) T h C wv hu tu cr M ws left dn:=⟨k.foot,k.self,k.tc,k.ne,k.blk,k.cells,k.own,k.off,k.offC,k.mem,k.mb,k.many,k.wb⟩
theorem DevR.mono (k:DevR w T h C wv hu tu cr M ws left dn) (hT: ∀j,T j→T' j) (hf: ∀j,T' j→j < w.heap.size):DevR w T' h C wv hu tu cr M ws left dn:=
 ⟨hf,hT _ k.self,hT _ k.tc,k.ne,k.blk,k.cells,k.own,k.off,k.offC,fun b hb=>hT _ (k.mem b hb),k.mb,k.many,k.wb⟩
theorem DevR.wid (k:DevR w T h C wv hu tu cr M ws left dn): ∀m∈M,(cellV m).length=258:=fun m hm=>cellV_len (k.mb m hm)
theorem DevR.cell8 (k:DevR w T h C wv hu tu cr M ws left dn):
 w.cell? ⟨h,0,none⟩=some (.int .i64 (hu:Int))∧w.cell? ⟨h,1,none⟩=some (.int .i64 (tu:Int))∧w.cell? ⟨h,2,none⟩=some (.int .i64 (cr:Int))∧w.cell? ⟨h,3,none⟩=some (.pointer (some ⟨h,0,none⟩))∧
 w.cell? ⟨h,4,none⟩=some (.slice (some ⟨C,0,none⟩) M.length M.length)∧w.cell? ⟨h,5,none⟩=some wv∧w.cell? ⟨h,6,none⟩=some (.int .i64 left)∧w.cell? ⟨h,7,none⟩=some (.bool dn):=
 ⟨k.blk.cell 0,k.blk.cell 1,k.blk.cell 2,k.blk.cell 3,k.blk.cell 4,k.blk.cell 5,k.blk.cell 6,k.blk.cell 7⟩
theorem DevR.at_ (k:DevR w T h C wv hu tu cr M ws left dn) {n:Nat} (hn:n < M.length) {i:Nat} (hi:i < 258):w.cell? ⟨C,n * 258+i,none⟩=(cellV M[n])[i]? :=by
 rw [k.cells.cell,List.getElem?_toArray];exact flat_at cellV 258 k.wid hn hi
theorem DevR.range (k:DevR w T h C wv hu tu cr M ws left dn) {n:Nat} (hn:n < M.length):w.rangeAt C (n * 258) (cellV M[n]):=fun j v hv=>by
 have hj:j < 258:=by rw [← k.wid _ (List.getElem_mem hn)];exact(List.getElem?_eq_some_iff.1 hv).1
 rw [k.at_ hn hj,hv]
theorem DevR.block (k:DevR w T h C wv hu tu cr M ws left dn) {n:Nat} (hn:n < M.length):w.rangeAt C (n * 258) (u8s M[n].bs):=fun j v hv=>by
 refine k.range hn j v ?_
 unfold cellV
 rw [List.getElem?_append_left (List.getElem?_eq_some_iff.1 hv).1,hv]
end
structure DevL (D:DM) (hu tu cr:Nat) (M:List MCell) (ws:List (Nat × List Int)) (left:Int) (dn:Bool):Prop where
 hu:hu=hurts D.cells
 tu:tu=D.turns
 cr:cr=D.crashes
 len:M.length=D.cells.length
 mm: ∀(n:Nat) m,M[n]? =some m→D.cells[n]? =some (m.bs,m.hurt)∧m.last=lastOf D.waits n
 ws:ws=D.waits
 dn:dn=D.down
 armed:D.down=false→left=D.armed
 lo:0≤left∧left≤9223372036854775807
 some_:0 < M.length
def DevAt (w:World) (T:Nat→Prop) (h:Nat) (D:DM):Prop:= ∃C wv hu tu cr M ws left dn,DevR w T h C wv hu tu cr M ws left dn∧DevL D hu tu cr M ws left dn
structure DM.Few (D:DM) (k:Nat):Prop where
 tu:D.turns≤k
 cr:D.crashes≤k
 ws:D.waits.length≤k
section
variable {w w' : World} {T T' : Nat → Prop} {h : Nat} {D : DM}
theorem DevAt.keep (k:DevAt w T h D) (hs:w.heap.size≤w'.heap.size) (hk: ∀b,T b→w'.heap[b]? =w.heap[b]?):DevAt w' T h D:=by
 obtain⟨C,wv,hu,tu,cr,M,ws,left,dn,k,l⟩:=k;exact⟨C,wv,hu,tu,cr,M,ws,left,dn,k.keep hs hk,l⟩
theorem DevAt.below (k:DevAt w T h D) (hb:Below w.heap.size w w'):DevAt w' T h D:=by
 obtain⟨C,wv,hu,tu,cr,M,ws,left,dn,k,l⟩:=k;exact⟨C,wv,hu,tu,cr,M,ws,left,dn,k.below hb,l⟩
theorem DevAt.mono (k:DevAt w T h D) (hT: ∀j,T j→T' j) (hf: ∀j,T' j→j < w.heap.size):DevAt w T' h D:=by
 obtain⟨C,wv,hu,tu,cr,M,ws,left,dn,k,l⟩:=k;exact⟨C,wv,hu,tu,cr,M,ws,left,dn,k.mono hT hf,l⟩
theorem DevAt.foot (k:DevAt w T h D): ∀j,T j→j < w.heap.size:=by
 obtain⟨C,wv,hu,tu,cr,M,ws,left,dn,k,l⟩:=k;exact k.foot
theorem DevAt.ok (k:DevAt w T h D):D.Ok:=by
 obtain⟨C,wv,hu,tu,cr,M,ws,left,dn,k,l⟩:=k
 refine⟨by rw [← l.len];exact l.some_,by rw [← l.len];exact k.many,fun n c hc=> ?_,fun p hp=> ?_,fun p hp=> ?_⟩
 · have hn:n < M.length:=by rw [l.len];exact(List.getElem?_eq_some_iff.1 hc).1
   have:=(l.mm n _ (List.getElem?_eq_getElem hn)).1
   rw [hc]at this
   injection this with this
   rw [this];exact k.mb _ (List.getElem_mem hn)
 · rw [← l.len];exact(k.wb p (l.ws ▸ hp)).1
 · exact(k.wb p (l.ws ▸ hp)).2
end
structure Dev (w:World) (T:Nat→Prop) (h:Nat) (D:DM) (w':World):Prop where
 at_:DevAt w' (grow T w w') h D
 fr:Chg T w w'
theorem Dev.below {w w':World} {T:Nat→Prop} {h:Nat} {D:DM} (k:DevAt w T h D) (hb:Below w.heap.size w w'):Dev w T h D w':=
 ⟨(k.below hb).mono (fun _ hj=> .inl hj) (grow_lt k.foot hb.size),Chg.of_below hb⟩
theorem Dev.trans {w w1 w2:World} {T:Nat→Prop} {h:Nat} {D1 D2:DM} (a:Dev w T h D1 w1) (b:Dev w1 (grow T w w1) h D2 w2) (hf: ∀k,T k→k < w.heap.size):Dev w T h D2 w2:=
 ⟨b.at_.mono (grow_trans a.fr.size b.fr.size) (grow_lt hf (Nat.le_trans a.fr.size b.fr.size)),a.fr.trans b.fr⟩
theorem Dev.on {w w1 w2:World} {T:Nat→Prop} {h:Nat} {D:DM} (a:Dev w T h D w1) (hb:Below w1.heap.size w1 w2) (hf: ∀k,T k→k < w.heap.size):Dev w T h D w2:=a.trans (Dev.below a.at_ hb) hf
theorem Dev.after {w w1 w2:World} {T:Nat→Prop} {h:Nat} {D:DM} (hb:Below w.heap.size w w1) (b:Dev w1 T h D w2) (hf: ∀k,T k→k < w.heap.size):Dev w T h D w2:=by
 have h1:=hb.size
 have h2:=b.fr.size
 refine⟨b.at_.mono ?_ (grow_lt hf (by omega)),⟨b.fr.os.trans hb.os,b.fr.tape.trans hb.tape,b.fr.output.trans hb.output,by omega,fun j hj hT=>(b.fr.block j (by omega) hT).trans (hb.block j hj)⟩⟩
 rintro j (hj | hj)
 · exact .inl hj
 · exact .inr ⟨by omega,hj.2⟩
open Go.RowKit
def NoDev (w:World) (v:Value):Prop:=v= .pointer none∨ ∃h,v= .pointer (some ⟨h,0,none⟩)∧w.cell? ⟨h,3,none⟩=some (.pointer none)
theorem infoDisk : ∃j,Tryz.prog.info? 107=some j:=Option.isSome_iff_exists.1 (by kernel_rfl)
theorem eqPtr (a:Addr) (w:World):(binOp .eql 39 (.pointer (some a)) (.pointer (some a))).run Tryz.prog w= .ok (.bool true) w:=by
 obtain⟨j,hj⟩:=infoDisk
 exact run_eql_ptr_same w a Tryz.underlying39 hj
theorem eqNonePtr (a:Addr) (w:World):(binOp .eql 39 (.pointer none) (.pointer (some a))).run Tryz.prog w= .ok (.bool false) w:=by
 have h: ∀d:Nat,(Op.equalIn (d+1) 39 (.pointer none) (.pointer (some a))).run Tryz.prog w= .ok false w:=fun d=>by
  simp [Op.equalIn,run_underlying Tryz.underlying39]
 simp only [binOp]
 simp [Op.equal,Op.maxDepth,h 9999]
theorem told_any (w:World) (h:Nat) (c3:w.cell? ⟨h,3,none⟩=some (.pointer (some ⟨h,0,none⟩))):
 Calls Tryz.prog 62 #[.pointer (some ⟨h,0,none⟩)] w fun e w'=>e= .returned (.bool true)∧w=w':=by
 have hq:=eqPtr
 go_enter Tryz.func62,Tryz.ntmps62
 go_wp2
 go_ret
 exact⟨rfl,rfl⟩
theorem told_no (w:World) (v:Value) (hv:NoDev w v):
 Calls Tryz.prog 62 #[v] w fun e w'=>e= .returned (.bool false)∧w=w':=by
 rcases hv with rfl | ⟨h,rfl,c3⟩
 · go_enter Tryz.func62,Tryz.ntmps62
   go_wp2
   go_ret
   exact⟨rfl,rfl⟩
 · have hq:=eqNonePtr
   go_enter Tryz.func62,Tryz.ntmps62
   go_wp2
   go_ret
   exact⟨rfl,rfl⟩
section
variable {w : World} {T : Nat → Prop} {h C : Nat} {wv : Value} {hu tu cr : Nat} {M : List MCell} {ws : List (Nat × List Int)} {left : Int} {dn : Bool}
def hasB (M:List MCell) (n:Int):Bool:=decide (0≤n∧n < M.length)
theorem has_any (k:DevR w T h C wv hu tu cr M ws left dn) (n:Int):
 Calls Tryz.prog 65 #[.pointer (some ⟨h,0,none⟩),.int .i64 n] w fun e w'=>e= .returned (.bool (hasB M n))∧w=w':=by
 obtain⟨c0,c1,c2,c3,c4,c5,c6,c7⟩:=k.cell8
 have Hm:=qh k.many
 clear k c0 c1 c2 c5 c6 c7
 have hE:=qh (show hasB M n=decide (0≤n∧n < (M.length:Int))from rfl)
 by_cases h0:0≤n
 · by_cases h1:n < (M.length:Int)
   · go_enter Tryz.func65,Tryz.ntmps65
     go_wp2_with fail
     refine(told_any _ h c3).mono ?_
     rintro e w' ⟨rfl,rfl⟩
     go_wp2_with fail
     go_ret
     exact⟨ret_bool (by rw [hE.out];exact(decide_eq_true ⟨by omega,by omega⟩).symm),rfl⟩
   · go_enter Tryz.func65,Tryz.ntmps65
     go_wp2_with fail
     refine(told_any _ h c3).mono ?_
     rintro e w' ⟨rfl,rfl⟩
     go_wp2_with fail
     go_ret
     exact⟨ret_bool (by rw [hE.out];simp only [decide_eq_decide];omega),rfl⟩
 · go_enter Tryz.func65,Tryz.ntmps65
   go_wp2_with fail
   refine(told_any _ h c3).mono ?_
   rintro e w' ⟨rfl,rfl⟩
   go_wp2_with fail
   go_ret
   exact⟨ret_bool (by rw [hE.out];exact(decide_eq_false (by omega)).symm),rfl⟩
def upE (dn:Bool):DErr:=if dn then .dn else .ok
theorem up_any (σ:SenD) (hG:GlD σ w) (k:DevR w T h C wv hu tu cr M ws left dn):
 Calls Tryz.prog 74 #[.pointer (some ⟨h,0,none⟩)] w fun e w'=>e= .returned ((upE dn).val σ)∧w=w':=by
 obtain⟨c0,c1,c2,c3,c4,c5,c6,c7⟩:=k.cell8
 have g1:=hG.dn
 unfold errK at g1
 clear k c0 c1 c2 c4 c5 c6
 cases dn
 all_goals
  go_enter Tryz.func74,Tryz.ntmps74
  go_wp2_with fail
  refine(told_any _ h c3).mono ?_
  rintro e w' ⟨rfl,rfl⟩
  go_wp2_with fail
  go_ret
  exact⟨rfl,rfl⟩
theorem up_no (σ:SenD) (hG:GlD σ w) (v:Value) (hv:NoDev w v):
 Calls Tryz.prog 74 #[v] w fun e w'=>e= .returned (DErr.ni.val σ)∧w=w':=by
 have HT:=qh (told_no w v hv)
 have g1:=hG.ni
 unfold errK at g1
 go_enter Tryz.func74,Tryz.ntmps74
 go_wp2_with fail
 refine HT.out.mono ?_
 rintro e w' ⟨rfl,rfl⟩
 go_wp2_with fail
 go_ret
 exact⟨rfl,rfl⟩
def reachE (dn:Bool) (M:List MCell) (n:Int):DErr:=if dn then .dn else if hasB M n then .ok else .bk
theorem reaches_any (σ:SenD) (hG:GlD σ w) (k:DevR w T h C wv hu tu cr M ws left dn) (n:Int):
 Calls Tryz.prog 126 #[.pointer (some ⟨h,0,none⟩),.int .i64 n] w fun e w'=>e= .returned ((reachE dn M n).val σ)∧w=w':=by
 have HU:=qh (up_any σ hG k)
 have HH:=qh (has_any k n)
 have g1:=hG.bk
 unfold errK at g1
 clear k
 cases dn with
 | true=>
   go_enter Tryz.func126,Tryz.ntmps126
   go_wp2_with fail
   refine HU.out.mono ?_
   rintro e w' ⟨rfl,rfl⟩
   unfold upE DErr.val errK
   go_wp2_with fail
   go_ret
   exact⟨rfl,rfl⟩
 | false=>
   unfold reachE
   cases hq:hasB M n
   all_goals
    rw [hq]at HH
    go_enter Tryz.func126,Tryz.ntmps126
    go_wp2_with fail
    refine HU.out.mono ?_
    rintro e w' ⟨rfl,rfl⟩
    unfold upE DErr.val errK
    go_wp2_with fail
    refine HH.out.mono ?_
    rintro e w' ⟨rfl,rfl⟩
    go_wp2_with fail
    go_ret
    exact⟨rfl,rfl⟩
theorem reaches_no (σ:SenD) (hG:GlD σ w) (v:Value) (hv:NoDev w v) (n:Int):
 Calls Tryz.prog 126 #[v,.int .i64 n] w fun e w'=>e= .returned (DErr.ni.val σ)∧w=w':=by
 have HU:=qh (up_no σ hG v hv)
 go_enter Tryz.func126,Tryz.ntmps126
 go_wp2_with fail
 refine HU.out.mono ?_
 rintro e w' ⟨rfl,rfl⟩
 unfold DErr.val errK
 go_wp2_with fail
 go_ret
 exact⟨rfl,rfl⟩
def takesE (dn:Bool) (M:List MCell) (n:Int) (l:Nat):DErr:=if dn then .dn else if hasB M n then(if 256 < l then .lo else .ok)else .bk
theorem takes_any (σ:SenD) (hG:GlD σ w) (k:DevR w T h C wv hu tu cr M ws left dn) (n:Int) (A:Option Addr) (l c:Nat) (hl:l≤140737488351232):
 Calls Tryz.prog 98 #[.pointer (some ⟨h,0,none⟩),.int .i64 n,.slice A l c] w fun e w'=>e= .returned ((takesE dn M n l).val σ)∧w=w':=by
 have HU:=qh (reaches_any σ hG k n)
 have g1:=hG.lo
 unfold errK at g1
 clear k
 unfold takesE
 unfold reachE at HU
 cases dn with
 | true=>
   go_enter Tryz.func98,Tryz.ntmps98
   go_wp2_with fail
   refine HU.out.mono ?_
   rintro e w' ⟨rfl,rfl⟩
   simp only [if_true]
   unfold DErr.val errK
   go_wp2_with fail
   go_ret
   exact⟨rfl,rfl⟩
 | false=>
   cases hq:hasB M n with
   | false=>
     rw [hq]at HU
     go_enter Tryz.func98,Tryz.ntmps98
     go_wp2_with fail
     refine HU.out.mono ?_
     rintro e w' ⟨rfl,rfl⟩
     simp only [Bool.false_eq_true,if_false]
     unfold DErr.val errK
     go_wp2_with fail
     go_ret
     exact⟨rfl,rfl⟩
   | true=>
     rw [hq]at HU
     by_cases h1:256 < l
     · rw [if_neg (by decide),if_pos rfl,if_pos h1]
       have h2:(256:Int) < (l:Int):=by omega
       go_enter Tryz.func98,Tryz.ntmps98
       go_wp2_with fail
       refine HU.out.mono ?_
       rintro e w' ⟨rfl,rfl⟩
       simp only [Bool.false_eq_true,if_false,if_true]
       unfold DErr.val errK
       go_wp2_with fail
       go_ret
       exact⟨rfl,rfl⟩
     · rw [if_neg (by decide),if_pos rfl,if_neg h1]
       have h2: ¬(256:Int) < (l:Int):=by omega
       go_enter Tryz.func98,Tryz.ntmps98
       go_wp2_with fail
       refine HU.out.mono ?_
       rintro e w' ⟨rfl,rfl⟩
       simp only [Bool.false_eq_true,if_false,if_true]
       unfold DErr.val
       go_wp2_with fail
       go_ret
       exact⟨rfl,rfl⟩
theorem takes_no (σ:SenD) (hG:GlD σ w) (v:Value) (hv:NoDev w v) (n:Int) (b:Value):
 Calls Tryz.prog 98 #[v,.int .i64 n,b] w fun e w'=>e= .returned (DErr.ni.val σ)∧w=w':=by
 have HU:=qh (reaches_no σ hG v hv n)
 go_enter Tryz.func98,Tryz.ntmps98
 go_wp2_with fail
 refine HU.out.mono ?_
 rintro e w' ⟨rfl,rfl⟩
 unfold DErr.val errK
 go_wp2_with fail
 go_ret
 exact⟨rfl,rfl⟩
theorem DevR.own8 (k:DevR w T h C wv hu tu cr M ws left dn) {w':World} {hu' tu' cr':Nat} {left':Int} {dn':Bool} (hs:w'.heap.size=w.heap.size) (ho: ∀b,b≠h→w'.heap[b]? =w.heap[b]?)
 (hb:BlockIs w' h 107 #[.int .i64 (hu':Int),.int .i64 (tu':Int),.int .i64 (cr':Int),.pointer (some ⟨h,0,none⟩),.slice (some ⟨C,0,none⟩) M.length M.length,wv,.int .i64 left',.bool dn']):DevR w' T h C wv hu' tu' cr' M ws left' dn':=
 ⟨fun j hj=>by rw [hs];exact k.foot j hj,k.self,k.tc,k.ne,hb,k.cells.keep (ho _ k.ne),own_keep k.own (fun b hb=>ho b (fun e=>k.off (e ▸ hb))),k.off,k.offC,k.mem,k.mb,k.many,k.wb⟩
theorem set_size (w:World) (a:Addr) (v:Value):(w.setCell a v).heap.size=w.heap.size:=by simp [World.setCell]
theorem set_other (w:World) (b i:Nat) (v:Value) (j:Nat) (hj:j≠b):(w.setCell ⟨b,i,none⟩ v).heap[j]? =w.heap[j]? :=Below.heap_setCell w ⟨b,i,none⟩ v j hj
theorem DevR.falls (k:DevR w T h C wv hu tu cr M ws left dn):DevR ((w.setCell ⟨h,7,none⟩ (.bool true)).setCell ⟨h,2,none⟩ (.int .i64 ((cr+1:Nat):Int))) T h C wv hu tu (cr+1) M ws left true:=
 k.own8 (by rw [set_size,set_size]) (fun b hb=>by rw [set_other _ _ _ _ _ hb,set_other _ _ _ _ _ hb]) ((k.blk.set1 7 (.bool true)).set1 2 (.int .i64 ((cr+1:Nat):Int)))
theorem fall_any (k:DevR w T h C wv hu tu cr M ws left dn) (hc:cr≤1000000000):
 Calls Tryz.prog 76 #[.pointer (some ⟨h,0,none⟩)] w fun e w'=>e= .returned (.tuple #[])∧w'=(w.setCell ⟨h,7,none⟩ (.bool true)).setCell ⟨h,2,none⟩ (.int .i64 ((cr+1:Nat):Int)):=by
 obtain⟨c0,c1,c2,c3,c4,c5,c6,c7⟩:=k.cell8
 have f2:=k.blk.free 2
 have f7:=k.blk.free 7
 clear k c0 c1 c3 c4 c5 c6
 go_enter Tryz.func76,Tryz.ntmps76
 go_wp2_with fail
 go_end0
 exact⟨rfl,rfl⟩
end
open Go.RowKit
section
variable {w : World} {T : Nat → Prop} {h C : Nat} {wv : Value} {hu tu cr : Nat} {M : List MCell} {ws : List (Nat × List Int)} {left : Int} {dn : Bool}
def MCell.store (m:MCell) (b:List Int) (s:Nat):MCell:=⟨b.take (32 * s)++m.bs.drop (32 * s),if s=8 then false else m.hurt,m.last⟩
theorem flat_set {α:Type} (f:α→List Value) (W:Nat) {l:List α} (h: ∀x∈l,(f x).length=W) {n:Nat} (hn:n < l.length) {o:Nat} (ho:o < W) {v:Value} {y:α} (hy:f y=(f l[n]).set o v):(l.flatMap f).set (n * W+o) v=(l.set n y).flatMap f:=by
 have hl:=flat_lenV f W l h
 have hlt:n * W+o < (l.flatMap f).length:=by
  rw [hl]
  have:(n+1) * W≤l.length * W:=Nat.mul_le_mul_right W hn
  rw [Nat.add_mul,Nat.one_mul]at this;omega
 rw [← splice_one _ _ _ hlt]
 refine flat_splice f W h hn (by rw [List.length_singleton];exact ho) ?_
 rw [hy,splice_one _ _ _ (by rw [h _ (List.getElem_mem hn)];exact ho)]
theorem getD_at {M:List MCell} {n:Nat} (hn:n < M.length):M.getD n default=M[n]:=by rw [List.getD_eq_getElem?_getD,List.getElem?_eq_getElem hn];rfl
theorem DevR.row (k:DevR w T h C wv hu tu cr M ws left dn) {w':World} {M':List MCell} (hs:w.heap.size≤w'.heap.size) (ho: ∀b,T b→b≠C→w'.heap[b]? =w.heap[b]?) (hl:M'.length=M.length) (hm: ∀m∈M',BlkOk m.bs)
 (hb:BlockIs w' C 121 (M'.flatMap cellV).toArray):DevR w' T h C wv hu tu cr M' ws left dn:=
 ⟨fun j hj=>Nat.lt_of_lt_of_le (k.foot j hj) hs,k.self,k.tc,k.ne,by rw [hl];exact k.blk.keep (ho _ k.self k.ne.symm),hb,own_keep k.own (fun b hb=>ho b (k.mem b hb) (fun e=>k.offC (e ▸ hb))),k.off,k.offC,k.mem,hm,by rw [hl];exact k.many,by rw [hl];exact k.wb⟩
theorem mem_set_ok {M:List MCell} {n:Nat} {y:MCell} (hM: ∀m∈M,BlkOk m.bs) (hy:BlkOk y.bs): ∀m∈M.set n y,BlkOk m.bs:=fun m hm=>by
 rcases List.mem_or_eq_of_mem_set hm with h | rfl
 · exact hM m h
 · exact hy
theorem DevR.setHurt (k:DevR w T h C wv hu tu cr M ws left dn) {n:Nat} (hn:n < M.length) (x:Bool):DevR (w.setCell ⟨C,n * 258+256,none⟩ (.bool x)) T h C wv hu tu cr (M.set n { M.getD n default with hurt:=x }) ws left dn:=by
 rw [getD_at hn]
 have hmb:=k.mb _ (List.getElem_mem hn)
 refine k.row (Nat.le_of_eq (set_size _ _ _).symm) (fun b _ hb=>set_other _ _ _ _ _ hb) (List.length_set ..) (mem_set_ok k.mb hmb) ?_
 have:=k.cells.set1 (n * 258+256) (.bool x)
 rw [List.setIfInBounds_toArray,flat_set cellV 258 k.wid hn (by decide) (y:= { M[n]with hurt:=x }) (cellV_set_hurt hmb x).symm]at this
 exact this
theorem DevR.setLast (k:DevR w T h C wv hu tu cr M ws left dn) {n:Nat} (hn:n < M.length) (x:Nat):DevR (w.setCell ⟨C,n * 258+257,none⟩ (.int .i64 (x:Int))) T h C wv hu tu cr (M.set n { M.getD n default with last:=x }) ws left dn:=by
 rw [getD_at hn]
 have hmb:=k.mb _ (List.getElem_mem hn)
 refine k.row (Nat.le_of_eq (set_size _ _ _).symm) (fun b _ hb=>set_other _ _ _ _ _ hb) (List.length_set ..) (mem_set_ok k.mb hmb) ?_
 have:=k.cells.set1 (n * 258+257) (.int .i64 (x:Int))
 rw [List.setIfInBounds_toArray,flat_set cellV 258 k.wid hn (by decide) (y:= { M[n]with last:=x }) (cellV_set_last hmb x).symm]at this
 exact this
theorem DevR.splice (k:DevR w T h C wv hu tu cr M ws left dn) {w':World} {n:Nat} (hn:n < M.length) {ys:List Int} (hy:ys.length≤256) (hyb: ∀z∈ys,0≤z∧z < 256) (hs:w.heap.size≤w'.heap.size) (ho: ∀b,T b→b≠C→w'.heap[b]? =w.heap[b]?)
 (hb:BlockIs w' C 121 (Go.splice (M.flatMap cellV) (n * 258) (u8s ys)).toArray):DevR w' T h C wv hu tu cr (M.set n { M.getD n default with bs:=ys++(M.getD n default).bs.drop ys.length }) ws left dn:=by
 rw [getD_at hn]
 have hmb:=k.mb _ (List.getElem_mem hn)
 have hl:(ys++M[n].bs.drop ys.length).length=256:=by rw [List.length_append,List.length_drop,hmb.1];omega
 refine k.row hs ho (List.length_set ..) (mem_set_ok k.mb ⟨hl,fun z hz=> ?_⟩) ?_
 · rcases List.mem_append.1 hz with hz | hz
   · exact hyb z hz
   · exact hmb.2 z (List.mem_of_mem_drop hz)
 have:=flat_splice cellV 258 k.wid hn (o:=0) (vs:=u8s ys) (by rw [u8s_len];omega) (y:= { M[n]with bs:=ys++M[n].bs.drop ys.length }) (cellV_splice hmb hy).symm
 rw [Nat.add_zero]at this
 rw [this]at hb
 exact hb
theorem step_copy_only {P:Program} {ops:Array Oper} {o:Oper} {a:Act} {w:World} {K:Act→World→Prop} {Q:Exit→Act→World→Prop} {E:Prop} (hgd:o.guard=none) (d s:Operand) (dT sT:TypeId)
 (ho:o.op= .call { callee:= .builtin .copy,args:= #[d,s],argTypes:= #[dT,sT] }) (elem:TypeId) (hu:P.underlying dT=some (.slice elem)) (hsz:(P.info? elem).map (·.size)=some 1)
 (dp sp:Option Addr) (dLen dCap sLen sCap:Nat) (hd:a.eval d= .slice dp dLen dCap) (hs:a.eval s= .slice sp sLen sCap)
 (g off:Nat) (cur:List Value) (t:TypeId) (hg:BlockIs w g t cur.toArray) (cs:List Value) (hn:cs.length=Nat.min sLen dLen)
 (hpos:0 < cs.length→dp=some ⟨g,off,none⟩∧ ∃ad,sp=some ad∧ ∀j v,cs[j]? =some v→w.cell? (ad.add j)=some v)
 (hfit:off+cs.length≤cur.length) (h1: ∀v∈cs,v.oneCell'=true)
 (h: ∀w',BlockIs w' g t (Go.splice cur off cs).toArray→w.grownBy w' (some g)→w'.heap.size=w.heap.size→K (a.put o.dst (goInt cs.length)) w'):
 if Region.wanted o (yielded ops a.tmps)=true then Oper.wp P o a w K Q else E:=by
 have hw:Region.wanted o (yielded ops a.tmps)=true:=by simp [Region.wanted,hgd]
 rw [if_pos hw]
 by_cases h0:cs.length=0
 · obtain rfl:cs= []:=List.eq_nil_of_length_eq_zero h0
   have hrun:=run_copy_none (P:=P) w dT sT o.type elem dp sp dLen dCap sLen sCap hu hsz (by simpa using hn.symm)
   unfold Oper.wp
   simp [execOp,ho,resolve,invoke,builtin,hd,hs,hrun,Result.andThen]
   exact h w (show _=_ by simpa [Go.splice,BlockIs] using hg) (World.grownBy.refl _ _) rfl
 · obtain⟨rfl,ad,rfl,hsrc⟩:=hpos (by omega)
   have hrun:=run_copy_row (P:=P) w dT sT o.type elem g off dLen dCap ad sLen sCap cur.toArray t cs hu hsz hg hn hsrc (by simpa using hfit) h1
   unfold Oper.wp
   simp [execOp,ho,resolve,invoke,builtin,hd,hs,hrun,Result.andThen]
   refine h _ ?_ ⟨rfl,rfl,rfl,by simp,fun k _ hk=>setRow_other w g k _ (fun e=>hk (by rw [e]))⟩ (by simp)
   show _=_
   simpa [Go.splice] using setRow_heap w g _ (cur.take off++(cs++cur.drop (off+cs.length))).toArray t (0,0) hg
def storedM (M:List MCell) (p:Nat × List Int) (s:Nat):List MCell:=M.set p.1 ((M.getD p.1 default).store p.2 s)
def storedHu (M:List MCell) (n s hu:Nat):Nat:=if s=8∧(M.getD n default).hurt then hu - 1 else hu
theorem set_self {M:List MCell} {n:Nat} (hn:n < M.length):M.set n (M.getD n default)=M:=by rw [getD_at hn];exact List.set_getElem_self hn
theorem store_done {w7 w4:World} {n:Nat} {x:Bool} {b:List Int} {s:Nat} (k:DevR w7 T h C wv hu tu cr (M.set n { M.getD n default with hurt:=x }) ws left dn) (hn:n < M.length) (hf: ∀j,T j→j < w.heap.size) (fr:Chg T w w7) (hb:BlkOk b) (hs:s≤8)
 (hb4:BlockIs w4 C 121 (Go.splice ((M.set n { M.getD n default with hurt:=x }).flatMap cellV) (n * 258) (u8s (b.take (32 * s)))).toArray) (hg0:w7.drew.grownBy w4 (some C)) (hx:x=if s=8 then false else(M.getD n default).hurt):
 DevR w4 (grow T w w4) h C wv hu tu cr (M.set n ((M.getD n default).store b s)) ws left dn∧Chg T w w4:=by
 have hg:w7.grownBy w4 (some C):=⟨hg0.os,hg0.tape,hg0.output,hg0.size,hg0.block⟩
 have hl:(b.take (32 * s)).length=32 * s:=by rw [List.length_take,hb.1];omega
 have h1:=k.splice (n:=n) (by rw [List.length_set];exact hn) (ys:=b.take (32 * s)) (by omega) (fun z hz=>hb.2 z (List.mem_of_mem_take hz)) hg.size (fun j hj hne=>hg.block j (k.foot j hj) (fun e=>hne (by injection e))) hb4
 have hn':n < (M.set n { M.getD n default with hurt:=x }).length:=by rw [List.length_set];exact hn
 rw [getD_at hn',List.getElem_set_self,List.set_set,hl]at h1
 have hfr:Chg T w w4:=fr.trans (Chg.of_grown hg (fun b e=> .inl (by injection e with e;exact e ▸ k.tc)))
 refine⟨?_,hfr⟩
 have h2:=h1.mono (T':=grow T w w4) (fun _ hj=> .inl hj) (grow_lt hf hfr.size)
 unfold MCell.store
 rw [← hx]
 exact h2
theorem copy_len (b:List Int) (hb:BlkOk b) {s:Nat} (hs:s≤8):(u8s (b.take (32 * s))).length=Nat.min 256 (32 * s):=by
 rw [u8s_len,List.length_take,hb.1]
 show min (32 * s) 256=min 256 (32 * s)
 omega
theorem copy_src {w7:World} {g n:Nat} {b:List Int} {s:Nat} (hB:BlockIs w7 g 165 (writeV (n,b)).toArray): ∀j v,(u8s (b.take (32 * s)))[j]? =some v→w7.cell? ((⟨g,1,none⟩:Addr).add j)=some v:=by
 intro j v hj
 rw [Addr.add_mid,hB.cell,List.getElem?_toArray]
 unfold writeV
 rw [show 1+j=j+1 by omega,List.getElem?_cons_succ]
 unfold u8s at hj ⊢
 rw [List.getElem?_map]at hj ⊢
 cases hq:(b.take (32 * s))[j]? with
 | none=>rw [hq]at hj;cases hj
 | some z=>
   rw [List.getElem?_take]at hq
   split at hq
   · next hlt=>rw [List.getElem?_take_of_lt hlt,hq]at hj;rw [hq];exact hj
   · cases hq
theorem copy_fit {M:List MCell} (hM: ∀m∈M,BlkOk m.bs) {n:Nat} (hn:n < M.length) {b:List Int} {s:Nat} (hs:s≤8):n * 258+(u8s (b.take (32 * s))).length≤(M.flatMap cellV).length:=by
 rw [flat_lenV cellV 258 M (fun m hm=>cellV_len (hM m hm)),u8s_len]
 have h1:(b.take (32 * s)).length≤256:=by rw [List.length_take];omega
 have:(n+1) * 258≤M.length * 258:=Nat.mul_le_mul_right 258 hn
 rw [Nat.add_mul]at this;omega
theorem slice_run (a:Addr) (w:World): ∀s:Nat,s≤8→(Instr.sliceAt 119 (.pointer (some a)) none (some (.int .i64 (IntKind.i64.wrap ((s:Int) * 32)))) none).run Tryz.prog w= .ok (.slice (some a) (32 * s) 256) w
 | 0,_=>by kernel_rfl
 | 1,_=>by kernel_rfl
 | 2,_=>by kernel_rfl
 | 3,_=>by kernel_rfl
 | 4,_=>by kernel_rfl
 | 5,_=>by kernel_rfl
 | 6,_=>by kernel_rfl
 | 7,_=>by kernel_rfl
 | 8,_=>by kernel_rfl
 | _+9,h=>by omega
theorem slice_run8 (a:Addr) (w:World):(Instr.sliceAt 119 (.pointer (some a)) none (some (.int .i64 (IntKind.i64.wrap 256))) none).run Tryz.prog w= .ok (.slice (some a) 256 256) w:=by kernel_rfl
theorem store_any (k:DevR w T h C wv hu tu cr M ws left dn) (p:Nat × List Int) (hp:p.1 < M.length) (hb:BlkOk p.2) (s:Nat) (hs:s≤8) (hu1:hu≤4096) (hu0:(M.getD p.1 default).hurt=true→0 < hu):
 Calls Tryz.prog 111 #[.pointer (some ⟨h,0,none⟩),.agg (writeV p).toArray,.int .i64 (s:Int)] w fun e w'=>e= .returned (.tuple #[])∧
  DevR w' (grow T w w') h C wv (storedHu M p.1 s hu) tu cr (storedM M p s) ws left dn∧Chg T w w':=by
 obtain⟨n,b⟩:=p
 have hbn:=below_new w (.cells (writeV (n,b)).toArray 165)
 have k1:=k.below hbn
 have c4:=k1.cell8.2.2.2.2.1
 have hM:=k.many
 have hB:=BlockIs.made w 165 (writeV (n,b)).toArray
 have b0:(w.alloc (.cells (writeV (n,b)).toArray 165)).cell? ⟨w.heap.size,0,none⟩=some (.int .i64 (n:Int)):=hB.cell 0
 have hsz:(w.alloc (.cells (writeV (n,b)).toArray 165)).heap.size=w.heap.size+1:=by simp
 have Hk:=qh (And.intro k1 (And.intro hB (And.intro hbn hsz)))
 have Hf:=qh k.foot
 have hp':n < M.length:=hp
 have Hb:=qh hb
 clear k k1 hB hbn hsz hp hb
 go_enter Tryz.func111,Tryz.ntmps111
 go_wp2_with fail
 go_quiet (fail)
 generalize (w.alloc (.cells (writeV (n,b)).toArray 165))=w0 at *
 clear c4 b0
 have H1:Hid (DevR (w0.drewN nq) T h C wv hu tu cr M ws left dn∧BlockIs (w0.drewN nq) w.heap.size 165 (writeV (n,b)).toArray∧Below w.heap.size w (w0.drewN nq)∧(w0.drewN nq).heap.size=w.heap.size+1):=⟨Hk.out.1.drewN nq,Hk.out.2.1,drewN_below Hk.out.2.2.1 nq,Hk.out.2.2.2⟩
 clear Hk
 generalize w0.drewN nq=w1 at *
 have cH:w1.cell? ⟨C,n * 258+256,none⟩=some (.bool (M.getD n default).hurt):=by
  rw [H1.out.1.at_ hp' (by decide),getD_at hp'];exact cellV_hurt (H1.out.1.mb _ (List.getElem_mem hp'))
 have fH:=H1.out.1.cells.free (n * 258+256)
 have c0:=H1.out.1.cell8.1
 have f0:=H1.out.1.blk.free 0
 have hfr1:Chg T w w1:=Chg.of_below H1.out.2.2.1
 by_cases h8:s=8
 · subst h8
   have hsl:=fun w'=>slice_run8 ⟨C,n * 258,none⟩ w'
   cases hh:(M.getD n default).hurt with
   | true=>
     have hpos:=hu0 hh
     rw [hh]at cH
     have hw:wrap64 ((hu:Int) - 1)=(hu:Int) - 1:=by unfold wrap64;omega
     have H7:Hid (DevR ((w1.setCell ⟨C,n * 258+256,none⟩ (.bool false)).setCell ⟨h,0,none⟩ (.int .i64 ((hu:Int) - 1))) T h C wv (hu - 1) tu cr (M.set n { M.getD n default with hurt:=false }) ws left dn∧
      BlockIs ((w1.setCell ⟨C,n * 258+256,none⟩ (.bool false)).setCell ⟨h,0,none⟩ (.int .i64 ((hu:Int) - 1))) w.heap.size 165 (writeV (n,b)).toArray∧Chg T w ((w1.setCell ⟨C,n * 258+256,none⟩ (.bool false)).setCell ⟨h,0,none⟩ (.int .i64 ((hu:Int) - 1)))):=by
      rw [show (hu:Int) - 1=((hu - 1:Nat):Int) by omega]
      have h1:=H1.out.1.setHurt hp' false
      have h2:=h1.blk.set1 0 (.int .i64 ((hu - 1:Nat):Int))
      have hC:w.heap.size≠C:=fun e=>by have:=Hf.out C H1.out.1.tc;omega
      have hH:w.heap.size≠h:=fun e=>by have:=Hf.out h H1.out.1.self;omega
      exact⟨h1.own8 (set_size _ _ _) (fun j hj=>set_other _ _ _ _ _ hj) h2,(H1.out.2.1.keep ((set_other _ _ _ _ _ hH).trans (set_other _ _ _ _ _ hC))),(hfr1.set (.inl H1.out.1.tc) _).set (.inl H1.out.1.self) _⟩
     clear hpos
     have G1:=qh (copy_len b Hb.out hs)
     have G2:=qh (copy_fit H7.out.1.mb (show n < (M.set n { M.getD n default with hurt:=false }).length by rw [List.length_set];exact hp') (b:=b) hs)
     have G3:=qh (copy_src (s:=8) H7.out.2.1)
     have G4:=qh (u8s_one (b.take (32 * 8)))
     have G5:=qh H7.out.1.cells
     go_wp2_with fail
     clear cH fH c0 f0 hw
     generalize ((w1.setCell ⟨C,n * 258+256,none⟩ (.bool false)).setCell ⟨h,0,none⟩ (.int .i64 ((hu:Int) - 1)))=w7 at *
     go_region_law (refine step_copy_only rfl (.tmp 38) (.tmp 40) 28 28 rfl 5 Tryz.underlying28 (by kernel_rfl) (some ⟨C,n * 258,none⟩) (some ⟨w.heap.size,1,none⟩) (32 * 8) 256 256 256 (by simp [Act.eval,Act.put]) (by simp [Act.eval,Act.put]) C (n * 258) ((M.set n { M.getD n default with hurt:=false }).flatMap cellV) 121 G5.out (u8s (b.take (32 * 8))) G1.out (fun _=>⟨rfl,⟨w.heap.size,1,none⟩,rfl,G3.out⟩) G2.out G4.out ?_;intro w4 hb4 hg4 hs4)
     have hd:=store_done (w:=w) (s:=8) H7.out.1 hp' Hf.out (H7.out.2.2) Hb.out hs hb4 hg4 rfl
     clear hb4 hg4 hs4 G1 G2 G3 G4 G5
     have HD:=qh hd
     clear hd
     go_wp2_with fail
     go_end0
     exact⟨rfl,by unfold storedHu;rw [if_pos ⟨rfl,hh⟩];exact HD.out⟩
   | false=>
     rw [hh]at cH
     have H7:Hid (DevR w1 T h C wv hu tu cr (M.set n { M.getD n default with hurt:=false }) ws left dn∧BlockIs w1 w.heap.size 165 (writeV (n,b)).toArray∧Chg T w w1):=
      ⟨by rw [show ({ M.getD n default with hurt:=false } :MCell)=M.getD n default by rw [← hh],set_self hp'];exact H1.out.1,H1.out.2.1,hfr1⟩
     have G1:=qh (copy_len b Hb.out hs)
     have G2:=qh (copy_fit H7.out.1.mb (show n < (M.set n { M.getD n default with hurt:=false }).length by rw [List.length_set];exact hp') (b:=b) hs)
     have G3:=qh (copy_src (s:=8) H7.out.2.1)
     have G4:=qh (u8s_one (b.take (32 * 8)))
     have G5:=qh H7.out.1.cells
     go_wp2_with fail
     clear cH fH c0 f0
     go_region_law (refine step_copy_only rfl (.tmp 38) (.tmp 40) 28 28 rfl 5 Tryz.underlying28 (by kernel_rfl) (some ⟨C,n * 258,none⟩) (some ⟨w.heap.size,1,none⟩) (32 * 8) 256 256 256 (by simp [Act.eval,Act.put]) (by simp [Act.eval,Act.put]) C (n * 258) ((M.set n { M.getD n default with hurt:=false }).flatMap cellV) 121 G5.out (u8s (b.take (32 * 8))) G1.out (fun _=>⟨rfl,⟨w.heap.size,1,none⟩,rfl,G3.out⟩) G2.out G4.out ?_;intro w4 hb4 hg4 hs4)
     have hd:=store_done (w:=w) (s:=8) H7.out.1 hp' Hf.out (H7.out.2.2) Hb.out hs hb4 hg4 rfl
     clear hb4 hg4 hs4 G1 G2 G3 G4 G5
     have HD:=qh hd
     clear hd
     go_wp2_with fail
     go_end0
     exact⟨rfl,by unfold storedHu;rw [if_neg (fun e=>by rw [hh]at e;exact Bool.noConfusion e.2)];exact HD.out⟩
 · have h8': ¬(s:Int)=8:=by omega
   have hsl:=fun w'=>slice_run ⟨C,n * 258,none⟩ w' s hs
   have H7:Hid (DevR w1 T h C wv hu tu cr (M.set n { M.getD n default with hurt:=(M.getD n default).hurt }) ws left dn∧BlockIs w1 w.heap.size 165 (writeV (n,b)).toArray∧Chg T w w1):=
    ⟨by rw [show ({ M.getD n default with hurt:=(M.getD n default).hurt } :MCell)=M.getD n default from rfl,set_self hp'];exact H1.out.1,H1.out.2.1,hfr1⟩
   clear cH fH c0 f0
   have G1:=qh (copy_len b Hb.out hs)
   have G2:=qh (copy_fit H7.out.1.mb (show n < (M.set n { M.getD n default with hurt:=(M.getD n default).hurt }).length by rw [List.length_set];exact hp') (b:=b) hs)
   have G3:=qh (copy_src (s:=s) H7.out.2.1)
   have G4:=qh (u8s_one (b.take (32 * s)))
   have G5:=qh H7.out.1.cells
   go_wp2_with fail
   go_region_law (refine step_copy_only rfl (.tmp 38) (.tmp 40) 28 28 rfl 5 Tryz.underlying28 (by kernel_rfl) (some ⟨C,n * 258,none⟩) (some ⟨w.heap.size,1,none⟩) (32 * s) 256 256 256 (by simp [Act.eval,Act.put]) (by simp [Act.eval,Act.put]) C (n * 258) ((M.set n { M.getD n default with hurt:=(M.getD n default).hurt }).flatMap cellV) 121 G5.out (u8s (b.take (32 * s))) G1.out (fun _=>⟨rfl,⟨w.heap.size,1,none⟩,rfl,G3.out⟩) G2.out G4.out ?_;intro w4 hb4 hg4 hs4)
   have hd:=store_done (w:=w) (s:=s) H7.out.1 hp' Hf.out (H7.out.2.2) Hb.out hs hb4 hg4 (if_neg h8).symm
   clear hb4 hg4 hs4 G1 G2 G3 G4 G5
   have HD:=qh hd
   clear hd
   go_wp2_with fail
   go_end0
   exact⟨rfl,by unfold storedHu;rw [if_neg (fun e=>h8 e.1)];exact HD.out⟩
end
end Go.Proofs.YtpaikolnampcfaaGreatDoor
