/- What becomes of a write that waits: the closures of Sync, of Wake. -/
import Derived.Test.YtpaikolnampcfaaGreatDoorDevStore
import Derived.Great.BuildSlice
import Derived.Deep.RegionHeld
import Derived.Maps.AppendAt
namespace Go.Proofs.YtpaikolnampcfaaGreatDoor
set_option maxRecDepth 100000
set_option maxHeartbeats 1000000
open Go.RowKit
theorem fate_sync (i:Nat) (w:World):Calls Tryz.prog 104 #[.int .i64 (i:Int)] w fun e w'=>e= .returned (.int .i64 ((8:Nat):Int))∧w=w':=by
 go_enter Tryz.func104,Tryz.ntmps104
 go_wp2
 go_ret
 exact⟨rfl,rfl⟩
theorem ret_nat {a b:Nat} (h:a=b):Ending.returned (.int .i64 (a:Int))= .returned (.int .i64 (b:Int)):=by rw [h]
theorem fate_wake (i:Nat) (hi:i≤1000000000) (stay torn sectors:Int) (part:Nat) (hp:part=(sectors % 9).toNat) (bt bp bs:Nat) (w:World) (c1:w.cell? ⟨bt,0,none⟩=some (.int .i64 torn)) (c2:w.cell? ⟨bp,0,none⟩=some (.int .i64 (part:Int))) (c3:w.cell? ⟨bs,0,none⟩=some (.int .i64 stay)):
 Calls Tryz.prog 79 #[.int .i64 (i:Int),.pointer (some ⟨bt,0,none⟩),.pointer (some ⟨bp,0,none⟩),.pointer (some ⟨bs,0,none⟩)] w fun e w'=>e= .returned (.int .i64 ((fate stay torn sectors i:Nat):Int))∧w=w':=by
 obtain⟨x,hx⟩: ∃x,fate stay torn sectors i=x:=⟨_,rfl⟩
 rw [hx]
 by_cases h1:(i:Int)=torn
 · have Hx:Hid (part=x):=qh (by rw [← hx,hp];unfold fate;rw [if_pos h1])
   clear hx hp
   go_enter Tryz.func79,Tryz.ntmps79
   go_wp2
   go_ret
   exact⟨ret_nat Hx.out,rfl⟩
 · by_cases h2:bits .and .i64 (stay / 2 ^ (i % 60)) 1=1
   · have Hx:Hid (8=x):=qh (by rw [← hx];unfold fate;rw [if_neg h1,if_pos h2])
     clear hx hp
     go_enter Tryz.func79,Tryz.ntmps79
     go_wp2
     go_ret
     exact⟨ret_nat Hx.out,rfl⟩
   · have Hx:Hid (0=x):=qh (by rw [← hx];unfold fate;rw [if_neg h1,if_neg h2])
     clear hx hp
     go_enter Tryz.func79,Tryz.ntmps79
     go_wp2
     go_ret
     exact⟨ret_nat Hx.out,rfl⟩
open Go.RowKit
def stepM (M:List MCell) (p:Nat × List Int) (s:Nat):List MCell:=(storedM M p s).set p.1 { (storedM M p s).getD p.1 default with last:=0 }
def settleM (M:List MCell) (ws:List (Nat × List Int)) (f:Nat→Nat):Nat→List MCell
 | 0=>M
 | k+1=>match ws[k]? with
   | some p=>stepM (settleM M ws f k) p (f k)
   | none=>settleM M ws f k
def mHurts (M:List MCell):Nat:=M.countP (·.hurt)
theorem storedM_len (M:List MCell) (p:Nat × List Int) (s:Nat):(storedM M p s).length=M.length:=by unfold storedM;rw [List.length_set]
theorem stepM_len (M:List MCell) (p:Nat × List Int) (s:Nat):(stepM M p s).length=M.length:=by unfold stepM;rw [List.length_set,storedM_len]
theorem settleM_len (M:List MCell) (ws:List (Nat × List Int)) (f:Nat→Nat): ∀k,(settleM M ws f k).length=M.length
 | 0=>rfl
 | k+1=>by
   unfold settleM
   split
   · rw [stepM_len,settleM_len M ws f k]
   · exact settleM_len M ws f k
theorem settleM_next {M:List MCell} {ws:List (Nat × List Int)} {f:Nat→Nat} {k:Nat} {p:Nat × List Int} (h:ws[k]? =some p):settleM M ws f (k+1)=stepM (settleM M ws f k) p (f k):=by
 conv=>lhs;unfold settleM
 rw [h]
theorem mHurts_set {M:List MCell} {n:Nat} (hn:n < M.length) (y:MCell):mHurts (M.set n y)=mHurts M - (if(M.getD n default).hurt then 1 else 0)+(if y.hurt then 1 else 0):=by
 unfold mHurts
 rw [List.countP_set hn,getD_at hn]
theorem mHurts_pos {M:List MCell} {n:Nat} (hn:n < M.length) (h:(M.getD n default).hurt=true):0 < mHurts M:=by
 unfold mHurts
 rw [List.countP_pos_iff]
 rw [getD_at hn]at h
 exact⟨M[n],List.getElem_mem hn,h⟩
theorem mHurts_le (M:List MCell):mHurts M≤M.length:=List.countP_le_length
theorem mHurts_stored {M:List MCell} {p:Nat × List Int} {s:Nat} (hn:p.1 < M.length):storedHu M p.1 s (mHurts M)=mHurts (storedM M p s):=by
 unfold storedM
 rw [mHurts_set hn]
 unfold storedHu MCell.store
 cases hh:(M.getD p.1 default).hurt with
 | false=>by_cases h8:s=8<;>simp [h8]
 | true=>
   have:=mHurts_pos hn hh
   by_cases h8:s=8
   · simp [h8]
   · simp [h8];omega
theorem mHurts_last {M:List MCell} {n:Nat} (hn:n < M.length) (x:Nat):mHurts (M.set n { M.getD n default with last:=x })=mHurts M:=by
 rw [mHurts_set hn]
 cases hh:(M.getD n default).hurt with
 | false=>simp
 | true=>have:=mHurts_pos hn hh;simp;omega
theorem mHurts_step {M:List MCell} {p:Nat × List Int} {s:Nat} (hn:p.1 < M.length):storedHu M p.1 s (mHurts M)=mHurts (stepM M p s):=by
 unfold stepM
 rw [mHurts_last (by rw [storedM_len];exact hn),mHurts_stored hn]
def zeroW :Array Value:=(writeV (0,List.replicate 256 0)).toArray
theorem infoWrite :(Tryz.prog.info? 165).map (fun i=>(i.zero,i.size,i.bytes))=some (some (.agg zeroW),257,264):=by kernel_rfl
theorem zeroWrite (w:World):(zeroValue 165).run Tryz.prog w= .ok (.agg zeroW) w:=by
 obtain⟨i0,hi,hz0,hz1,hz2⟩:=info_parts infoWrite
 simp [zeroValue,typeInfo,hi,hz0]
theorem zeroW_size :zeroW.size=257:=by unfold zeroW;rw [List.size_toArray,writeV_len nought_ok]
theorem sizeWrite :(Tryz.prog.info? 165).map (·.size)=some 257:=by
 obtain⟨i0,hi,hz0,hz1,hz2⟩:=info_parts infoWrite
 rw [hi];simp [hz1]
theorem writeV_one {p:Nat × List Int} : ∀v∈writeV p,v.oneCell'=true:=fun v hv=>by
 unfold writeV at hv
 rcases List.mem_cons.1 hv with rfl | hv
 · rfl
 · exact u8s_one _ v hv
theorem store_write (w:World) {p:Nat × List Int} (hp:BlkOk p.2):(storeCells ⟨w.heap.size,0,none⟩ (writeV p) 0).run Tryz.prog (w.alloc (.cells zeroW 165))= .ok () (w.alloc (.cells (writeV p).toArray 165)):=by
 have:=run_storeCells_new (P:=Tryz.prog) w 165 zeroW (writeV p).toArray (by rw [sizeWrite,List.size_toArray,writeV_len hp]) (by rw [zeroW_size,List.size_toArray,writeV_len hp]) (all_oneCell_toArray writeV_one)
 exact this
theorem range_write {w:World} {wv:Value} {ws:List (Nat × List Int)} (h:w.ownsRow 0 165 257 wv ws.length (ws.flatMap writeV)) (hb: ∀p∈ws,BlkOk p.2) {k:Nat} (hk:k < ws.length):
 ∃g cap,wv= .slice (some ⟨g,0,none⟩) ws.length cap∧ws.length≤cap∧cap≤maxLen∧g < w.heap.size∧w.rangeAt g (k * 257) (writeV ws[k]):=by
 obtain⟨g,cap,rfl,h1,h2,h3,h4⟩:=own_form h (by omega)
 refine⟨g,cap,rfl,h3,h4,h2,fun j v hv=> ?_⟩
 have hw: ∀p∈ws,(writeV p).length=257:=fun p hp=>writeV_len (hb p hp)
 have hj:j < 257:=by rw [← hw _ (List.getElem_mem hk)];exact(List.getElem?_eq_some_iff.1 hv).1
 rw [h.cellAt (k * 257+j) (by
  have:(k+1) * 257≤ws.length * 257:=Nat.mul_le_mul_right 257 hk
  rw [Nat.add_mul]at this;omega),flat_at writeV 257 hw hk hj,hv]
theorem DevR.noWaits {w:World} {T:Nat→Prop} {h C:Nat} {wv:Value} {hu tu cr:Nat} {M:List MCell} {ws:List (Nat × List Int)} {left:Int} {dn:Bool} (k:DevR w T h C wv hu tu cr M ws left dn):DevR (w.setCell ⟨h,5,none⟩ (.slice none 0 0)) T h C (.slice none 0 0) hu tu cr M [] left dn:=
 ⟨fun j hj=>by rw [set_size];exact k.foot j hj,k.self,k.tc,k.ne,k.blk.set1 5 _,k.cells.keep (set_other _ _ _ _ _ k.ne),World.ownsRow_nil _ _ _ _,by simp [Value.ownBlock],by simp [Value.ownBlock],(fun b hb=>by simp [Value.ownBlock]at hb),k.mb,k.many,fun p hp=>by cases hp⟩
theorem DevR.drew {w:World} {T:Nat→Prop} {h C:Nat} {wv:Value} {hu tu cr:Nat} {M:List MCell} {ws:List (Nat × List Int)} {left:Int} {dn:Bool} (k:DevR w T h C wv hu tu cr M ws left dn):DevR w.drew T h C wv hu tu cr M ws left dn:=⟨k.foot,k.self,k.tc,k.ne,k.blk,k.cells,k.own,k.off,k.offC,k.mem,k.mb,k.many,k.wb⟩
theorem BlkOk.wr {w:World} {T:Nat→Prop} {h C:Nat} {wv:Value} {hu tu cr:Nat} {M:List MCell} {ws:List (Nat × List Int)} {left:Int} {dn:Bool} (k:DevR w T h C wv hu tu cr M ws left dn): ∀p∈ws,BlkOk p.2:=fun p hp=>(k.wb p hp).2
theorem settle_step {w wr w2 w3:World} {T:Nat→Prop} {h C:Nat} {wv:Value} {tu cr:Nat} {M:List MCell} {ws:List (Nat × List Int)} {left:Int} {dn:Bool} {p:Nat × List Int} {s:Nat} (hp:p.1 < M.length)
 (hC:Chg T w wr) (hb:Below wr.heap.size wr w2) (hf: ∀j,T j→j < w.heap.size) (hTC:T C)
 (k:DevR w3 (grow (grow T w wr) w2.drew w3) h C wv (storedHu M p.1 s (mHurts M)) tu cr (storedM M p s) ws left dn) (hc:Chg (grow T w wr) w2.drew w3):
 DevR (w3.setCell ⟨C,p.1 * 258+257,none⟩ (.int .i64 0)).drew (grow T w (w3.setCell ⟨C,p.1 * 258+257,none⟩ (.int .i64 0)).drew) h C wv (mHurts (stepM M p s)) tu cr (stepM M p s) ws left dn∧Chg T w (w3.setCell ⟨C,p.1 * 258+257,none⟩ (.int .i64 0)).drew:=by
 have h1:=(k.setLast (n:=p.1) (by rw [storedM_len];exact hp) 0).drew
 rw [mHurts_step hp]at h1
 have s1:=hC.size
 have s2:=hb.size
 have s3:w2.heap.size≤w3.heap.size:=hc.size
 have s4:(w3.setCell ⟨C,p.1 * 258+257,none⟩ (.int .i64 0)).drew.heap.size=w3.heap.size:=set_size _ _ _
 have hc3:Chg T w w3:=(hC.on (w2:=w2.drew) hb.drew).trans (hc.mono (by
  rintro j (hj | hj)
  · exact .inl hj
  · exact .inr ⟨hj.1,by show j < w2.heap.size;omega⟩))
 refine⟨h1.mono ?_ ?_,(hc3.set (.inl hTC) _).drew⟩
 · rintro j ((hj | hj) | hj)
   · exact .inl hj
   · exact .inr ⟨hj.1,by omega⟩
   · have:w2.heap.size≤j:=hj.1
     exact .inr ⟨by omega,by rw [s4];exact hj.2⟩
 · rintro j (hj | hj)
   · have:=hf j hj;show j < (w3.setCell ⟨C,p.1 * 258+257,none⟩ (.int .i64 0)).drew.heap.size;omega
   · exact hj.2
open Go.RowKit
def zero256 :List Int:=List.replicate 256 0
theorem zero256_len :zero256.length=256:=by unfold zero256;exact List.length_replicate
theorem store_new (n:Int) (w:World):(storeCells ⟨w.heap.size,0,none⟩ (zeroW.toList.set 0 (.int .i64 n)) 0).run Tryz.prog (w.alloc (.cells zeroW 165))= .ok () (w.alloc (.cells (Value.int .i64 n::u8s zero256).toArray 165)):=by
 have hl:(Value.int .i64 n::u8s zero256).length=257:=by rw [List.length_cons,u8s_len,zero256_len]
 have:=run_storeCells_new (P:=Tryz.prog) w 165 zeroW (Value.int .i64 n::u8s zero256).toArray (by rw [sizeWrite,List.size_toArray,hl]) (by rw [zeroW_size,List.size_toArray,hl]) (all_oneCell_toArray (fun v hv=>by
  rcases List.mem_cons.1 hv with rfl | hv
  · rfl
  · exact u8s_one _ v hv))
 exact this
theorem slice_write (w:World) {p:Nat × List Int} (hp:BlkOk p.2):(Instr.buildSlice 105 1 #[(0,.agg (writeV p).toArray)]).run Tryz.prog w= .ok (.slice (some ⟨w.heap.size,0,none⟩) 1 1) (w.alloc (.cells (writeV p).toArray 165)):=by
 obtain⟨i0,hi,hz0,hz1,hz2⟩:=info_parts infoWrite
 have hl:(Value.agg (writeV p).toArray).cells.size=257:=by show(writeV p).toArray.size=257;rw [List.size_toArray,writeV_len hp]
 refine run_buildSlice w 105 165 1 _ (writeV p).toArray i0 (.agg zeroW) Tryz.underlying105 hi hz0 (by rw [hz1];decide) (by rw [hz1];decide) ?_
 rw [hz1]
 have h:=Great.fill_whole (s:=257) (by decide) [.agg (writeV p).toArray] ((Array.range (1 * 257)).map ((Value.agg zeroW).cells[· % (Value.agg zeroW).cells.size]!)) (fun v hv=>by rw [List.mem_singleton.1 hv];exact hl) (by simp)
 rw [show ([((0:Nat),Value.agg (writeV p).toArray)]:List (Nat × Value))=([Value.agg (writeV p).toArray].zipIdx 0).map fun x=>(x.2,x.1)from rfl]
 refine h.trans ?_
 simp [Value.cells]
theorem wp_slice_one {o:Oper} {a:Act} {w:World} {K:Act→World→Prop} {Q:Exit→Act→World→Prop} {ops:Array Oper} {E:Prop} (hgd:o.guard=none) (x:Operand) (ho:o.op= .buildSlice 105 1 #[(0,x)]) {p:Nat × List Int} (hp:BlkOk p.2) (hx:a.eval x= .agg (writeV p).toArray)
 (h:K (a.put o.dst (.slice (some ⟨w.heap.size,0,none⟩) 1 1)) (w.alloc (.cells (writeV p).toArray 165))):if Region.wanted o (yielded ops a.tmps)=true then Oper.wp Tryz.prog o a w K Q else E:=by
 have hw:Region.wanted o (yielded ops a.tmps)=true:=by simp [Region.wanted,hgd]
 rw [if_pos hw]
 unfold Oper.wp execOp
 have hm:(#[(0,x)]:Array (Nat × Operand)).map (fun(i,x)=>(i,a.eval x))= #[(0,.agg (writeV p).toArray)]:=by simp [hx]
 simp only [ho,hm,Sem.run_bind,slice_write w hp,Result.andThen_ok]
 exact h
theorem step_append_one {P:Program} {w:World} {ops:Array Oper} {o:Oper} {a:Act} {K:Act→World→Prop} {Q:Exit→Act→World→Prop} {E:Prop} (hgd:o.guard=none) (s x:Operand) (t:TypeId)
 (ho:o.op= .call { callee:= .builtin .append,args:= #[s,x],argTypes:= #[t,t] }) (base:Nat) (e:TypeId) (i:TypeInfo) (z:Value) (size bytes:Nat) (ht:P.underlying t=some (.slice e)) (hi:P.info? e=some i) (hz:i.zero=some z)
 (hsize:i.size=size) (hby:i.bytes=bytes) (hzs:z.cells.size=size) (hsz:0 < size) (v:Value) (n:Nat) (xs:List Value) (hs:a.eval s=v) (hown:w.ownsRow base e size v n xs)
 (ad:Addr) (c:Nat) (news:List Value) (hx:a.eval x= .slice (some ad) 1 c) (hl:news.length=size) (hnews: ∀j u,news[j]? =some u→w.cell? (ad.add j)=some u) (h1: ∀u∈news,u.oneCell'=true)
 (h63:n+1≤maxLen) (hbytes:(n+1) * bytes≤140737488355328) (hbase:base≤w.heap.size)
 (h: ∀v' w',w'.ownsRow base e size v' (n+1) (xs++news)→w.grownBy w' v.ownBlock→(v'.ownBlock=v.ownBlock∨v'.ownBlock=some w.heap.size)→K (a.put o.dst v') w'):
 if Region.wanted o (yielded ops a.tmps)=true then Oper.wp P o a w K Q else E:=by
 have hw:Region.wanted o (yielded ops a.tmps)=true:=by simp [Region.wanted,hgd]
 rw [if_pos hw]
 obtain⟨v',w',hr,h2,h3,h4,h5⟩:=run_append_own_at (P:=P) w base t o.type e i z size bytes ht hi hz hsize hby hzs hsz v n xs hown ad 1 c news (by rw [Nat.one_mul];exact hl) hnews h1 h63 hbytes hbase
 unfold Oper.wp execOp
 simp only [ho,resolve,invoke,builtin,Sem.run_bind,Sem.run_pure,Result.andThen_ok,List.map_toArray,List.map_cons,List.map_nil,hs,hx,hr]
 exact h v' w' h2 h3 h5
theorem pad_splice (n:Int) (bs:List Int):Go.splice (.int .i64 n::u8s zero256) 1 (u8s bs)= .int .i64 n::u8s (padB bs):=by
 unfold Go.splice padB zero256
 rw [u8s_len, ← u8s_app]
 simp only [List.take_succ_cons,List.take_zero,List.cons_append,List.nil_append]
 rw [show 1+bs.length=bs.length+1 by omega,List.drop_succ_cons]
 unfold u8s
 rw [← List.map_drop,List.drop_replicate]
section
variable {w : World} {T : Nat → Prop} {dk C : Nat} {wv : Value} {hu tu cr : Nat} {M : List MCell} {ws : List (Nat × List Int)} {left : Int} {dn : Bool}
theorem DevR.more (k:DevR w T dk C wv hu tu cr M ws left dn) {w5:World} {v5:Value} {p:Nat × List Int} (ho:w5.ownsRow 0 165 257 v5 (ws.length+1) (ws.flatMap writeV++writeV p)) (hg:w.grownBy w5 wv.ownBlock) (hl:v5.ownBlock=wv.ownBlock∨v5.ownBlock=some w.heap.size) (hp:p.1 < M.length∧BlkOk p.2):
 DevR (w5.setCell ⟨dk,5,none⟩ v5) (grow T w (w5.setCell ⟨dk,5,none⟩ v5)) dk C v5 hu tu cr M (ws++ [p]) left dn∧Chg T w (w5.setCell ⟨dk,5,none⟩ v5):=by
 have hH:=k.lt
 have hC:=k.foot C k.tc
 have hs:=set_size w5 ⟨dk,5,none⟩ v5
 have hfr:Chg T w (w5.setCell ⟨dk,5,none⟩ v5):=(Chg.of_grown hg (fun b hb=>k.mem b hb)).set (.inl k.self) _
 have off:v5.ownBlock≠some dk:=by
  rcases hl with e | e
  · rw [e];exact k.off
  · rw [e];intro e';injection e' with e';omega
 have offC:v5.ownBlock≠some C:=by
  rcases hl with e | e
  · rw [e];exact k.offC
  · rw [e];intro e';injection e' with e';omega
 refine⟨⟨grow_lt k.foot hfr.size,.inl k.self,.inl k.tc,k.ne,?_,?_,?_,off,offC,fun b hb=> ?_,k.mb,k.many,fun q hq=> ?_⟩,hfr⟩
 · exact(k.blk.kept hg (fun e=>k.off e.symm)).set1 5 _
 · exact(k.cells.kept hg (fun e=>k.offC e.symm)).keep (set_other _ _ _ _ _ k.ne)
 · have:=own_keep (w':=w5.setCell ⟨dk,5,none⟩ v5) ho (fun b hb=>set_other _ _ _ _ _ (fun e=>off (e ▸ hb)))
   exact own_same this (by rw [List.length_append];rfl) (by rw [List.flatMap_append];simp)
 · rcases hl with e | e
   · exact .inl (k.mem b (e ▸ hb))
   · have h1:=own_lt ho hb
     rw [e]at hb
     injection hb with hb
     exact .inr ⟨by omega,by rw [hs];exact h1⟩
 · rcases List.mem_append.1 hq with hq | hq
   · exact k.wb q hq
   · rw [List.mem_singleton.1 hq];exact hp
theorem wait_done {w w2 w5:World} {v5:Value} {n:Nat} {b:List Int} (k:DevR w2 T dk C wv hu tu cr M ws left dn) (hb:Below w.heap.size w w2) (hn:n < M.length) (hb5:BlkOk b) (hf: ∀j,T j→j < w.heap.size)
 (ho:w5.ownsRow 0 165 257 v5 (ws.length+1) (ws.flatMap writeV++writeV (n,b))) {ob:Obj} (hg:(w2.drew.alloc ob).grownBy w5 wv.ownBlock) (hl:v5.ownBlock=wv.ownBlock∨v5.ownBlock=some (w2.drew.alloc ob).heap.size):
 DevR (w5.setCell ⟨dk,5,none⟩ v5) (grow T w (w5.setCell ⟨dk,5,none⟩ v5)) dk C v5 hu tu cr M (ws++ [(n,b)]) left dn∧Chg T w (w5.setCell ⟨dk,5,none⟩ v5):=by
 have hbn:=below_new w2.drew ob
 have h1:=(k.drew.below hbn).more (p:=(n,b)) ho hg hl ⟨hn,hb5⟩
 have hB:Below w.heap.size w (w2.drew.alloc ob):=hb.drew.trans ((below_new w2.drew ob).mono hb.size)
 refine⟨h1.1.mono ?_ (grow_lt hf (Nat.le_trans hB.size h1.2.size)),?_⟩
 · have:=hB.size
   rintro j (hj | hj)
   · exact .inl hj
   · exact .inr ⟨by omega,hj.2⟩
 · exact(Chg.of_below hB).trans (h1.2.mono (fun _ hj=> .inl hj))
def lastM (M:List MCell) (n x:Nat):List MCell:=M.set n { M.getD n default with last:=x }
theorem wait_any (k:DevR w T dk C wv hu tu cr M ws left dn) (n:Nat) (hn:n < M.length) (A:Option Addr) (bs:List Int) (c:Nat) (hb:BytesAt w A bs) (hl:bs.length≤256) (hws:ws.length≤1000000000):
 Calls Tryz.prog 101 #[.pointer (some ⟨dk,0,none⟩),.int .i64 (n:Int),.slice A bs.length c] w fun e w'=>e= .returned (.tuple #[])∧
  ∃wv',DevR w' (grow T w w') dk C wv' hu tu cr (lastM M n (ws.length+1)) (ws++ [(n,padB bs)]) left dn∧Chg T w w':=by
 have hz:=zeroWrite
 have hst:=store_new (n:Int)
 have hzs:=zeroW_size
 have Hk:=qh k
 have Hb:=qh hb
 have hbn:=below_new w (.cells (Value.int .i64 n::u8s zero256).toArray 165)
 have hB:=BlockIs.made w 165 (Value.int .i64 n::u8s zero256).toArray
 have H1:=qh (And.intro hB hbn)
 have G1:=qh (show(u8s bs).length=Nat.min bs.length 256 by rw [u8s_len];show bs.length=min bs.length 256;omega)
 have G2:=qh (show 1+(u8s bs).length≤(Value.int .i64 n::u8s zero256).length by rw [List.length_cons,u8s_len,u8s_len,zero256_len];omega)
 have G3:Hid (0 < (u8s bs).length→ ∃ad,A=some ad∧ ∀j v,(u8s bs)[j]? =some v→(w.alloc (.cells (Value.int .i64 n::u8s zero256).toArray 165)).cell? (ad.add j)=some v):=qh fun hp=>by
  have hne:bs≠ []:=by rintro rfl;exact absurd hp (by decide)
  obtain⟨b,off,e,hc⟩:=hb.2 hne
  exact⟨⟨b,off,none⟩,e,src_cells bs b off w _ hc⟩
 have G4:=qh (u8s_one bs)
 clear k hb hbn hB
 go_enter Tryz.func101,Tryz.ntmps101
 go_wp2_with (refine wpList_copy_splice rfl (.tmp 10) (.tmp 11) 28 28 rfl 5 Tryz.underlying28 (by kernel_rfl) (some ⟨w.heap.size,1,none⟩) A 256 256 bs.length c rfl rfl w.heap.size 1 (Value.int .i64 n::u8s zero256) 165 H1.out.1 (u8s bs) G1.out (fun hp=>⟨rfl,G3.out hp⟩) G2.out G4.out w.heap.size w H1.out.2 (Nat.le_refl _) ?_;intro w2 hG2 hB2)
 rw [pad_splice]at hG2
 have hp2:BlkOk (padB bs):=padB_ok hl Hb.out.1
 have Hp2:=qh hp2
 have hBw:BlockIs w2 w.heap.size 165 (writeV (n,padB bs)).toArray:=hG2
 have Hrw:Hid (w2.drew.rangeAt w.heap.size 0 (writeV (n,padB bs))):=qh (fun j v hj=>by rw [Nat.zero_add];exact(hBw.cell j).trans (by rw [List.getElem?_toArray];exact hj))
 have H2:=qh (And.intro (Hk.out.below hB2) hB2)
 have c5:=(Hk.out.below hB2).cell8.2.2.2.2.2.1
 have HS2:=qh hBw.lt
 clear hp2 hBw hG2 hB2 hz hst hzs H1 G1 G2 G3 G4
 obtain⟨i0,hi,hz0,hz1,hz2⟩:=info_parts infoWrite
 have HA:Hid ((w2.drew.alloc (.cells (writeV (n,padB bs)).toArray 165)).ownsRow 0 165 257 wv ws.length (ws.flatMap writeV)∧ ∀j v,(writeV (n,padB bs))[j]? =some v→(w2.drew.alloc (.cells (writeV (n,padB bs)).toArray 165)).cell? ((⟨w2.heap.size,0,none⟩:Addr).add j)=some v):=
  qh ⟨((H2.out.1.drew.below (below_new _ _)).own),fun j v hj=>by rw [Addr.add_mid,Nat.zero_add];exact((BlockIs.made w2.drew _ _).cell j).trans (by rw [List.getElem?_toArray];exact hj)⟩
 have HA5:=qh (H2.out.1.drew.below (below_new w2.drew (.cells (writeV (n,padB bs)).toArray 165))).cell8.2.2.2.2.2.1
 have HL:=qh (H2.out.1.drew.below (below_new w2.drew (.cells (writeV (n,padB bs)).toArray 165))).lt
 have HF5:=qh ((H2.out.1.drew.below (below_new w2.drew (.cells (writeV (n,padB bs)).toArray 165))).blk.free 5)
 have c5':=(H2.out.1.below (below_new w2 (.cells (writeV (n,padB bs)).toArray 165))).cell8.2.2.2.2.2.1
 have Hf:=qh Hk.out.foot
 refine wp_region_held_drew (S:=fun w'=>w'.rangeAt w.heap.size 0 (writeV (n,padB bs))) (by kernel_rfl) Hrw.out (fun hS0=> ?_)
 refine wpAnyH_take (i:=0) (v:= ?_) rfl (by kernel_rfl) (by kernel_rfl) (by kernel_rfl) (fun _ _ _ dk=>dk) (Or.inl ⟨by rfl,?_⟩) hS0 ?_
 rotate_left
 · (intro w' _;go_simp);try with_reducible rfl
 simp only [Act.put]
 refine wpAnyH_take (i:=1) (v:= ?_) rfl (by kernel_rfl) (by kernel_rfl) (by kernel_rfl) (fun _ _ _ dk=>dk) (Or.inl ⟨by rfl,?_⟩) hS0 ?_
 rotate_left
 · (intro w' _;go_simp);try with_reducible rfl
 simp only [Act.put]
 refine wpAnyH_take (i:=2) (v:= ?_) rfl (by kernel_rfl) (by kernel_rfl) (by kernel_rfl) (fun _ _ _ dk=>dk) (Or.inl ⟨by rfl,?_⟩) hS0 ?_
 rotate_left
 · (intro w' _;go_simp);try with_reducible rfl
 simp only [Act.put]
 refine wpAnyH_take (i:=3) (v:= ?_) rfl (by kernel_rfl) (by kernel_rfl) (by kernel_rfl) (fun _ _ _ dk=>dk) (Or.inl ⟨by rfl,?_⟩) hS0 ?_
 rotate_left
 · (intro w' _;go_simp);try with_reducible rfl
 simp only [Act.put]
 refine wpAnyH_take (i:=5) rfl (by kernel_rfl) (by kernel_rfl) (by kernel_rfl) (fun _ _ _ dk=>dk) (yieldsIf_load_mid (by rfl) 165 (.tmp 6) rfl w.heap.size 0 rfl (writeV (n,padB bs)) _ (fun w' hS=>hS) Tryz.underlying165 rfl (by rw [sizeWrite,writeV_len Hp2.out])) hS0 ?_
 simp only [Act.put]
 refine wpAnyH_ready (rs:= [4,6]) (by kernel_rfl) (by simp) ?_
 refine AllReadyH.cons rfl (fun K hK=> ?_) (AllReadyH.cons rfl (fun K hK=> ?_) AllReadyH.nil)
 · go_simp
   refine hK.out _ _ hS0 (fun _=> ?_)
   clear hK K
   refine wpAnyH_ready (rs:= [6]) (by kernel_rfl) (by simp) ?_
   refine AllReadyH.cons rfl (fun K hK=> ?_) AllReadyH.nil
   refine wp_slice_one rfl (.tmp 18) rfl Hp2.out rfl ?_
   refine hK.out _ _ (World.rangeAt_alloc hS0 _) (fun hS0=> ?_)
   clear hK K c5 c5'
   simp only [Act.put]
   refine wpAnyH_ready (rs:= [7]) (by kernel_rfl) (by simp) ?_
   refine AllReadyH.cons rfl (fun K hK=> ?_) AllReadyH.nil
   refine step_append_one rfl (.tmp 17) (.tmp 19) 105 rfl 0 165 i0 (.agg zeroW) 257 264 Tryz.underlying105 hi hz0 hz1 hz2 zeroW_size (by decide) wv ws.length (ws.flatMap writeV) rfl HA.out.1 ⟨w2.heap.size,0,none⟩ 1 (writeV (n,padB bs)) rfl (writeV_len Hp2.out) HA.out.2 writeV_one (by unfold maxLen;omega) (by omega) (Nat.zero_le _) ?_
   intro v5 w5 ho5 hg5 hl5
   have HD:=qh (wait_done H2.out.1 H2.out.2 hn Hp2.out Hf.out ho5 hg5 hl5)
   have hS5:w5.rangeAt w.heap.size 0 (writeV (n,padB bs)):=fun j v hj=>hg5.cell (hS0 j v hj) (fun e=>Nat.lt_irrefl _ (Hf.out _ (Hk.out.mem _ e.symm)))
   have d5:w5.cell? ⟨dk,5,none⟩=some wv:=hg5.cell HA5.out (fun e=>Hk.out.off e.symm)
   have f5:w5.frozen? ⟨dk,5,none⟩=false:=(World.frozen?_of_block (a:=⟨dk,5,none⟩) (hg5.block dk HL.out (fun e=>Hk.out.off e.symm))).trans HF5.out
   obtain⟨X5,cap5,hv5,hc5,hm5⟩:=own_slice ho5
   have HS5:=qh hS5
   have Hn5:Hid (w.heap.size≠dk):=qh (fun e=>by have h1:=Hf.out _ Hk.out.self;omega)
   have Hc5:=qh (And.intro hc5 hm5)
   subst hv5
   clear ho5 hg5 hl5 hc5 hm5 hS5
   refine hK.out _ _ HS5.out (fun hS0=> ?_)
   clear hK K
   simp only [Act.put]
   refine wpAnyH_take (i:=8) (v:= ?_) rfl (by kernel_rfl) (by kernel_rfl) (by kernel_rfl) (fun _ _ _ dk=>dk) (Or.inl ⟨by rfl,?_⟩) hS0 ?_
   rotate_left
   · (intro w' _;go_simp);try with_reducible rfl
   simp only [Act.put]
   refine wpAnyH_take (i:=9) (v:= ?_) rfl (by kernel_rfl) (by kernel_rfl) (by kernel_rfl) (fun _ _ _ dk=>dk) (Or.inl ⟨by rfl,?_⟩) hS0 ?_
   rotate_left
   · (intro w' _;go_simp);try with_reducible rfl
   simp only [Act.put]
   refine wpAnyH_ready (rs:= [10]) (by kernel_rfl) (by simp) ?_
   refine AllReadyH.cons rfl (fun K hK=> ?_) AllReadyH.nil
   go_simp
   refine hK.out _ _ (fun j v hj=>(World.cell?_of_block (a:=⟨w.heap.size,0+j,none⟩) (set_other _ _ _ _ _ Hn5.out)).trans (HS5.out j v hj)) (fun hS0=> ?_)
   clear hK K
   refine wpAnyH_done (by kernel_rfl) ?_ _
   clear d5 f5 hS0
   obtain⟨e0,e1,e2,e3,e4,e5,e6,e7⟩:=HD.out.1.cell8
   have eL:=HD.out.1.at_ hn (show 257 < 258 by decide)
   rw [cellV_last (HD.out.1.mb _ (List.getElem_mem hn))]at eL
   have fL:=HD.out.1.cells.free (n * 258+257)
   generalize w5.setCell ⟨dk,5,none⟩ (.slice X5 (ws.length+1) cap5)=w6 at *
   clear e0 e1 e2 e3 e6 e7
   go_wp2_with fail
   go_region
   have HL6:Hid (DevR (w6.setCell ⟨C,n * 258+257,none⟩ (.int .i64 ((ws.length:Int)+1))).drew (grow T w (w6.setCell ⟨C,n * 258+257,none⟩ (.int .i64 ((ws.length:Int)+1))).drew) dk C (.slice X5 (ws.length+1) cap5) hu tu cr (lastM M n (ws.length+1)) (ws++ [(n,padB bs)]) left dn∧Chg T w (w6.setCell ⟨C,n * 258+257,none⟩ (.int .i64 ((ws.length:Int)+1))).drew):=by
    have h1:=(HD.out.1.setLast hn (ws.length+1)).drew
    rw [show (((ws.length+1:Nat):Int))=(ws.length:Int)+1 by omega]at h1
    refine qh ⟨h1.mono ?_ ?_,(HD.out.2.set (.inl Hk.out.tc) _).drew⟩
    · rintro j (hj | hj)
      · exact .inl hj
      · exact .inr ⟨hj.1,by show j < (w6.setCell _ _).heap.size;rw [set_size];exact hj.2⟩
    · exact grow_lt Hf.out (HD.out.2.set (b:=C) (i:=n * 258+257) (.inl Hk.out.tc) (.int .i64 ((ws.length:Int)+1))).size
   clear e4 e5 eL fL
   go_wp2_with fail
   go_end0
   exact⟨rfl,_,HL6.out⟩
 · refine wp_slice_one rfl (.tmp 18) rfl Hp2.out rfl ?_
   refine hK.out _ _ (World.rangeAt_alloc hS0 _) (fun hS0=> ?_)
   clear hK K c5
   simp only [Act.put]
   refine wpAnyH_ready (rs:= [4]) (by kernel_rfl) (by simp) ?_
   refine AllReadyH.cons rfl (fun K hK=> ?_) AllReadyH.nil
   go_simp
   refine hK.out _ _ hS0 (fun _=> ?_)
   clear hK K c5'
   refine wpAnyH_ready (rs:= [7]) (by kernel_rfl) (by simp) ?_
   refine AllReadyH.cons rfl (fun K hK=> ?_) AllReadyH.nil
   refine step_append_one rfl (.tmp 17) (.tmp 19) 105 rfl 0 165 i0 (.agg zeroW) 257 264 Tryz.underlying105 hi hz0 hz1 hz2 zeroW_size (by decide) wv ws.length (ws.flatMap writeV) rfl HA.out.1 ⟨w2.heap.size,0,none⟩ 1 (writeV (n,padB bs)) rfl (writeV_len Hp2.out) HA.out.2 writeV_one (by unfold maxLen;omega) (by omega) (Nat.zero_le _) ?_
   intro v5 w5 ho5 hg5 hl5
   have HD:=qh (wait_done H2.out.1 H2.out.2 hn Hp2.out Hf.out ho5 hg5 hl5)
   have hS5:w5.rangeAt w.heap.size 0 (writeV (n,padB bs)):=fun j v hj=>hg5.cell (hS0 j v hj) (fun e=>Nat.lt_irrefl _ (Hf.out _ (Hk.out.mem _ e.symm)))
   have d5:w5.cell? ⟨dk,5,none⟩=some wv:=hg5.cell HA5.out (fun e=>Hk.out.off e.symm)
   have f5:w5.frozen? ⟨dk,5,none⟩=false:=(World.frozen?_of_block (a:=⟨dk,5,none⟩) (hg5.block dk HL.out (fun e=>Hk.out.off e.symm))).trans HF5.out
   obtain⟨X5,cap5,hv5,hc5,hm5⟩:=own_slice ho5
   have HS5:=qh hS5
   have Hn5:Hid (w.heap.size≠dk):=qh (fun e=>by have h1:=Hf.out _ Hk.out.self;omega)
   have Hc5:=qh (And.intro hc5 hm5)
   subst hv5
   clear ho5 hg5 hl5 hc5 hm5 hS5
   refine hK.out _ _ HS5.out (fun hS0=> ?_)
   clear hK K
   simp only [Act.put]
   refine wpAnyH_take (i:=8) (v:= ?_) rfl (by kernel_rfl) (by kernel_rfl) (by kernel_rfl) (fun _ _ _ dk=>dk) (Or.inl ⟨by rfl,?_⟩) hS0 ?_
   rotate_left
   · (intro w' _;go_simp);try with_reducible rfl
   simp only [Act.put]
   refine wpAnyH_take (i:=9) (v:= ?_) rfl (by kernel_rfl) (by kernel_rfl) (by kernel_rfl) (fun _ _ _ dk=>dk) (Or.inl ⟨by rfl,?_⟩) hS0 ?_
   rotate_left
   · (intro w' _;go_simp);try with_reducible rfl
   simp only [Act.put]
   refine wpAnyH_ready (rs:= [10]) (by kernel_rfl) (by simp) ?_
   refine AllReadyH.cons rfl (fun K hK=> ?_) AllReadyH.nil
   go_simp
   refine hK.out _ _ (fun j v hj=>(World.cell?_of_block (a:=⟨w.heap.size,0+j,none⟩) (set_other _ _ _ _ _ Hn5.out)).trans (HS5.out j v hj)) (fun hS0=> ?_)
   clear hK K
   refine wpAnyH_done (by kernel_rfl) ?_ _
   clear d5 f5 hS0
   obtain⟨e0,e1,e2,e3,e4,e5,e6,e7⟩:=HD.out.1.cell8
   have eL:=HD.out.1.at_ hn (show 257 < 258 by decide)
   rw [cellV_last (HD.out.1.mb _ (List.getElem_mem hn))]at eL
   have fL:=HD.out.1.cells.free (n * 258+257)
   generalize w5.setCell ⟨dk,5,none⟩ (.slice X5 (ws.length+1) cap5)=w6 at *
   clear e0 e1 e2 e3 e6 e7
   go_wp2_with fail
   go_region
   have HL6:Hid (DevR (w6.setCell ⟨C,n * 258+257,none⟩ (.int .i64 ((ws.length:Int)+1))).drew (grow T w (w6.setCell ⟨C,n * 258+257,none⟩ (.int .i64 ((ws.length:Int)+1))).drew) dk C (.slice X5 (ws.length+1) cap5) hu tu cr (lastM M n (ws.length+1)) (ws++ [(n,padB bs)]) left dn∧Chg T w (w6.setCell ⟨C,n * 258+257,none⟩ (.int .i64 ((ws.length:Int)+1))).drew):=by
    have h1:=(HD.out.1.setLast hn (ws.length+1)).drew
    rw [show (((ws.length+1:Nat):Int))=(ws.length:Int)+1 by omega]at h1
    refine qh ⟨h1.mono ?_ ?_,(HD.out.2.set (.inl Hk.out.tc) _).drew⟩
    · rintro j (hj | hj)
      · exact .inl hj
      · exact .inr ⟨hj.1,by show j < (w6.setCell _ _).heap.size;rw [set_size];exact hj.2⟩
    · exact grow_lt Hf.out (HD.out.2.set (b:=C) (i:=n * 258+257) (.inl Hk.out.tc) (.int .i64 ((ws.length:Int)+1))).size
   clear e4 e5 eL fL
   go_wp2_with fail
   go_end0
   exact⟨rfl,_,HL6.out⟩
end
open Go.RowKit
section
variable {w : World} {T : Nat → Prop} {h C : Nat} {wv : Value} {tu cr : Nat} {M : List MCell} {ws : List (Nat × List Int)} {left : Int} {dn : Bool}
theorem settle_sync (k:DevR w T h C wv (mHurts M) tu cr M ws left dn) (hl:ws.length≤1000000000):
 Calls Tryz.prog 78 #[.pointer (some ⟨h,0,none⟩),.func (.func 104) #[] #[]] w fun e w'=>e= .returned (.tuple #[])∧
  DevR w' (grow T w w') h C (.slice none 0 0) (mHurts (settleM M ws (fun _=>8) ws.length)) tu cr (settleM M ws (fun _=>8) ws.length) [] left dn∧Chg T w w':=by
 have c5:=k.cell8.2.2.2.2.2.1
 obtain⟨X,cap,hwv,hcap,hmax⟩:=own_slice k.own
 have hwv':wv= .slice X ws.length cap:=hwv
 rw [hwv']at c5
 have Hk:=qh k
 have Hf:=qh k.foot
 clear k hwv
 go_enter Tryz.func78,Tryz.ntmps78
 go_wp2_with fail
 go_loopg [11] ws.length (fun g i wx=> ∃k:Nat,g=ws.length - k∧k≤ws.length∧i= .int .i64 (k:Int)∧Hid (DevR wx (grow T w wx) h C wv (mHurts (settleM M ws (fun _=>8) k)) tu cr (settleM M ws (fun _=>8) k) ws left dn)∧Hid (Chg T w wx))
 case atStart=>exact⟨0,rfl,by omega,rfl,qh (Hk.out.mono (fun _ hj=> .inl hj) (grow_lt Hf.out (Nat.le_refl _))),qh (Chg.refl _ _)⟩
 case round=>
  obtain⟨k,hgk,hk,rfl,hR,hC⟩:=hrel
  have Hgk:=qh hgk;clear hgk
  by_cases hlt:k < ws.length
  · obtain⟨g,cap',hg1,hg2,hg3,hg4,hrg⟩:=range_write hR.out.own (BlkOk.wr hR.out) hlt
    rw [hwv']at hg1
    injection hg1 with hX hl0 hcc
    subst hX hcc
    clear hl0
    have Hrg:=qh hrg
    have Hp:=qh (hR.out.wb _ (List.getElem_mem hlt))
    have Hpk:=qh (List.getElem?_eq_getElem hlt)
    generalize ws[k]=p at Hrg Hp Hpk
    have hz:=zeroWrite
    have hst:=fun w'=>store_write w' Hp.out.2
    have hlen:=writeV_len Hp.out.2
    clear hg2 hg3 hg4 hrg
    go_wp2_with fail
    refine wp_load_mid 165 (.tmp 14) rfl g (k * 257) (by simp [Act.eval]) (writeV p) _ Hrg.out Tryz.underlying165 rfl (by rw [sizeWrite,writeV_len Hp.out.2]) ?_
    have hrange:=World.rangeAt_setCells_same
    have hbn:=below_new wr (.cells (writeV p).toArray 165)
    have hB:=BlockIs.made wr 165 (writeV p).toArray
    have H2:=qh (And.intro ((hR.out.below hbn).drew) (And.intro hB hbn))
    have Hrw:Hid ((wr.alloc (.cells (writeV p).toArray 165)).drew.rangeAt wr.heap.size 0 (writeV p)):=qh (fun j v hj=>by rw [Nat.zero_add];exact(hB.cell j).trans (by rw [List.getElem?_toArray];exact hj))
    have hsz:(wr.alloc (.cells (writeV p).toArray 165)).heap.size=wr.heap.size+1:=by simp
    have Hsz:=qh hsz
    have HS:=qh (store_any H2.out.1 p Hp.out.1 Hp.out.2 8 (Nat.le_refl 8) (Nat.le_trans (mHurts_le _) H2.out.1.many) (fun hh=>mHurts_pos Hp.out.1 hh))
    clear hrange hbn hB hsz
    go_wp2_with fail
    clear hz hst hlen
    generalize (wr.alloc (.cells (writeV p).toArray 165))=w2 at *
    refine wp_region_held_drew (S:=fun w'=>w'.rangeAt wr.heap.size 0 (writeV p)) (by kernel_rfl) Hrw.out (fun hS0=> ?_)
    refine wpAnyH_take (i:=0) (v:= ?_) rfl (by kernel_rfl) (by kernel_rfl) (by kernel_rfl) (fun _ _ _ h=>h) (Or.inl ⟨by rfl,?_⟩) hS0 ?_
    rotate_left
    · (intro w' _;go_simp);try with_reducible rfl
    simp only [Act.put,List.setIfInBounds_toArray]
    refine wpAnyH_take (i:=1) rfl (by kernel_rfl) (by kernel_rfl) (by kernel_rfl) (fun _ _ _ h=>h) (yieldsIf_load_mid (by rfl) 165 (.tmp 5) rfl wr.heap.size 0 rfl (writeV p) _ (fun w' hS=>hS) Tryz.underlying165 rfl (by rw [sizeWrite,writeV_len Hp.out.2])) hS0 ?_
    simp only [Act.put]
    refine wpAnyH_take (i:=2) (v:= ?_) rfl (by kernel_rfl) (by kernel_rfl) (by kernel_rfl) (fun _ _ _ h=>h) (Or.inl ⟨by rfl,?_⟩) hS0 ?_
    rotate_left
    · (intro w' _;go_simp);try with_reducible rfl
    simp only [Act.put]
    refine wpAnyH_take (i:=3) (v:= ?_) rfl (by kernel_rfl) (by kernel_rfl) (by kernel_rfl) (fun _ _ _ h=>h) (Or.inl ⟨by rfl,?_⟩) hS0 ?_
    rotate_left
    · (intro w' _;go_simp);try with_reducible rfl
    simp only [Act.put]
    refine wpAnyH_ready (rs:= [4]) (by kernel_rfl) (by simp) ?_
    refine AllReadyH.cons rfl (fun K hK=> ?_) AllReadyH.nil
    go_simp
    go_wp2_with (first | (go_at_call 104;refine(fate_sync k _).mono ?_;rintro e w' ⟨rfl,rfl⟩))
    refine hK.out _ _ hS0 (fun _=> ?_)
    clear hK K
    refine wpAnyH_ready (rs:= [5]) (by kernel_rfl) (by simp) ?_
    refine AllReadyH.cons rfl (fun K hK=> ?_) AllReadyH.nil
    go_simp
    go_wp2_with (first | (go_at_call 111;refine HS.out.mono ?_;rintro e w3 ⟨rfl,hd3,hc3⟩;have Hd3:=qh hd3;have Hc3:=qh hc3;clear hd3 hc3))
    have hBw: ¬grow T w wr wr.heap.size:=by
     rintro(hj | hj)
     · have h1:=Hf.out _ hj;have h2:=hC.out.size;omega
     · exact absurd hj.2 (Nat.lt_irrefl _)
    have hB3:w3.heap[wr.heap.size]? =w2.drew.heap[wr.heap.size]? :=Hc3.out.block _ (by show wr.heap.size < w2.heap.size;rw [Hsz.out];omega) hBw
    refine hK.out _ _ (fun j v hj=>(World.cell?_of_block hB3).trans (Hrw.out j v hj)) (fun _=> ?_)
    clear hK K
    refine wpAnyH_done (by kernel_rfl) ?_ _
    have b0:w3.cell? ⟨wr.heap.size,0,none⟩=some (.int .i64 (p.1:Int)):=(World.cell?_of_block (a:=⟨wr.heap.size,0,none⟩) hB3).trans (H2.out.2.1.cell 0)
    have c4:=Hd3.out.cell8.2.2.2.2.1
    have cL:=Hd3.out.at_ (n:=p.1) (by rw [storedM_len];exact Hp.out.1) (show 257 < 258 by decide)
    rw [cellV_last (Hd3.out.mb _ (List.getElem_mem _))]at cL
    have fL:=Hd3.out.cells.free (p.1 * 258+257)
    rw [storedM_len,settleM_len]at c4
    have hp1:p.1 < M.length:=by have:=Hp.out.1;rw [settleM_len]at this;exact this
    have hM:M.length≤4096:=Hk.out.many
    have HE:=qh (settle_step Hp.out.1 hC.out H2.out.2.2 Hf.out Hk.out.tc Hd3.out Hc3.out)
    clear hB3 hBw
    go_wp2_with fail
    go_region
    clear b0 c4 cL fL
    generalize (w3.setCell ⟨C,p.1 * 258+257,none⟩ (.int .i64 0)).drew=w4 at *
    go_wp2_with fail
    go_roundg (ws.length - (k+1))
    case measure=>rw [Hgk.out];omega
    case rel=>
     have hE:=HE.out
     rw [← settleM_next (M:=M) (f:=fun _=>8) Hpk.out]at hE
     exact⟨k+1,rfl,by omega,by go_num,qh hE.1,qh hE.2⟩
  · obtain rfl:k=ws.length:=by omega
    obtain⟨c0,c1,c2,c3,c4,c5',c6,c7⟩:=hR.out.cell8
    have f5:=hR.out.blk.free 5
    have hN:=qh hR.out.noWaits
    have hN2:=qh (hC.out.set (b:=h) (i:=5) (.inl Hk.out.self) (.slice none 0 0))
    clear c0 c1 c2 c3 c4 c6 c7
    go_wp2_with fail
    go_end0
    exact⟨rfl,hN.out.mono (fun j hj=>by
     rcases hj with hj | hj
     · exact .inl hj
     · exact .inr ⟨hj.1,by rw [set_size];exact hj.2⟩) (grow_lt Hf.out hN2.out.size),hN2.out⟩
end
open Go.RowKit
section
variable {w : World} {T : Nat → Prop} {dk C : Nat} {wv : Value} {hu tu cr : Nat} {M : List MCell} {ws : List (Nat × List Int)} {left : Int} {dn : Bool}
theorem write1_any (k:DevR w T dk C wv hu tu cr M ws left dn) (n:Nat) (hn:n < M.length) (A:Option Addr) (bs:List Int) (c:Nat) (hb:BytesAt w A bs) (hl:bs.length≤256) (hws:ws.length≤1000000000) (bd bn bb:Nat)
 (cd:w.cell? ⟨bd,0,none⟩=some (.pointer (some ⟨dk,0,none⟩))) (cn:w.cell? ⟨bn,0,none⟩=some (.int .i64 (n:Int))) (cb:w.cell? ⟨bb,0,none⟩=some (.slice A bs.length c)):
 Calls Tryz.prog 100 #[.pointer (some ⟨bd,0,none⟩),.pointer (some ⟨bn,0,none⟩),.pointer (some ⟨bb,0,none⟩)] w fun e w'=>e= .returned (.tuple #[])∧
  ∃wv',DevR w' (grow T w w') dk C wv' hu tu cr (lastM M n (ws.length+1)) (ws++ [(n,padB bs)]) left dn∧Chg T w w':=by
 have HW:=qh (wait_any k n hn A bs c hb hl hws)
 clear k hb
 go_enter Tryz.func100,Tryz.ntmps100
 go_wp2_with fail
 refine HW.out.mono ?_
 rintro e w' ⟨rfl,hd⟩
 have HD:=qh hd
 clear hd
 go_wp2_with fail
 go_end0
 exact⟨rfl,HD.out⟩
theorem sync1_any (k:DevR w T dk C wv (mHurts M) tu cr M ws left dn) (hws:ws.length≤1000000000) (bd:Nat) (cd:w.cell? ⟨bd,0,none⟩=some (.pointer (some ⟨dk,0,none⟩))):
 Calls Tryz.prog 103 #[.pointer (some ⟨bd,0,none⟩)] w fun e w'=>e= .returned (.tuple #[])∧
  DevR w' (grow T w w') dk C (.slice none 0 0) (mHurts (settleM M ws (fun _=>8) ws.length)) tu cr (settleM M ws (fun _=>8) ws.length) [] left dn∧Chg T w w':=by
 have HW:=qh (settle_sync k hws)
 clear k
 go_enter Tryz.func103,Tryz.ntmps103
 go_wp2_with fail
 refine HW.out.mono ?_
 rintro e w' ⟨rfl,hd⟩
 have HD:=qh hd
 clear hd
 go_wp2_with fail
 go_end0
 exact⟨rfl,HD.out⟩
theorem turn_trips (σ:SenD) (hG:GlD σ w) (hT: ∀b,σ.blk b→ ¬T b) (k:DevR w T dk C wv hu tu cr M ws 1 dn) (htu:tu≤1000000000) (hcr:cr≤1000000000) (f:Value):
 Calls Tryz.prog 99 #[.pointer (some ⟨dk,0,none⟩),f] w fun e w'=>e= .returned ((DErr.ref ((tu:Int)+1)).val σ)∧DevR w' T dk C wv hu tu (cr+1) M ws 1 true∧Chg T w w':=by
 have c6:=k.cell8.2.2.2.2.2.2.1
 have HF:=qh (fall_any k hcr)
 have k2:=k.falls
 have hc:Chg T w ((w.setCell ⟨dk,7,none⟩ (.bool true)).setCell ⟨dk,2,none⟩ (.int .i64 ((cr+1:Nat):Int))):=((Chg.refl T w).set (.inl k.self) _).set (.inl k.self) _
 have hG2:=hG.keep (w':=(w.setCell ⟨dk,7,none⟩ (.bool true)).setCell ⟨dk,2,none⟩ (.int .i64 ((cr+1:Nat):Int))) (fun b hb=>hc.block b (hG.lt hb) (hT b hb))
 have H2:=qh (And.intro k2 (And.intro hc hG2))
 clear k k2 hc hG2
 go_enter Tryz.func99,Tryz.ntmps99
 go_wp2_with fail
 refine HF.out.mono ?_
 rintro e w' ⟨rfl,hw'⟩
 rw [← hw']at H2
 clear hw' HF c6
 have c1:=H2.out.1.cell8.2.1
 have g1:=H2.out.2.2.dn
 unfold errK at g1
 go_wp2_with fail
 go_quiet (fail)
 go_wp2_with fail
 go_ret
 exact⟨rfl,H2.out.1.drewN _,H2.out.2.1.drewN _⟩
theorem DevR.turns (k:DevR w T dk C wv hu tu cr M ws left dn) (v:Int):DevR ((w.setCell ⟨dk,6,none⟩ (.int .i64 v)).setCell ⟨dk,1,none⟩ (.int .i64 ((tu:Int)+1))) T dk C wv hu (tu+1) cr M ws v dn∧Chg T w ((w.setCell ⟨dk,6,none⟩ (.int .i64 v)).setCell ⟨dk,1,none⟩ (.int .i64 ((tu:Int)+1))):=
 ⟨k.own8 (by rw [set_size,set_size]) (fun b hb=>by rw [set_other _ _ _ _ _ hb,set_other _ _ _ _ _ hb]) ((k.blk.set1 6 (.int .i64 v)).set1 1 (.int .i64 ((tu:Int)+1))),((Chg.refl T w).set (.inl k.self) _).set (.inl k.self) _⟩
def nextLeft (left:Int):Int:=if left=0 then 0 else left - 1
theorem grow_step {S:Nat→Prop} {w1 w2:World} (h1:Chg S w w1) (hs:w1.heap.size=w.heap.size): ∀j,grow S w1 w2 j→grow S w w2 j:=by
 have:=h1.size
 rintro j (hj | hj)
 · exact .inl hj
 · exact .inr ⟨by omega,hj.2⟩
theorem turn_write (k:DevR w T dk C wv hu tu cr M ws left dn) (htu:tu≤1000000000) (hl0:0≤left) (hl1:left≤9223372036854775807) (hne:left≠1) (n:Nat) (hn:n < M.length) (A:Option Addr) (bs:List Int) (c:Nat) (hb:BytesAt w A bs) (hA:bs≠ []→ ∀a,A=some a→ ¬T a.block) (hl:bs.length≤256) (hws:ws.length≤1000000000) (bd bn bb:Nat)
 (cd:w.cell? ⟨bd,0,none⟩=some (.pointer (some ⟨dk,0,none⟩))∧ ¬T bd) (cn:w.cell? ⟨bn,0,none⟩=some (.int .i64 (n:Int))∧ ¬T bn) (cb:w.cell? ⟨bb,0,none⟩=some (.slice A bs.length c)∧ ¬T bb):
 Calls Tryz.prog 99 #[.pointer (some ⟨dk,0,none⟩),.func (.func 100) #[] #[.pointer (some ⟨bd,0,none⟩),.pointer (some ⟨bn,0,none⟩),.pointer (some ⟨bb,0,none⟩)]] w fun e w'=>e= .returned .nilIface∧
  ∃wv',DevR w' (grow T w w') dk C wv' hu (tu+1) cr (lastM M n (ws.length+1)) (ws++ [(n,padB bs)]) (nextLeft left) dn∧Chg T w w':=by
 obtain⟨c0,c1,c2,c3,c4,c5,c6,c7⟩:=k.cell8
 have f1:=k.blk.free 1
 have f6:=k.blk.free 6
 have Hf:=qh k.foot
 have HP: ∀v:Int,Hid (DevR ((w.setCell ⟨dk,6,none⟩ (.int .i64 v)).setCell ⟨dk,1,none⟩ (.int .i64 ((tu:Int)+1))) T dk C wv hu (tu+1) cr M ws v dn∧Chg T w ((w.setCell ⟨dk,6,none⟩ (.int .i64 v)).setCell ⟨dk,1,none⟩ (.int .i64 ((tu:Int)+1)))∧((w.setCell ⟨dk,6,none⟩ (.int .i64 v)).setCell ⟨dk,1,none⟩ (.int .i64 ((tu:Int)+1))).heap.size=w.heap.size):=fun v=>qh ⟨(k.turns v).1,(k.turns v).2,by rw [set_size,set_size]⟩
 have Hcell:Hid (∀w',Chg T w w'→ ∀(b:Nat) (v:Value),w.cell? ⟨b,0,none⟩=some v∧ ¬T b→w'.cell? ⟨b,0,none⟩=some v):=qh fun w' hc b v ⟨h1,h2⟩=>(World.cell?_of_block (a:=⟨b,0,none⟩) (hc.block b (World.block_lt_of_cell? w _ h1) h2)).trans h1
 have Hb:Hid (∀w',Chg T w w'→BytesAt w' A bs):=qh fun w' hc=>⟨hb.1,fun hz=>by
  obtain⟨b,off,e,h1⟩:=hb.2 hz
  exact⟨b,off,e,fun i hi=>(World.cell?_of_block (a:=⟨b,off+i,none⟩) (hc.block b (World.block_lt_of_cell? w _ (h1 i hi)) (hA hz _ e))).trans (h1 i hi)⟩⟩
 have Hcd:=qh cd
 have Hcn:=qh cn
 have Hcb:=qh cb
 clear c0 c2 c3 c4 c5 c7 k hb hA cd cn cb
 by_cases h0:left=0
 · have H1:=HP 0
   have hC:=qh H1.out.2.1
   have hS:=qh H1.out.2.2
   clear HP
   subst h0
   go_enter Tryz.func99,Tryz.ntmps99
   go_wp2_with fail
   refine(write1_any H1.out.1 n hn A bs c (Hb.out _ H1.out.2.1) hl hws bd bn bb (Hcell.out _ H1.out.2.1 bd _ Hcd.out) (Hcell.out _ H1.out.2.1 bn _ Hcn.out) (Hcell.out _ H1.out.2.1 bb _ Hcb.out)).mono ?_
   rintro e w' ⟨rfl,hd⟩
   have HD:=qh hd
   clear hd H1
   go_wp2_with fail
   go_ret
   obtain⟨wv',hd,hc⟩:=HD.out
   exact⟨rfl,wv',by unfold nextLeft;rw [if_pos rfl];exact hd.mono (grow_step hC.out hS.out) (grow_lt Hf.out (hC.out.trans (hc.mono (fun _ hj=> .inl hj))).size),hC.out.trans (hc.mono (fun _ hj=> .inl hj))⟩
 · have H1:=HP (left - 1)
   have hC:=qh H1.out.2.1
   have hS:=qh H1.out.2.2
   clear HP
   go_enter Tryz.func99,Tryz.ntmps99
   go_wp2_with fail
   refine(write1_any H1.out.1 n hn A bs c (Hb.out _ H1.out.2.1) hl hws bd bn bb (Hcell.out _ H1.out.2.1 bd _ Hcd.out) (Hcell.out _ H1.out.2.1 bn _ Hcn.out) (Hcell.out _ H1.out.2.1 bb _ Hcb.out)).mono ?_
   rintro e w' ⟨rfl,hd⟩
   have HD:=qh hd
   clear hd H1
   go_wp2_with fail
   go_ret
   obtain⟨wv',hd,hc⟩:=HD.out
   exact⟨rfl,wv',by unfold nextLeft;rw [if_neg h0];exact hd.mono (grow_step hC.out hS.out) (grow_lt Hf.out (hC.out.trans (hc.mono (fun _ hj=> .inl hj))).size),hC.out.trans (hc.mono (fun _ hj=> .inl hj))⟩
theorem turn_sync (k:DevR w T dk C wv (mHurts M) tu cr M ws left dn) (htu:tu≤1000000000) (hl0:0≤left) (hl1:left≤9223372036854775807) (hne:left≠1) (hws:ws.length≤1000000000) (bd:Nat) (cd:w.cell? ⟨bd,0,none⟩=some (.pointer (some ⟨dk,0,none⟩))∧ ¬T bd):
 Calls Tryz.prog 99 #[.pointer (some ⟨dk,0,none⟩),.func (.func 103) #[] #[.pointer (some ⟨bd,0,none⟩)]] w fun e w'=>e= .returned .nilIface∧
  DevR w' (grow T w w') dk C (.slice none 0 0) (mHurts (settleM M ws (fun _=>8) ws.length)) (tu+1) cr (settleM M ws (fun _=>8) ws.length) [] (nextLeft left) dn∧Chg T w w':=by
 obtain⟨c0,c1,c2,c3,c4,c5,c6,c7⟩:=k.cell8
 have f1:=k.blk.free 1
 have f6:=k.blk.free 6
 have Hf:=qh k.foot
 have HP: ∀v:Int,Hid (DevR ((w.setCell ⟨dk,6,none⟩ (.int .i64 v)).setCell ⟨dk,1,none⟩ (.int .i64 ((tu:Int)+1))) T dk C wv (mHurts M) (tu+1) cr M ws v dn∧Chg T w ((w.setCell ⟨dk,6,none⟩ (.int .i64 v)).setCell ⟨dk,1,none⟩ (.int .i64 ((tu:Int)+1)))∧((w.setCell ⟨dk,6,none⟩ (.int .i64 v)).setCell ⟨dk,1,none⟩ (.int .i64 ((tu:Int)+1))).heap.size=w.heap.size):=fun v=>qh ⟨(k.turns v).1,(k.turns v).2,by rw [set_size,set_size]⟩
 have Hcell:Hid (∀w',Chg T w w'→ ∀(b:Nat) (v:Value),w.cell? ⟨b,0,none⟩=some v∧ ¬T b→w'.cell? ⟨b,0,none⟩=some v):=qh fun w' hc b v ⟨h1,h2⟩=>(World.cell?_of_block (a:=⟨b,0,none⟩) (hc.block b (World.block_lt_of_cell? w _ h1) h2)).trans h1
 have Hcd:=qh cd
 clear c0 c2 c3 c4 c5 c7 k cd
 by_cases h0:left=0
 · have H1:=HP 0
   have hC:=qh H1.out.2.1
   have hS:=qh H1.out.2.2
   clear HP
   subst h0
   go_enter Tryz.func99,Tryz.ntmps99
   go_wp2_with fail
   refine(sync1_any H1.out.1 hws bd (Hcell.out _ H1.out.2.1 bd _ Hcd.out)).mono ?_
   rintro e w' ⟨rfl,hd⟩
   have HD:=qh hd
   clear hd H1
   go_wp2_with fail
   go_ret
   obtain⟨hd,hc⟩:=HD.out
   exact⟨rfl,by unfold nextLeft;rw [if_pos rfl];exact hd.mono (grow_step hC.out hS.out) (grow_lt Hf.out (hC.out.trans (hc.mono (fun _ hj=> .inl hj))).size),hC.out.trans (hc.mono (fun _ hj=> .inl hj))⟩
 · have H1:=HP (left - 1)
   have hC:=qh H1.out.2.1
   have hS:=qh H1.out.2.2
   clear HP
   go_enter Tryz.func99,Tryz.ntmps99
   go_wp2_with fail
   refine(sync1_any H1.out.1 hws bd (Hcell.out _ H1.out.2.1 bd _ Hcd.out)).mono ?_
   rintro e w' ⟨rfl,hd⟩
   have HD:=qh hd
   clear hd H1
   go_wp2_with fail
   go_ret
   obtain⟨hd,hc⟩:=HD.out
   exact⟨rfl,by unfold nextLeft;rw [if_neg h0];exact hd.mono (grow_step hC.out hS.out) (grow_lt Hf.out (hC.out.trans (hc.mono (fun _ hj=> .inl hj))).size),hC.out.trans (hc.mono (fun _ hj=> .inl hj))⟩
end
open Go.RowKit
section
variable {w : World} {T : Nat → Prop} {h C : Nat} {wv : Value} {tu cr : Nat} {M : List MCell} {ws : List (Nat × List Int)} {left : Int} {dn : Bool}
theorem settle_wake (k:DevR w T h C wv (mHurts M) tu cr M ws left dn) (hl:ws.length≤1000000000) (stay torn sectors:Int) (part bt bp bs:Nat) (hp:part=(sectors % 9).toNat) (ht:w.cell? ⟨bt,0,none⟩=some (.int .i64 torn)∧ ¬T bt) (hpt:w.cell? ⟨bp,0,none⟩=some (.int .i64 (part:Int))∧ ¬T bp) (hst:w.cell? ⟨bs,0,none⟩=some (.int .i64 stay)∧ ¬T bs):
 Calls Tryz.prog 78 #[.pointer (some ⟨h,0,none⟩),.func (.func 79) #[] #[.pointer (some ⟨bt,0,none⟩),.pointer (some ⟨bp,0,none⟩),.pointer (some ⟨bs,0,none⟩)]] w fun e w'=>e= .returned (.tuple #[])∧
  DevR w' (grow T w w') h C (.slice none 0 0) (mHurts (settleM M ws (fate stay torn sectors) ws.length)) tu cr (settleM M ws (fate stay torn sectors) ws.length) [] left dn∧Chg T w w':=by
 have c5:=k.cell8.2.2.2.2.2.1
 obtain⟨X,cap,hwv,hcap,hmax⟩:=own_slice k.own
 have hwv':wv= .slice X ws.length cap:=hwv
 rw [hwv']at c5
 have Hk:=qh k
 have Hf:=qh k.foot
 have Hx:Hid (∀w',Chg T w w'→w'.cell? ⟨bt,0,none⟩=some (.int .i64 torn)∧w'.cell? ⟨bp,0,none⟩=some (.int .i64 (part:Int))∧w'.cell? ⟨bs,0,none⟩=some (.int .i64 stay)):=qh fun w' hc=>
  have hh: ∀(b:Nat) (v:Value),w.cell? ⟨b,0,none⟩=some v∧ ¬T b→w'.cell? ⟨b,0,none⟩=some v:=fun b v ⟨h1,h2⟩=>(World.cell?_of_block (a:=⟨b,0,none⟩) (hc.block b (World.block_lt_of_cell? w _ h1) h2)).trans h1
  ⟨hh _ _ ht,hh _ _ hpt,hh _ _ hst⟩
 clear ht hpt hst
 clear k hwv
 go_enter Tryz.func78,Tryz.ntmps78
 go_wp2_with fail
 go_loopg [11] ws.length (fun g i wx=> ∃k:Nat,g=ws.length - k∧k≤ws.length∧i= .int .i64 (k:Int)∧Hid (DevR wx (grow T w wx) h C wv (mHurts (settleM M ws (fate stay torn sectors) k)) tu cr (settleM M ws (fate stay torn sectors) k) ws left dn)∧Hid (Chg T w wx))
 case atStart=>exact⟨0,rfl,by omega,rfl,qh (Hk.out.mono (fun _ hj=> .inl hj) (grow_lt Hf.out (Nat.le_refl _))),qh (Chg.refl _ _)⟩
 case round=>
  obtain⟨k,hgk,hk,rfl,hR,hC⟩:=hrel
  have Hgk:=qh hgk;clear hgk
  by_cases hlt:k < ws.length
  · obtain⟨g,cap',hg1,hg2,hg3,hg4,hrg⟩:=range_write hR.out.own (BlkOk.wr hR.out) hlt
    rw [hwv']at hg1
    injection hg1 with hX hl0 hcc
    subst hX hcc
    clear hl0
    have Hrg:=qh hrg
    have Hp:=qh (hR.out.wb _ (List.getElem_mem hlt))
    have Hpk:=qh (List.getElem?_eq_getElem hlt)
    generalize ws[k]=p at Hrg Hp Hpk
    have hz:=zeroWrite
    have hst:=fun w'=>store_write w' Hp.out.2
    have hlen:=writeV_len Hp.out.2
    clear hg2 hg3 hg4 hrg
    go_wp2_with fail
    refine wp_load_mid 165 (.tmp 14) rfl g (k * 257) (by simp [Act.eval]) (writeV p) _ Hrg.out Tryz.underlying165 rfl (by rw [sizeWrite,writeV_len Hp.out.2]) ?_
    have hrange:=World.rangeAt_setCells_same
    have hbn:=below_new wr (.cells (writeV p).toArray 165)
    have hB:=BlockIs.made wr 165 (writeV p).toArray
    have H2:=qh (And.intro ((hR.out.below hbn).drew) (And.intro hB hbn))
    have Hrw:Hid ((wr.alloc (.cells (writeV p).toArray 165)).drew.rangeAt wr.heap.size 0 (writeV p)):=qh (fun j v hj=>by rw [Nat.zero_add];exact(hB.cell j).trans (by rw [List.getElem?_toArray];exact hj))
    have hsz:(wr.alloc (.cells (writeV p).toArray 165)).heap.size=wr.heap.size+1:=by simp
    have Hsz:=qh hsz
    have HS:=qh (store_any H2.out.1 p Hp.out.1 Hp.out.2 (fate stay torn sectors k) (fate_le _ _ _ _) (Nat.le_trans (mHurts_le _) H2.out.1.many) (fun hh=>mHurts_pos Hp.out.1 hh))
    clear hrange hbn hB hsz
    go_wp2_with fail
    clear hz hst hlen
    generalize (wr.alloc (.cells (writeV p).toArray 165))=w2 at *
    refine wp_region_held_drew (S:=fun w'=>w'.rangeAt wr.heap.size 0 (writeV p)) (by kernel_rfl) Hrw.out (fun hS0=> ?_)
    refine wpAnyH_take (i:=0) (v:= ?_) rfl (by kernel_rfl) (by kernel_rfl) (by kernel_rfl) (fun _ _ _ h=>h) (Or.inl ⟨by rfl,?_⟩) hS0 ?_
    rotate_left
    · (intro w' _;go_simp);try with_reducible rfl
    simp only [Act.put,List.setIfInBounds_toArray]
    refine wpAnyH_take (i:=1) rfl (by kernel_rfl) (by kernel_rfl) (by kernel_rfl) (fun _ _ _ h=>h) (yieldsIf_load_mid (by rfl) 165 (.tmp 5) rfl wr.heap.size 0 rfl (writeV p) _ (fun w' hS=>hS) Tryz.underlying165 rfl (by rw [sizeWrite,writeV_len Hp.out.2])) hS0 ?_
    simp only [Act.put]
    refine wpAnyH_take (i:=2) (v:= ?_) rfl (by kernel_rfl) (by kernel_rfl) (by kernel_rfl) (fun _ _ _ h=>h) (Or.inl ⟨by rfl,?_⟩) hS0 ?_
    rotate_left
    · (intro w' _;go_simp);try with_reducible rfl
    simp only [Act.put]
    refine wpAnyH_take (i:=3) (v:= ?_) rfl (by kernel_rfl) (by kernel_rfl) (by kernel_rfl) (fun _ _ _ h=>h) (Or.inl ⟨by rfl,?_⟩) hS0 ?_
    rotate_left
    · (intro w' _;go_simp);try with_reducible rfl
    simp only [Act.put]
    refine wpAnyH_ready (rs:= [4]) (by kernel_rfl) (by simp) ?_
    refine AllReadyH.cons rfl (fun K hK=> ?_) AllReadyH.nil
    go_simp
    obtain⟨d1,d2,d3⟩:=Hx.out w2.drew (hC.out.on (w2:=w2.drew) H2.out.2.2.drew)
    have HF:=qh (fate_wake k (by omega) stay torn sectors part hp bt bp bs _ d1 d2 d3)
    clear d1 d2 d3
    go_wp2_with (first | (go_at_call 79;refine HF.out.mono ?_;rintro e w' ⟨rfl,rfl⟩))
    refine hK.out _ _ hS0 (fun _=> ?_)
    clear hK K
    refine wpAnyH_ready (rs:= [5]) (by kernel_rfl) (by simp) ?_
    refine AllReadyH.cons rfl (fun K hK=> ?_) AllReadyH.nil
    go_simp
    go_wp2_with (first | (go_at_call 111;refine HS.out.mono ?_;rintro e w3 ⟨rfl,hd3,hc3⟩;have Hd3:=qh hd3;have Hc3:=qh hc3;clear hd3 hc3))
    have hBw: ¬grow T w wr wr.heap.size:=by
     rintro(hj | hj)
     · have h1:=Hf.out _ hj;have h2:=hC.out.size;omega
     · exact absurd hj.2 (Nat.lt_irrefl _)
    have hB3:w3.heap[wr.heap.size]? =w2.drew.heap[wr.heap.size]? :=Hc3.out.block _ (by show wr.heap.size < w2.heap.size;rw [Hsz.out];omega) hBw
    refine hK.out _ _ (fun j v hj=>(World.cell?_of_block hB3).trans (Hrw.out j v hj)) (fun _=> ?_)
    clear hK K
    refine wpAnyH_done (by kernel_rfl) ?_ _
    have b0:w3.cell? ⟨wr.heap.size,0,none⟩=some (.int .i64 (p.1:Int)):=(World.cell?_of_block (a:=⟨wr.heap.size,0,none⟩) hB3).trans (H2.out.2.1.cell 0)
    have c4:=Hd3.out.cell8.2.2.2.2.1
    have cL:=Hd3.out.at_ (n:=p.1) (by rw [storedM_len];exact Hp.out.1) (show 257 < 258 by decide)
    rw [cellV_last (Hd3.out.mb _ (List.getElem_mem _))]at cL
    have fL:=Hd3.out.cells.free (p.1 * 258+257)
    rw [storedM_len,settleM_len]at c4
    have hp1:p.1 < M.length:=by have:=Hp.out.1;rw [settleM_len]at this;exact this
    have hM:M.length≤4096:=Hk.out.many
    have HE:=qh (settle_step Hp.out.1 hC.out H2.out.2.2 Hf.out Hk.out.tc Hd3.out Hc3.out)
    clear hB3 hBw
    go_wp2_with fail
    go_region
    clear b0 c4 cL fL
    generalize (w3.setCell ⟨C,p.1 * 258+257,none⟩ (.int .i64 0)).drew=w4 at *
    go_wp2_with fail
    go_roundg (ws.length - (k+1))
    case measure=>rw [Hgk.out];omega
    case rel=>
     have hE:=HE.out
     rw [← settleM_next (M:=M) (f:=fate stay torn sectors) Hpk.out]at hE
     exact⟨k+1,rfl,by omega,by go_num,qh hE.1,qh hE.2⟩
  · obtain rfl:k=ws.length:=by omega
    obtain⟨c0,c1,c2,c3,c4,c5',c6,c7⟩:=hR.out.cell8
    have f5:=hR.out.blk.free 5
    have hN:=qh hR.out.noWaits
    have hN2:=qh (hC.out.set (b:=h) (i:=5) (.inl Hk.out.self) (.slice none 0 0))
    clear c0 c1 c2 c3 c4 c6 c7
    go_wp2_with fail
    go_end0
    exact⟨rfl,hN.out.mono (fun j hj=>by
     rcases hj with hj | hj
     · exact .inl hj
     · exact .inr ⟨hj.1,by rw [set_size];exact hj.2⟩) (grow_lt Hf.out hN2.out.size),hN2.out⟩
end
open Go.RowKit
def MCell.cell (m:MCell):List Int × Bool:=(m.bs,m.hurt)
section
variable {D : DM} {hu tu cr : Nat} {M : List MCell} {ws : List (Nat × List Int)} {left : Int} {dn : Bool}
theorem DevL.cells (l:DevL D hu tu cr M ws left dn):D.cells=M.map MCell.cell:=by
 apply List.ext_getElem?
 intro n
 rw [List.getElem?_map]
 cases h:M[n]? with
 | none=>
   rw [List.getElem?_eq_none_iff]at h
   rw [List.getElem?_eq_none (by have:=l.len;omega)];rfl
 | some m=>exact(l.mm n m h).1
theorem hurts_cells (M:List MCell):hurts (M.map MCell.cell)=mHurts M:=by unfold hurts mHurts;rw [List.countP_map];rfl
theorem DevL.mk' {M:List MCell} (hc:D.cells=M.map MCell.cell) (hl: ∀(n:Nat) m,M[n]? =some m→m.last=lastOf D.waits n) (ha:D.down=false→left=D.armed) (hb:0≤left∧left≤9223372036854775807) (h0:0 < M.length):DevL D (mHurts M) D.turns D.crashes M D.waits left D.down:=
 ⟨by rw [hc,hurts_cells],rfl,rfl,by rw [hc,List.length_map],fun n m h=>⟨by rw [hc,List.getElem?_map,h];rfl,hl n m h⟩,rfl,rfl,ha,hb,h0⟩
theorem map_set_last (M:List MCell) (n x:Nat):(M.set n { M.getD n default with last:=x }).map MCell.cell=M.map MCell.cell:=by
 by_cases hn:n < M.length
 · rw [List.map_set,getD_at hn]
   have:MCell.cell { M[n]with last:=x } =(M.map MCell.cell)[n]'(by rw [List.length_map];exact hn):=by rw [List.getElem_map];rfl
   rw [this,List.set_getElem_self]
 · rw [List.set_eq_of_length_le (by omega)]
theorem map_stored {M:List MCell} {p:Nat × List Int} {s:Nat} (hn:p.1 < M.length):(storedM M p s).map MCell.cell=(M.map MCell.cell).set p.1 (storeS ((M.map MCell.cell).getD p.1 ([],false)) p.2 s):=by
 unfold storedM
 rw [List.map_set]
 congr 1
 rw [getD_at hn,List.getD_eq_getElem?_getD,List.getElem?_map,List.getElem?_eq_getElem hn]
 rfl
theorem settle_cells {M:List MCell} {ws:List (Nat × List Int)} (f:Nat→Nat) (hw: ∀p∈ws,p.1 < M.length): ∀k,(settleM M ws f k).map MCell.cell=settleK (M.map MCell.cell) ws f k
 | 0=>rfl
 | k+1=>by
   unfold settleM settleK
   cases h:ws[k]? with
   | none=>exact settle_cells f hw k
   | some p=>
     have hp:p.1 < (settleM M ws f k).length:=by rw [settleM_len];exact hw p (List.mem_of_getElem? h)
     show(stepM (settleM M ws f k) p (f k)).map MCell.cell=(settleK (M.map MCell.cell) ws f k).set p.1 (storeS ((settleK (M.map MCell.cell) ws f k).getD p.1 ([],false)) p.2 (f k))
     unfold stepM
     rw [map_set_last,map_stored hp,settle_cells f hw k]
theorem lastAt_none {ws:List (Nat × List Int)} {n:Nat} : ∀k,(∀i,i < k→(ws[i]?.map (·.1))≠some n)→lastAt ws n k=0
 | 0,_=>rfl
 | k+1,h=>by
   unfold lastAt
   rw [if_neg (h k (Nat.lt_succ_self k))]
   exact lastAt_none k (fun i hi=>h i (Nat.lt_succ_of_lt hi))
theorem settle_last {M:List MCell} {ws:List (Nat × List Int)} (f:Nat→Nat) (hM: ∀(n:Nat) m,M[n]? =some m→m.last=lastOf ws n): ∀k (n:Nat) m,(settleM M ws f k)[n]? =some m→m.last=0∨(m.last=lastOf ws n∧ ∀i,i < k→(ws[i]?.map (·.1))≠some n)
 | 0=>fun n m h=> .inr ⟨hM n m h,fun i hi=>by omega⟩
 | k+1=>by
   intro n m
   unfold settleM
   cases h:ws[k]? with
   | none=>
     intro hm
     rcases settle_last f hM k n m hm with h1 | ⟨h1,h2⟩
     · exact .inl h1
     · refine .inr ⟨h1,fun i hi=> ?_⟩
       by_cases e:i=k
       · rw [e,h];simp
       · exact h2 i (by omega)
   | some p=>
     show(stepM (settleM M ws f k) p (f k))[n]? =some m→_
     unfold stepM
     rw [List.getElem?_set]
     split
     · split
       · intro e;injection e with e;rw [← e];exact .inl rfl
       · intro e;cases e
     · next hne=>
       unfold storedM
       rw [List.getElem?_set,if_neg hne]
       intro hm
       rcases settle_last f hM k n m hm with h1 | ⟨h1,h2⟩
       · exact .inl h1
       · refine .inr ⟨h1,fun i hi=> ?_⟩
         by_cases e:i=k
         · rw [e,h];simpa using hne
         · exact h2 i (by omega)
theorem settle_lasts {M:List MCell} {ws:List (Nat × List Int)} (f:Nat→Nat) (hM: ∀(n:Nat) m,M[n]? =some m→m.last=lastOf ws n) (n:Nat) (m:MCell) (h:(settleM M ws f ws.length)[n]? =some m):m.last=lastOf [] n:=by
 rcases settle_last f hM _ n m h with h1 | ⟨h1,h2⟩
 · exact h1
 · rw [h1];exact lastAt_none _ h2
theorem DevL.waits (l:DevL D hu tu cr M ws left dn) (hd:D.down=false) (n:Nat) (b:List Int):
 DevL { D.turned with waits:=D.waits++ [(n,b)] } hu (tu+1) cr (lastM M n (ws.length+1)) (ws++ [(n,b)]) (nextLeft left) dn:=by
 obtain⟨h1,h2,h3,h4,h5,h6,h7,h8,h9,h10⟩:=id l
 subst h1 h2 h3 h6 h7
 have hcc:({ D.turned with waits:=D.waits++ [(n,b)] } :DM).cells=(lastM M n (D.waits.length+1)).map MCell.cell:=by
  unfold lastM;rw [map_set_last];exact l.cells
 have:=DevL.mk' (D:= { D.turned with waits:=D.waits++ [(n,b)] }) (left:=nextLeft left) hcc (fun j m hm=> ?_) (fun hd'=> ?_) (by unfold nextLeft;split<;>omega) (by unfold lastM;rw [List.length_set];exact h10)
 · rw [← hurts_cells, ← hcc]at this
   exact this
 · show m.last=lastOf (D.waits++ [(n,b)]) j
   rw [lastOf_app]
   unfold lastM at hm
   rw [List.getElem?_set]at hm
   split at hm
   · next e=>
     split at hm
     · injection hm with hm;rw [← hm,if_pos e]
     · cases hm
   · next e=>rw [if_neg e];exact(h5 j m hm).2
 · have h:=h8 hd
   show nextLeft left=((D.armed - 1:Nat):Int)
   unfold nextLeft
   rw [h]
   split<;>omega
theorem DevL.settle (l:DevL D hu tu cr M ws left dn) (f:Nat→Nat) (hw: ∀p∈ws,p.1 < M.length) {D':DM} (hc:D'.cells=(D.settle f).cells) (hw':D'.waits= []) {left':Int} (ha:D'.down=false→left'=D'.armed) (hb:0≤left'∧left'≤9223372036854775807):
 DevL D' (mHurts (settleM M ws f ws.length)) D'.turns D'.crashes (settleM M ws f ws.length) [] left' D'.down:=by
 obtain⟨h1,h2,h3,h4,h5,h6,h7,h8,h9,h10⟩:=id l
 subst h1 h2 h3 h6 h7
 have:=DevL.mk' (D:=D') (M:=settleM M D.waits f D.waits.length) (left:=left') (by rw [hc,settle_cells f hw, ← l.cells];rfl) (fun j m hm=>by rw [hw'];exact settle_lasts f (fun n m h=>(h5 n m h).2) j m hm) ha hb (by rw [settleM_len];exact h10)
 rw [hw']at this
 exact this
theorem DevL.falls (l:DevL D hu tu cr M ws left dn) {D':DM} (hc:D'.cells=D.cells) (hw:D'.waits=D.waits) (ht:D'.turns=D.turns) (hcr:D'.crashes=D.crashes+1) (hd:D'.down=true):DevL D' hu tu (cr+1) M ws left true:=
 ⟨by rw [hc];exact l.hu,by rw [ht];exact l.tu,by rw [hcr, ← l.cr],by rw [hc];exact l.len,fun n m h=>by rw [hc,hw];exact l.mm n m h,by rw [hw];exact l.ws,hd.symm,(fun e=>by rw [hd]at e;cases e),l.lo,l.some_⟩
theorem DevL.hasB (l:DevL D hu tu cr M ws left dn) (n:Int):hasB M n=decide (D.has n):=by
 unfold Go.Proofs.YtpaikolnampcfaaGreatDoor.hasB DM.has
 rw [l.len]
end
open Go.RowKit
theorem size1 (w:World) (o:Obj):(w.alloc o).heap.size=w.heap.size+1:=by simp
theorem boxes3 (w:World) (x y z:Value) (tx ty tz:TypeId):(((w.alloc (.cells #[x] tx)).alloc (.cells #[y] ty)).alloc (.cells #[z] tz)).cell? ⟨w.heap.size,0,none⟩=some x∧(((w.alloc (.cells #[x] tx)).alloc (.cells #[y] ty)).alloc (.cells #[z] tz)).cell? ⟨w.heap.size+1,0,none⟩=some y∧
 (((w.alloc (.cells #[x] tx)).alloc (.cells #[y] ty)).alloc (.cells #[z] tz)).cell? ⟨w.heap.size+2,0,none⟩=some z:=by
 have h1:=BlockIs.made w tx #[x]
 have h2:=BlockIs.made (w.alloc (.cells #[x] tx)) ty #[y]
 have h3:=BlockIs.made ((w.alloc (.cells #[x] tx)).alloc (.cells #[y] ty)) tz #[z]
 have n2:=below_new (w.alloc (.cells #[x] tx)) (.cells #[y] ty)
 have n3:=below_new ((w.alloc (.cells #[x] tx)).alloc (.cells #[y] ty)) (.cells #[z] tz)
 have k1:=(h1.below n2 h1.lt).below n3 (h1.below n2 h1.lt).lt
 have k2:=h2.below n3 h2.lt
 rw [size1]at h2 k2
 rw [size1,size1]at h3
 exact⟨k1.cell 0,k2.cell 0,h3.cell 0⟩
section
variable {w : World} {T : Nat → Prop} {dk : Nat} {D : DM} (σ : SenD)
theorem Dev.of {w':World} {D':DM} {C:Nat} {wv:Value} {hu tu cr:Nat} {M:List MCell} {ws:List (Nat × List Int)} {left:Int} {dn:Bool} (R:DevR w' (grow T w w') dk C wv hu tu cr M ws left dn) (L:DevL D' hu tu cr M ws left dn) (hc:Chg T w w'):Dev w T dk D' w':=⟨⟨C,wv,hu,tu,cr,M,ws,left,dn,R,L⟩,hc⟩
def DM.refuses (D:DM) (n:Int) (l:Nat):DErr:=if D.down then .dn else if D.has n then(if 256 < l then .lo else .ok)else .bk
theorem takesE_eq {hu tu cr:Nat} {M:List MCell} {ws:List (Nat × List Int)} {left:Int} {dn:Bool} (L:DevL D hu tu cr M ws left dn) (n:Int) (l:Nat):takesE dn M n l=D.refuses n l:=by
 unfold takesE DM.refuses
 rw [L.hasB,L.dn]
 by_cases h:D.has n<;>simp [h]
theorem write_any (k:DevAt w T dk D) (hF:D.Few 1000000) (hG:GlD σ w) (hT: ∀b,σ.blk b→ ¬T b) (n:Int) (A:Option Addr) (bs:List Int) (c:Nat) (hb:BytesAt w A bs) (hA:bs≠ []→ ∀a,A=some a→ ¬T a.block) (hl:bs.length≤140737488351232):
 Calls Tryz.prog 58 #[.pointer (some ⟨dk,0,none⟩),.int .i64 n,.slice A bs.length c] w fun e w'=>e= .returned (.int .i64 (D.write n bs).1)∧Dev w T dk (D.write n bs).2 w':=by
 obtain⟨C,wv,hu,tu,cr,M,ws,left,dn,R,L⟩:=k
 have hb1:=below_new w (.cells #[.pointer (some ⟨dk,0,none⟩)] 39)
 have hb2:=hb1.alloc hb1.size (.cells #[.int .i64 n] 3)
 have hb3:=hb2.alloc hb2.size (.cells #[.slice A bs.length c] 28)
 obtain⟨b1,b2,b3⟩:=boxes3 w (.pointer (some ⟨dk,0,none⟩)) (.int .i64 n) (.slice A bs.length c) 39 3 28
 have hs3:(((w.alloc (.cells #[.pointer (some ⟨dk,0,none⟩)] 39)).alloc (.cells #[.int .i64 n] 3)).alloc (.cells #[.slice A bs.length c] 28)).heap.size=w.heap.size+3:=by simp
 have HT:=qh (takes_any σ (hG.below hb3) (R.below hb3) n A bs.length c hl)
 rw [takesE_eq L]at HT
 have H3:=qh (And.intro (R.below hb3) (And.intro hb3 (And.intro (hG.below hb3) hs3)))
 have HL:=qh L
 have Hf:=qh R.foot
 have HB:=qh (hb.below hb3)
 clear hb1 hb2 hb3 hs3
 have HX:=qh (fun(w':World) (hc:Chg T w w')=>hG.keep (w':=w') (fun b hb=>hc.block b (hG.lt hb) (hT b hb)))
 have HX2:=qh hT
 have HF:=qh hF
 have HA:=qh hA
 clear L R hG hT hb hF hA
 go_enter Tryz.func58,Tryz.ntmps58
 go_wp2_with fail
 generalize (((w.alloc (.cells #[.pointer (some ⟨dk,0,none⟩)] 39)).alloc (.cells #[.int .i64 n] 3)).alloc (.cells #[.slice A bs.length c] 28))=w3 at *
 have HT': ∀x:DErr,D.refuses n bs.length=x→x≠ .ok→Hid (Calls Tryz.prog 75 #[x.val σ] w3 fun e w'=>e= .returned (.int .i64 x.code)∧Below w3.heap.size w3 w'):=fun x hx _=>qh (errno_any σ w3 H3.out.2.2.1 x (fun e=>by
  rw [← hx]at e
  unfold DM.refuses at e
  split at e
  · cases e
  · split at e
    · split at e<;>cases e
    · cases e))
 cases hd:D.down with
 | true=>
   have hr:D.refuses n bs.length= .dn:=by unfold DM.refuses;rw [if_pos hd]
   have Hw:Hid (D.write n bs=(11,D)):=qh (by unfold DM.write;rw [if_pos hd])
   have HE:=HT' .dn hr (by intro e;cases e)
   rw [hr]at HT
   clear hr HT'
   refine HT.out.mono ?_
   rintro e w' ⟨rfl,rfl⟩
   unfold DErr.val errK at *
   go_wp2_with fail
   refine HE.out.mono ?_
   rintro e w4 ⟨rfl,hb4⟩
   have HB4:=qh hb4
   clear hb4
   go_wp2_with fail
   go_ret
   rw [Hw.out]
   exact⟨rfl,(Dev.of ((H3.out.1.below HB4.out).mono (fun _ hj=> .inl hj) (grow_lt Hf.out (Nat.le_trans H3.out.2.1.size HB4.out.size))) HL.out (Chg.of_below (H3.out.2.1.trans (HB4.out.mono H3.out.2.1.size))))⟩
 | false=>
   by_cases hn:D.has n
   · by_cases h256:256 < bs.length
     · have hr:D.refuses n bs.length= .lo:=by unfold DM.refuses;rw [if_neg (by rw [hd];decide),if_pos hn,if_pos h256]
       have Hw:Hid (D.write n bs=(2,D)):=qh (by unfold DM.write;rw [if_neg (by rw [hd];decide),if_pos (.inr h256)])
       have HE:=HT' .lo hr (by intro e;cases e)
       rw [hr]at HT
       clear hr HT'
       refine HT.out.mono ?_
       rintro e w' ⟨rfl,rfl⟩
       unfold DErr.val errK at *
       go_wp2_with fail
       refine HE.out.mono ?_
       rintro e w4 ⟨rfl,hb4⟩
       have HB4:=qh hb4
       clear hb4
       go_wp2_with fail
       go_ret
       rw [Hw.out]
       exact⟨rfl,(Dev.of ((H3.out.1.below HB4.out).mono (fun _ hj=> .inl hj) (grow_lt Hf.out (Nat.le_trans H3.out.2.1.size HB4.out.size))) HL.out (Chg.of_below (H3.out.2.1.trans (HB4.out.mono H3.out.2.1.size))))⟩
     · have hr:D.refuses n bs.length= .ok:=by unfold DM.refuses;rw [if_neg (by rw [hd];decide),if_pos hn,if_neg h256]
       have hw0:D.write n bs=if D.armed=1 then(11,D.trips)else(0, { D.turned with waits:=D.waits++ [(n.toNat,padB bs)] }):=by unfold DM.write;rw [if_neg (by rw [hd];decide),if_neg (fun e=>e.elim (fun h=>h hn) h256)]
       have hlen:=HL.out.len
       have hdn:=HL.out.dn
       have hn0:=hn
       unfold DM.has at hn0
       obtain⟨m,rfl⟩:=Int.eq_ofNat_of_zero_le hn0.1
       have hm:m < M.length:=by omega
       have hle:left=D.armed:=HL.out.armed hd
       rw [hr]at HT
       clear HT' hr hn hn0 hlen
       have Hd:=qh (And.intro hd hdn)
       clear hd hdn
       have Hsz:Hid (∀j,w.heap.size≤j→ ¬T j):=qh (fun j hj hT=>by have:=Hf.out j hT;omega)
       refine HT.out.mono ?_
       rintro e w' ⟨rfl,rfl⟩
       unfold DErr.val
       by_cases ha:D.armed=1
       · rw [if_pos ha]at hw0
         have Hw:=qh hw0
         have hl1:left=1:=by omega
         have h3:=H3.out.1
         rw [hl1]at h3
         have HTn:=qh (turn_trips σ H3.out.2.2.1 HX2.out h3 (by rw [HL.out.tu];exact Nat.le_trans HF.out.tu (by decide)) (by rw [HL.out.cr];exact Nat.le_trans HF.out.cr (by decide)) (.func (.func 100) #[] #[.pointer (some ⟨w.heap.size,0,none⟩),.pointer (some ⟨w.heap.size+1,0,none⟩),.pointer (some ⟨w.heap.size+1+1,0,none⟩)]))
         clear h3 hw0 ha hle
         go_wp2_with fail
         refine HTn.out.mono ?_
         rintro e w4 ⟨rfl,hd4,hc4⟩
         have HD4:=qh (And.intro hd4 hc4)
         have HE:=qh (errno_ref σ w4 (H3.out.2.2.1.keep (fun b hb=>hc4.block b (H3.out.2.2.1.lt hb) (HX2.out b hb))) ((tu:Int)+1))
         clear hd4 hc4
         unfold DErr.val refV errK at *
         go_wp2_with fail
         refine HE.out.mono ?_
         rintro e w5 ⟨rfl,hb5⟩
         have HB5:=qh hb5
         clear hb5
         go_wp2_with fail
         go_ret
         rw [Hw.out]
         have hc5:Chg T w w5:=((Chg.of_below H3.out.2.1).trans (HD4.out.2.mono (fun _ hj=> .inl hj))).on HB5.out
         have hl5:=HL.out.falls (D':=D.trips) rfl rfl rfl rfl rfl
         rw [hl1]at hl5
         exact⟨rfl,Dev.of ((HD4.out.1.below HB5.out).mono (fun _ hj=> .inl hj) (grow_lt Hf.out hc5.size)) hl5 hc5⟩
       · rw [if_neg ha]at hw0
         have Hw:=qh hw0
         have HTn:=qh (turn_write H3.out.1 (by rw [HL.out.tu];exact Nat.le_trans HF.out.tu (by decide)) HL.out.lo.1 HL.out.lo.2 (by omega) m hm A bs c HB.out HA.out (by omega) (by rw [HL.out.ws];exact Nat.le_trans HF.out.ws (by decide)) w.heap.size (w.heap.size+1) (w.heap.size+1+1) ⟨b1,Hsz.out _ (Nat.le_refl _)⟩ ⟨b2,Hsz.out _ (by omega)⟩ ⟨b3,Hsz.out _ (by omega)⟩)
         clear hw0 ha hle
         go_wp2_with fail
         refine HTn.out.mono ?_
         rintro e w4 ⟨rfl,wv4,hd4,hc4⟩
         have HD4:=qh (And.intro hd4 hc4)
         clear hd4 hc4
         go_wp2_with fail
         refine(errno_ok _).mono ?_
         rintro e w5 ⟨rfl,rfl⟩
         go_wp2_with fail
         go_ret
         rw [Hw.out]
         have hc5:Chg T w w4:=(Chg.of_below H3.out.2.1).trans (HD4.out.2.mono (fun _ hj=> .inl hj))
         have h1:=H3.out.2.1.size
         refine⟨rfl,Dev.of (HD4.out.1.mono ?_ (grow_lt Hf.out hc5.size)) (HL.out.waits Hd.out.1 m (padB bs)) hc5⟩
         rintro j (hj | hj)
         · exact .inl hj
         · exact .inr ⟨by omega,hj.2⟩
   · have hr:D.refuses n bs.length= .bk:=by unfold DM.refuses;rw [if_neg (by rw [hd];decide),if_neg hn]
     have Hw:Hid (D.write n bs=(2,D)):=qh (by unfold DM.write;rw [if_neg (by rw [hd];decide),if_pos (.inl hn)])
     have HE:=HT' .bk hr (by intro e;cases e)
     rw [hr]at HT
     clear hr HT'
     refine HT.out.mono ?_
     rintro e w' ⟨rfl,rfl⟩
     unfold DErr.val errK at *
     go_wp2_with fail
     refine HE.out.mono ?_
     rintro e w4 ⟨rfl,hb4⟩
     have HB4:=qh hb4
     clear hb4
     go_wp2_with fail
     go_ret
     rw [Hw.out]
     exact⟨rfl,(Dev.of ((H3.out.1.below HB4.out).mono (fun _ hj=> .inl hj) (grow_lt Hf.out (Nat.le_trans H3.out.2.1.size HB4.out.size))) HL.out (Chg.of_below (H3.out.2.1.trans (HB4.out.mono H3.out.2.1.size))))⟩
theorem sync_any (k:DevAt w T dk D) (hF:D.Few 1000000) (hG:GlD σ w) (hT: ∀b,σ.blk b→ ¬T b):
 Calls Tryz.prog 60 #[.pointer (some ⟨dk,0,none⟩)] w fun e w'=>e= .returned (.int .i64 D.sync.1)∧Dev w T dk D.sync.2 w':=by
 obtain⟨C,wv,hu,tu,cr,M,ws,left,dn,R,L⟩:=k
 have hb3:=below_new w (.cells #[.pointer (some ⟨dk,0,none⟩)] 39)
 have b1:(w.alloc (.cells #[.pointer (some ⟨dk,0,none⟩)] 39)).cell? ⟨w.heap.size,0,none⟩=some (.pointer (some ⟨dk,0,none⟩)):=cell_row _ _ _
 have HT:=qh (up_any σ (hG.below hb3) (R.below hb3))
 have H3:=qh (And.intro (R.below hb3) (And.intro hb3 (hG.below hb3)))
 have HL:=qh L
 have Hf:=qh R.foot
 have HX2:=qh hT
 have HF:=qh hF
 clear L R hG hT hF hb3
 go_enter Tryz.func60,Tryz.ntmps60
 go_wp2_with fail
 generalize (w.alloc (.cells #[.pointer (some ⟨dk,0,none⟩)] 39))=w3 at *
 refine HT.out.mono ?_
 rintro e w' ⟨rfl,rfl⟩
 have hdn:=HL.out.dn
 cases hd:D.down with
 | true=>
   have Hw:Hid (D.sync=(11,D)):=qh (by unfold DM.sync;rw [if_pos hd])
   have HE:=qh (errno_dn σ w3 H3.out.2.2)
   rw [hdn,hd]
   clear hd hdn
   unfold upE DErr.val errK at *
   simp only [if_true]
   go_wp2_with fail
   refine HE.out.mono ?_
   rintro e w4 ⟨rfl,rfl⟩
   go_wp2_with fail
   go_ret
   rw [Hw.out]
   exact⟨rfl,Dev.of (H3.out.1.mono (fun _ hj=> .inl hj) (grow_lt Hf.out H3.out.2.1.size)) HL.out (Chg.of_below H3.out.2.1)⟩
 | false=>
   have hw0:D.sync=if D.armed=1 then(11,D.trips)else(0,D.turned.settle fun _=>8):=by unfold DM.sync;rw [if_neg (by rw [hd];decide)]
   have hle:left=D.armed:=HL.out.armed hd
   rw [hdn,hd]
   have Hd:=qh (And.intro hd hdn)
   clear hd hdn
   have Hsz:Hid (∀j,w.heap.size≤j→ ¬T j):=qh (fun j hj hT=>by have:=Hf.out j hT;omega)
   unfold upE DErr.val
   simp only [Bool.false_eq_true,if_false]
   by_cases ha:D.armed=1
   · rw [if_pos ha]at hw0
     have Hw:=qh hw0
     have hl1:left=1:=by omega
     have h3:=H3.out.1
     rw [hl1]at h3
     have HTn:=qh (turn_trips σ H3.out.2.2 HX2.out h3 (by rw [HL.out.tu];exact Nat.le_trans HF.out.tu (by decide)) (by rw [HL.out.cr];exact Nat.le_trans HF.out.cr (by decide)) (.func (.func 103) #[] #[.pointer (some ⟨w.heap.size,0,none⟩)]))
     clear h3 hw0 ha hle
     go_wp2_with fail
     refine HTn.out.mono ?_
     rintro e w4 ⟨rfl,hd4,hc4⟩
     have HD4:=qh (And.intro hd4 hc4)
     have HE:=qh (errno_ref σ w4 (H3.out.2.2.keep (fun b hb=>hc4.block b (H3.out.2.2.lt hb) (HX2.out b hb))) ((tu:Int)+1))
     clear hd4 hc4
     unfold DErr.val refV errK at *
     go_wp2_with fail
     refine HE.out.mono ?_
     rintro e w5 ⟨rfl,hb5⟩
     have HB5:=qh hb5
     clear hb5
     go_wp2_with fail
     go_ret
     rw [Hw.out]
     have hc5:Chg T w w5:=((Chg.of_below H3.out.2.1).trans (HD4.out.2.mono (fun _ hj=> .inl hj))).on HB5.out
     have hl5:=HL.out.falls (D':=D.trips) rfl rfl rfl rfl rfl
     rw [hl1]at hl5
     exact⟨rfl,Dev.of ((HD4.out.1.below HB5.out).mono (fun _ hj=> .inl hj) (grow_lt Hf.out hc5.size)) hl5 hc5⟩
   · rw [if_neg ha]at hw0
     have Hw:=qh hw0
     have h3:=H3.out.1
     have hhu:hu=mHurts M:=by rw [HL.out.hu,HL.out.cells,hurts_cells]
     rw [hhu]at h3
     have HTn:=qh (turn_sync h3 (by rw [HL.out.tu];exact Nat.le_trans HF.out.tu (by decide)) HL.out.lo.1 HL.out.lo.2 (by omega) (by rw [HL.out.ws];exact Nat.le_trans HF.out.ws (by decide)) w.heap.size ⟨b1,Hsz.out _ (Nat.le_refl _)⟩)
     have HWB:=qh (fun p hp=>(h3.wb p hp).1)
     clear hw0 ha hle h3 hhu
     go_wp2_with fail
     refine HTn.out.mono ?_
     rintro e w4 ⟨rfl,hd4,hc4⟩
     have HD4:=qh (And.intro hd4 hc4)
     clear hd4 hc4
     go_wp2_with fail
     refine(errno_ok _).mono ?_
     rintro e w5 ⟨rfl,rfl⟩
     go_wp2_with fail
     go_ret
     rw [Hw.out]
     have hc5:Chg T w w4:=(Chg.of_below H3.out.2.1).trans (HD4.out.2.mono (fun _ hj=> .inl hj))
     have h1:=H3.out.2.1.size
     have hL:=HL.out.settle (D':=D.turned.settle fun _=>8) (fun _=>8) HWB.out rfl rfl (left':=nextLeft left) (fun _=>by
      have:=HL.out.armed Hd.out.1
      show nextLeft left=((D.armed - 1:Nat):Int)
      unfold nextLeft;rw [this];split<;>omega) (by have:=HL.out.lo;unfold nextLeft;split<;>omega)
     have hR:DevR w4 (grow T w3 w4) dk C (.slice none 0 0) (mHurts (settleM M ws (fun _=>8) ws.length)) (D.turned.settle fun _=>8).turns (D.turned.settle fun _=>8).crashes (settleM M ws (fun _=>8) ws.length) [] (nextLeft left) (D.turned.settle fun _=>8).down:=by
      have e1:tu+1=(D.turned.settle fun _=>8).turns:=by rw [HL.out.tu];rfl
      have e2:cr=(D.turned.settle fun _=>8).crashes:=by rw [HL.out.cr];rfl
      have e3:dn=(D.turned.settle fun _=>8).down:=by rw [HL.out.dn];rfl
      rw [← e1, ← e2, ← e3];exact HD4.out.1
     refine⟨rfl,Dev.of (hR.mono ?_ (grow_lt Hf.out hc5.size)) hL hc5⟩
     rintro j (hj | hj)
     · exact .inl hj
     · exact .inr ⟨by omega,hj.2⟩
end
open Go.RowKit
section
variable {w : World} {T : Nat → Prop} {dk : Nat} {D : DM} (σ : SenD)
theorem crash_any (k:DevAt w T dk D) (hF:D.Few 1000000) (hG:GlD σ w):
 Calls Tryz.prog 35 #[.pointer (some ⟨dk,0,none⟩)] w fun e w'=>e= .returned (.int .i64 D.crash.1)∧Dev w T dk D.crash.2 w':=by
 obtain⟨C,wv,hu,tu,cr,M,ws,left,dn,R,L⟩:=k
 have HT:=qh (up_any σ hG R)
 have HL:=qh L
 have hdn:=L.dn
 have HR:=qh R
 have HF:=qh (fall_any R (by rw [L.cr];exact Nat.le_trans hF.cr (by decide)))
 have HG:=qh hG
 clear R L hG hF
 cases hd:D.down with
 | true=>
   have Hw:Hid (D.crash=(11,D)):=qh (by unfold DM.crash;rw [if_pos hd])
   have HE:=qh (errno_dn σ w HG.out)
   rw [hdn,hd]at HT
   clear hd hdn
   unfold upE DErr.val errK at *
   simp only [if_true]at HT
   go_enter Tryz.func35,Tryz.ntmps35
   go_wp2_with fail
   refine HT.out.mono ?_
   rintro e w' ⟨rfl,rfl⟩
   go_wp2_with fail
   refine HE.out.mono ?_
   rintro e w4 ⟨rfl,rfl⟩
   go_wp2_with fail
   go_ret
   rw [Hw.out]
   exact⟨rfl,Dev.of (HR.out.mono (fun _ hj=> .inl hj) (grow_lt HR.out.foot (Nat.le_refl _))) HL.out (Chg.refl _ _)⟩
 | false=>
   have Hw:Hid (D.crash=(0, { D with down:=true,crashes:=D.crashes+1 })):=qh (by unfold DM.crash;rw [if_neg (by rw [hd];decide)])
   rw [hdn,hd]at HT
   clear hd hdn
   unfold upE DErr.val at HT
   simp only [Bool.false_eq_true,if_false]at HT
   go_enter Tryz.func35,Tryz.ntmps35
   go_wp2_with fail
   refine HT.out.mono ?_
   rintro e w' ⟨rfl,rfl⟩
   go_wp2_with fail
   refine HF.out.mono ?_
   rintro e w4 ⟨rfl,hw4⟩
   have HW4:=qh hw4
   clear hw4
   go_wp2_with fail
   go_ret
   rw [Hw.out]
   have hc:Chg T w w4:=by rw [HW4.out];exact((Chg.refl T w).set (.inl HR.out.self) _).set (.inl HR.out.self) _
   have hR:DevR w4 T dk C wv hu tu (cr+1) M ws left true:=by rw [HW4.out];exact HR.out.falls
   exact⟨rfl,Dev.of (hR.mono (fun _ hj=> .inl hj) (grow_lt HR.out.foot hc.size)) (HL.out.falls (D':= { D with down:=true,crashes:=D.crashes+1 }) rfl rfl rfl rfl rfl) hc⟩
theorem mod9 (n:Int):(n.tmod 9+9).tmod 9=n % 9:=by
 have h1:=tmod_bd n 9 (by decide)
 by_cases h:n.tmod 9 < 0
 · rw [pick_neg n 9 (by decide) h,Int.tmod_eq_emod_of_nonneg (by omega)];omega
 · have h2:=pick_pos n 9 (by decide) h
   rw [h2,Int.tmod_eq_emod_of_nonneg (by omega)];omega
theorem modulo_any (n:Int):Calls Tryz.prog 77 #[.int .i64 n,.int .i64 9] w fun e w'=>e= .returned (.int .i64 (n % 9))∧w=w':=by
 have h1:=tmod_bd n 9 (by decide)
 have h2:=mod9 n
 go_enter Tryz.func77,Tryz.ntmps77
 go_wp2_with fail
 go_ret
 exact⟨rfl,rfl⟩
theorem DevR.wakes {C:Nat} {wv:Value} {hu tu cr:Nat} {M:List MCell} {ws:List (Nat × List Int)} {left:Int} {dn:Bool} (k:DevR w T dk C wv hu tu cr M ws left dn):DevR ((w.setCell ⟨dk,6,none⟩ (.int .i64 0)).setCell ⟨dk,7,none⟩ (.bool false)) T dk C wv hu tu cr M ws 0 false:=
 k.own8 (by rw [set_size,set_size]) (fun _ hb=>by rw [set_other _ _ _ _ _ hb,set_other _ _ _ _ _ hb]) ((k.blk.set1 6 (.int .i64 0)).set1 7 (.bool false))
theorem wake_any (k:DevAt w T dk D) (hF:D.Few 1000000) (stay torn sectors:Int):
 Calls Tryz.prog 36 #[.pointer (some ⟨dk,0,none⟩),.int .i64 stay,.int .i64 torn,.int .i64 sectors] w fun e w'=>e= .returned (.int .i64 (D.wake stay torn sectors).1)∧Dev w T dk (D.wake stay torn sectors).2 w':=by
 obtain⟨C,wv,hu,tu,cr,M,ws,left,dn,R,L⟩:=k
 obtain⟨part,hpart⟩: ∃part:Nat,sectors % 9=(part:Int):=⟨(sectors % 9).toNat,by omega⟩
 have hb1:=below_new w (.cells #[.int .i64 stay] 3)
 have hb2:=hb1.alloc hb1.size (.cells #[.int .i64 torn] 3)
 have hb3:=hb2.alloc hb2.size (.cells #[.int .i64 (part:Int)] 3)
 obtain⟨b1,b2,b3⟩:=boxes3 w (.int .i64 stay) (.int .i64 torn) (.int .i64 (part:Int)) 3 3 3
 have k2:=R.below hb2
 have c3:=k2.cell8.2.2.2.1
 have c7:=k2.cell8.2.2.2.2.2.2.2
 have hdn:=L.dn
 have HM:=qh (fun(w':World)=>modulo_any (w:=w') sectors)
 cases hd:D.down with
 | false=>
   have Hw:Hid (D.wake stay torn sectors=(16,D)):=qh (by unfold DM.wake;rw [if_neg (by rw [hd];decide)])
   rw [hdn,hd]at c7
   have HR:=qh (Dev.of (k2.mono (fun _ hj=> .inl hj) (grow_lt R.foot hb2.size)) L (Chg.of_below hb2))
   clear R L hF b1 b2 b3 hb1 hb2 hb3 k2 hdn hd
   go_enter Tryz.func36,Tryz.ntmps36
   go_wp2_with fail
   refine(told_any _ dk c3).mono ?_
   rintro e w' ⟨rfl,rfl⟩
   go_wp2_with fail
   go_ret
   rw [Hw.out]
   exact⟨rfl,HR.out⟩
 | true=>
   have Hw:Hid (D.wake stay torn sectors=(0, { D.settle (fate stay torn sectors)with armed:=0,down:=false })):=qh (by unfold DM.wake;rw [if_pos hd])
   rw [hdn,hd]at c7
   have h3:=R.below hb3
   have hhu:hu=mHurts M:=by rw [L.hu,L.cells,hurts_cells]
   rw [hhu]at h3
   have Hsz:Hid (∀j,w.heap.size≤j→ ¬T j):=qh (fun j hj hT=>by have:=R.foot j hT;omega)
   have HS:=qh (settle_wake h3 (by rw [L.ws];exact Nat.le_trans hF.ws (by decide)) stay torn sectors part (w.heap.size+1) (w.heap.size+2) w.heap.size (by omega) ⟨b2,Hsz.out _ (by omega)⟩ ⟨b3,Hsz.out _ (by omega)⟩ ⟨b1,Hsz.out _ (Nat.le_refl _)⟩)
   have HWB:=qh (fun p hp=>(h3.wb p hp).1)
   have H3:=qh (And.intro hb3 R.foot)
   have HL:=qh L
   have HTs:=qh R.self
   clear R L hF b1 b2 b3 hb1 hb2 hb3 k2 hdn hd h3 hhu
   go_enter Tryz.func36,Tryz.ntmps36
   go_wp2_with fail
   refine(told_any _ dk c3).mono ?_
   rintro e w' ⟨rfl,rfl⟩
   go_wp2_with fail
   refine(HM.out _).mono ?_
   rintro e w' ⟨rfl,rfl⟩
   rw [hpart]
   go_wp2_with fail
   refine HS.out.mono ?_
   rintro e w4 ⟨rfl,hd4,hc4⟩
   have H4:=qh (And.intro hd4 hc4)
   clear HS
   obtain⟨d0,d1,d2,d3,d4,d5,d6,d7⟩:=hd4.cell8
   have f6:=hd4.blk.free 6
   have f7:=hd4.blk.free 7
   have HW:=qh hd4.wakes
   clear d0 d1 d2 d3 d4 d5 hd4 hc4
   generalize (((w.alloc (.cells #[.int .i64 stay] 3)).alloc (.cells #[.int .i64 torn] 3)).alloc (.cells #[.int .i64 (part:Int)] 3))=w3 at *
   clear c3 c7
   go_wp2_with fail
   go_ret
   rw [Hw.out]
   have h1:=H3.out.1.size
   have hc5:Chg T w ((w4.setCell ⟨dk,6,none⟩ (.int .i64 0)).setCell ⟨dk,7,none⟩ (.bool false)):=(((Chg.of_below H3.out.1).trans (H4.out.2.mono (fun _ hj=> .inl hj))).set (.inl HTs.out) _).set (.inl HTs.out) _
   have hL:=HL.out.settle (D':= { D.settle (fate stay torn sectors)with armed:=0,down:=false }) (fate stay torn sectors) HWB.out rfl rfl (left':=0) (fun _=>rfl) (by omega)
   have hR:DevR ((w4.setCell ⟨dk,6,none⟩ (.int .i64 0)).setCell ⟨dk,7,none⟩ (.bool false)) (grow T w3 w4) dk C (.slice none 0 0) (mHurts (settleM M ws (fate stay torn sectors) ws.length)) D.turns D.crashes (settleM M ws (fate stay torn sectors) ws.length) [] 0 false:=by
    rw [← HL.out.tu, ← HL.out.cr];exact HW.out
   refine⟨rfl,Dev.of (hR.mono ?_ (grow_lt H3.out.2 hc5.size)) hL hc5⟩
   rintro j (hj | hj)
   · exact .inl hj
   · exact .inr ⟨by omega,by rw [set_size,set_size];exact hj.2⟩
end
end Go.Proofs.YtpaikolnampcfaaGreatDoor
