/- What is seen of a block. -/
import Derived.Test.YtpaikolnampcfaaGreatDoorDevWake
import Derived.Deep.DeepCutAuto
import Derived.BigRegion
namespace Go.Proofs.YtpaikolnampcfaaGreatDoor
set_option maxRecDepth 100000
set_option maxHeartbeats 1000000
open Go.RowKit
def zeroB :Array Value:=(u8s zero256).toArray
def zeroC :Array Value:=(cellV ⟨zero256,false,0⟩).toArray
theorem infoBlock :(Tryz.prog.info? 119).map (fun i=>(i.zero,i.size,i.bytes))=some (some (.agg zeroB),256,256):=by kernel_rfl
theorem infoCell :(Tryz.prog.info? 121).map (fun i=>(i.zero,i.size,i.bytes))=some (some (.agg zeroC),258,272):=by kernel_rfl
theorem zeroBlock (w:World):(zeroValue 119).run Tryz.prog w= .ok (.agg zeroB) w:=by
 obtain⟨i0,hi,hz0,hz1,hz2⟩:=info_parts infoBlock
 simp [zeroValue,typeInfo,hi,hz0]
theorem zeroCell (w:World):(zeroValue 121).run Tryz.prog w= .ok (.agg zeroC) w:=by
 obtain⟨i0,hi,hz0,hz1,hz2⟩:=info_parts infoCell
 simp [zeroValue,typeInfo,hi,hz0]
theorem sizeBlock :(Tryz.prog.info? 119).map (·.size)=some 256:=by
 obtain⟨i0,hi,hz0,hz1,hz2⟩:=info_parts infoBlock
 rw [hi];simp [hz1]
theorem sizeCell :(Tryz.prog.info? 121).map (·.size)=some 258:=by
 obtain⟨i0,hi,hz0,hz1,hz2⟩:=info_parts infoCell
 rw [hi];simp [hz1]
theorem zeroB_size :zeroB.size=256:=by unfold zeroB;rw [List.size_toArray,u8s_len,zero256_len]
theorem zeroC_size :zeroC.size=258:=by unfold zeroC;rw [List.size_toArray,cellV_len nought_ok]
theorem cellV_get {m:MCell} (hm:BlkOk m.bs) (h:257 < (cellV m).length):(cellV m)[257]= .int .i64 (m.last:Int):=by
 have:=cellV_last hm
 rw [List.getElem?_eq_getElem h]at this
 injection this
theorem cellV_one {m:MCell} : ∀v∈cellV m,v.oneCell'=true:=fun v hv=>by
 unfold cellV at hv
 rcases List.mem_append.1 hv with hv | hv
 · exact u8s_one _ v hv
 · rcases List.mem_cons.1 hv with rfl | hv
   · rfl
   · rw [List.mem_singleton.1 hv];rfl
theorem store_all {P:Program} {w:World} {g:Nat} {t:TypeId} {old:Array Value} (hb:BlockIs w g t old) (vs:List Value) (hl:vs.length=old.size) (h1: ∀v∈vs,v.oneCell'=true):(storeCells ⟨g,0,none⟩ vs 0).run P w= .ok () (w.setRow g vs.toArray):=by
 have:=run_storeCells_from (P:=P) g t vs 0 old w hb (by rw [Nat.zero_add];exact hl) h1
 simpa using this
theorem setRow_last (w:World) (c c':Array Value) (t:TypeId):(w.alloc (.cells c t)).setRow w.heap.size c'=w.alloc (.cells c' t):=World.setRow_alloc_new w c c' t
theorem store_block1 (w:World) {bs:List Int} (hb:BlkOk bs):(storeCells ⟨w.heap.size,0,none⟩ (u8s bs) 0).run Tryz.prog (w.alloc (.cells zeroB 119))= .ok () (w.alloc (.cells (u8s bs).toArray 119)):=by
 rw [store_all (BlockIs.made w _ _) (u8s bs) (by rw [zeroB_size,u8s_len,hb.1]) (u8s_one bs),setRow_last]
theorem store_cell2 (w:World) (o:Obj) {m:MCell} (hm:BlkOk m.bs):(storeCells ⟨w.heap.size+1,0,none⟩ (cellV m) 0).run Tryz.prog ((w.alloc o).alloc (.cells zeroC 121))= .ok () ((w.alloc o).alloc (.cells (cellV m).toArray 121)):=by
 have:=store_all (P:=Tryz.prog) (BlockIs.made (w.alloc o) 121 zeroC) (cellV m) (by rw [zeroC_size,cellV_len hm]) cellV_one
 rw [setRow_last,size1]at this
 exact this
section
variable {w : World} {T : Nat → Prop} {dk C : Nat} {wv : Value} {hu tu cr : Nat} {M : List MCell} {ws : List (Nat × List Int)} {left : Int} {dn : Bool}
def seenM (M:List MCell) (ws:List (Nat × List Int)) (n:Nat):List Int:=if(M.getD n default).last=0 then(M.getD n default).bs else(ws.getD ((M.getD n default).last - 1) (0,[])).2
theorem write_block {p:Nat × List Int} {w':World} {g o:Nat} (hr:w'.rangeAt g o (writeV p)):w'.rangeAt g (o+1) (u8s p.2):=fun j v hv=>by
 rw [Nat.add_assoc,Nat.add_comm 1 j]
 exact hr (j+1) v (by unfold writeV;rw [List.getElem?_cons_succ];exact hv)
end
open Go.RowKit
theorem made_cells (n:Nat):madeCells zeroC (n * 258)=((List.replicate n (⟨zero256,false,0⟩:MCell)).flatMap cellV).toArray:=by
 have hw: ∀x∈List.replicate n (⟨zero256,false,0⟩:MCell),(cellV x).length=258:=fun x hx=>by rw [List.eq_of_mem_replicate hx];exact cellV_len nought_ok
 have hl:=flat_lenV cellV 258 _ hw
 rw [List.length_replicate]at hl
 have key: ∀i,i < n * 258→(madeCells zeroC (n * 258))[i]? =((List.replicate n (⟨zero256,false,0⟩:MCell)).flatMap cellV)[i]? :=fun i hi=>by
  have h1:i / 258 < (List.replicate n (⟨zero256,false,0⟩:MCell)).length:=by rw [List.length_replicate];omega
  have h2:=flat_at cellV 258 hw h1 (i:=i % 258) (Nat.mod_lt _ (by decide))
  rw [show i / 258 * 258+i % 258=i by omega,List.getElem_replicate]at h2
  rw [h2]
  have hlt:i % 258 < zeroC.size:=by rw [zeroC_size];exact Nat.mod_lt _ (by decide)
  have h3:zeroC[i % 258]? =(cellV ⟨zero256,false,0⟩)[i % 258]? :=by unfold zeroC;rw [List.getElem?_toArray]
  rw [← h3,Array.getElem?_eq_getElem hlt]
  unfold madeCells
  rw [Array.getElem?_map,Array.getElem?_range,if_pos hi,zeroC_size]
  show some (zeroC[i % 258]!)=_
  exact congrArg some (getElem!_pos zeroC (i % 258) hlt)
 generalize hL:(List.replicate n (⟨zero256,false,0⟩:MCell)).flatMap cellV=L at *
 have hs:(madeCells zeroC (n * 258)).size=n * 258:=size_madeCells _ _
 apply Array.ext
 · rw [hs,List.size_toArray,hl]
 · intro i h1 h2
   have:=key i (by omega)
   rw [Array.getElem?_eq_getElem h1,List.getElem?_eq_getElem (by simpa using h2)]at this
   injection this
section
variable {w : World}
theorem newLinks {n:Nat} (h0:0 < n):DevL (DM.new n) 0 0 0 (List.replicate n ⟨zero256,false,0⟩) [] 0 false:=by
 have hc:(DM.new n).cells=(List.replicate n (⟨zero256,false,0⟩:MCell)).map MCell.cell:=by
  unfold DM.new;rw [List.map_replicate];rfl
 have:=DevL.mk' (D:=DM.new n) (left:=0) hc (fun j m hm=>by rw [List.eq_of_mem_replicate (List.mem_of_getElem? hm)];rfl) (fun _=>rfl) (by omega) (by simpa using h0)
 rw [show mHurts (List.replicate n (⟨zero256,false,0⟩:MCell))=0 by unfold mHurts;simp]at this
 exact this
theorem new_any (n:Nat) (h0:0 < n) (h1:n≤4096):
 Calls Tryz.prog 17 #[.int .i64 (n:Int)] w fun e w'=> ∃h,e= .returned (.tuple #[.pointer (some ⟨h,0,none⟩),.int .i64 0])∧DevAt w' (fun k=>w.heap.size≤k∧k < w'.heap.size) h (DM.new n)∧Below w.heap.size w w':=by
 obtain⟨i0,hi,hz0,hz1,hz2⟩:=info_parts infoCell
 have hmk: ∀w':World,(Instr.makeSlice 102 (.int .i64 (n:Int)) (.int .i64 (n:Int))).run Tryz.prog w'= .ok (.slice (some ⟨w'.heap.size,0,none⟩) n n) (w'.alloc (.cells ((List.replicate n (⟨zero256,false,0⟩:MCell)).flatMap cellV).toArray 121)):=fun w'=>by
  have:=run_make (P:=Tryz.prog) w' 102 121 i0 (.agg zeroC) Tryz.underlying102 hi hz0 .i64 .i64 (n:Int) (n:Int) (by omega) (Int.le_refl _) (by rw [hz2];omega) (by omega)
  rw [Int.toNat_natCast,hz1]at this
  rw [this]
  show Result.ok _ (w'.alloc (.cells (madeCells zeroC (n * 258)) 121))=_
  rw [made_cells]
 clear hi hz0 hz1 hz2
 have hn1: ¬(n:Int) < 1:=by omega
 have hn2: ¬(n:Int) > 4096:=by omega
 have HL:=qh (newLinks h0)
 obtain⟨X,hX⟩: ∃X,((List.replicate n (⟨zero256,false,0⟩:MCell)).flatMap cellV).toArray=X:=⟨_,rfl⟩
 have HX:=qh hX
 rw [hX]at hmk
 clear hX
 go_enter Tryz.func17,Tryz.ntmps17
 go_wp2_with fail
 go_ret2
 have hB1:=BlockIs.made w 121 X
 have n2:=below_new (w.alloc (.cells X 121)) (.cells #[.int .i64 0,.int .i64 0,.int .i64 0,.pointer (some ⟨w.heap.size+1,0,none⟩),.slice (some ⟨w.heap.size,0,none⟩) n n,.slice none 0 0,.int .i64 0,.bool false] 107)
 have hB2:=BlockIs.made (w.alloc (.cells X 121)) 107 #[.int .i64 0,.int .i64 0,.int .i64 0,.pointer (some ⟨w.heap.size+1,0,none⟩),.slice (some ⟨w.heap.size,0,none⟩) n n,.slice none 0 0,.int .i64 0,.bool false]
 have hC:=hB1.below n2 hB1.lt
 rw [size1]at hB2
 have hs:((w.alloc (.cells X 121)).alloc (.cells #[.int .i64 0,.int .i64 0,.int .i64 0,.pointer (some ⟨w.heap.size+1,0,none⟩),.slice (some ⟨w.heap.size,0,none⟩) n n,.slice none 0 0,.int .i64 0,.bool false] 107)).heap.size=w.heap.size+2:=by simp
 have hbb:=(below_new w (.cells X 121)).trans (n2.mono (below_new w (.cells X 121)).size)
 generalize ((w.alloc (.cells X 121)).alloc (.cells #[.int .i64 0,.int .i64 0,.int .i64 0,.pointer (some ⟨w.heap.size+1,0,none⟩),.slice (some ⟨w.heap.size,0,none⟩) n n,.slice none 0 0,.int .i64 0,.bool false] 107))=w3 at *
 rw [← HX.out]at hC
 refine⟨w.heap.size+1,rfl,⟨w.heap.size,.slice none 0 0,0,0,0,List.replicate n ⟨zero256,false,0⟩,[],0,false,⟨fun k hk=>hk.2,⟨by omega,by omega⟩,⟨by omega,by omega⟩,by omega,?_,hC,World.ownsRow_nil _ _ _ _,by simp [Value.ownBlock],by simp [Value.ownBlock],(fun b hb=>by simp [Value.ownBlock]at hb),(fun m hm=>by rw [List.eq_of_mem_replicate hm];exact nought_ok),by simpa using h1,(fun p hp=>by cases hp)⟩,HL.out⟩,hbb⟩
 rw [List.length_replicate]
 exact hB2
end
open Go.RowKit
def OutAt (w:World) (base:Nat) (v:Value) (bs:List Int):Prop:=
 (v= .slice none 0 0∧bs= [])∨ ∃g t,v= .slice (some ⟨g,0,none⟩) bs.length bs.length∧base≤g∧BlockIs w g t (u8s bs).toArray∧ ∀z∈bs,0≤z∧z < 256
theorem OutAt.bytes {w:World} {base:Nat} {v:Value} {bs:List Int} (h:OutAt w base v bs): ∃A,v= .slice A bs.length bs.length∧BytesAt w A bs∧ ∀a,A=some a→base≤a.block∧a.block < w.heap.size:=by
 rcases h with⟨rfl,rfl⟩ | ⟨g,t,rfl,hg,hb,hz⟩
 · exact⟨none,rfl,BytesAt.nil _ _,fun a e=>by cases e⟩
 · refine⟨some ⟨g,0,none⟩,rfl,bytesAt_cells hz (fun i hi=> ?_),fun a e=>by cases e;exact⟨hg,hb.lt⟩⟩
   rw [Nat.zero_add,hb.cell,List.getElem?_toArray]
   unfold u8s
   rw [List.getElem?_map,List.getD_eq_getElem?_getD,List.getElem?_eq_getElem hi];rfl
section
variable {w : World} {T : Nat → Prop} {dk : Nat} {D : DM} (σ : SenD)
theorem seenM_eq {hu tu cr:Nat} {M:List MCell} {ws:List (Nat × List Int)} {left:Int} {dn:Bool} (L:DevL D hu tu cr M ws left dn) {n:Nat} (hn:n < M.length):seenM M ws n=D.seen n∧(M.getD n default).last≤ws.length:=by
 obtain⟨h1,h2⟩:=L.mm n _ (List.getElem?_eq_getElem hn)
 unfold seenM
 rw [getD_at hn,D.seen_last n,h2,L.ws]
 refine⟨?_,lastOf_le _ _⟩
 unfold DM.stored
 rw [List.getD_eq_getElem?_getD,List.getD_eq_getElem?_getD,h1];rfl
def DM.read (D:DM) (n:Int):List Int × Int:=if D.down then([],11)else if D.has n then(D.seen n.toNat,0)else([],2)
end
open Go.RowKit
section
variable {w : World} {T : Nat → Prop} {dk : Nat} {D : DM}
def DM.storedI (D:DM) (n:Int):List Int:=if D.has n then D.stored n.toNat else []
theorem stored_any (k:DevAt w T dk D) (n:Int):
 Calls Tryz.prog 25 #[.pointer (some ⟨dk,0,none⟩),.int .i64 n] w fun e w'=> ∃v,e= .returned v∧OutAt w' w.heap.size v (D.storedI n)∧Below w.heap.size w w':=by
 obtain⟨C,wv,hu,tu,cr,M,ws,left,dn,R,L⟩:=k
 have HT:=qh (has_any R n)
 rw [L.hasB]at HT
 have c4:=R.cell8.2.2.2.2.1
 have hM:=R.many
 by_cases hn:D.has n
 · have Hw:Hid (D.storedI n=D.stored n.toNat):=qh (by unfold DM.storedI;rw [if_pos hn])
   rw [decide_eq_true hn]at HT
   unfold DM.has at hn
   obtain⟨m,rfl⟩:=Int.eq_ofNat_of_zero_le hn.1
   have hm:m < M.length:=by have:=L.len;omega
   have Hb:=qh (R.mb _ (List.getElem_mem hm))
   have Hr:=qh (R.block hm)
   have hs:D.stored m=M[m].bs:=by
    unfold DM.stored
    rw [List.getD_eq_getElem?_getD,(L.mm m _ (List.getElem?_eq_getElem hm)).1];rfl
   rw [Int.toNat_natCast,hs]at Hw
   generalize M[m].bs=bs at Hb Hr Hw
   have hlen:(u8s bs).length=256:=by rw [u8s_len,Hb.out.1]
   have hz:=zeroBlock
   have hst:=fun w'=>store_block1 w' Hb.out
   clear hs hn R L
   go_enter Tryz.func25,Tryz.ntmps25
   go_wp2_with fail
   refine HT.out.mono ?_
   rintro e w' ⟨rfl,rfl⟩
   go_wp2_with fail
   refine wp_load_mid 119 (.tmp 16) rfl C (m * 258) (by simp [Act.eval]) (u8s bs) _ Hr.out Tryz.underlying119 rfl (by rw [sizeBlock,hlen]) ?_
   go_wp2_with fail
   go_ret
   rw [Hw.out]
   refine⟨_,rfl,.inr ⟨w.heap.size,119,?_,Nat.le_refl _,BlockIs.made w _ _,Hb.out.2⟩,below_new w _⟩
   rw [Hb.out.1];rfl
 · have Hw:Hid (D.storedI n= []):=qh (by unfold DM.storedI;rw [if_neg hn])
   rw [decide_eq_false hn]at HT
   clear c4 R L
   go_enter Tryz.func25,Tryz.ntmps25
   go_wp2_with fail
   refine HT.out.mono ?_
   rintro e w' ⟨rfl,rfl⟩
   go_wp2_with fail
   go_ret
   rw [Hw.out]
   exact⟨_,rfl,.inl ⟨rfl,rfl⟩,Below.refl _ _⟩
end
end Go.Proofs.YtpaikolnampcfaaGreatDoor
