/- A disk of a law's own, its blocks told one by one; bytes that were handed out stay. -/
import Derived.Test.YtpaikolnampcfaaGreatDoorDevStored
import Derived.Test.YtpaikolnampcfaaGreatDoorDevWake
import Derived.Test.YtpaikolnampcfaaGreatDoorKitInts
import Derived.Test.YtpaikolnampcfaaGreatDoorDevRot
import Derived.Deep.DeepCutAuto
import Derived.BigRegion
import Derived.Test.YtpaikolnampcfaaGreatDoorMarkAwake
namespace Go.Proofs.YtpaikolnampcfaaGreatDoor
set_option maxRecDepth 100000
set_option maxHeartbeats 8000000
open Go.RowKit
structure OwnT (w0 w:World) (T:Nat→Prop) (h:Nat) (D:DM):Prop where
 at_:DevAt w T h D
 below:Below w0.heap.size w0 w
 lo: ∀k,T k→w0.heap.size≤k
def Held (w:World) (T:Nat→Prop) (v:Value) (bs:List Int):Prop:= ∃A,v= .slice A bs.length bs.length∧BytesAt w A bs∧ ∀a,A=some a→ ¬T a.block∧a.block < w.heap.size
theorem OutAt.held {w w2:World} {T:Nat→Prop} {v:Value} {bs:List Int} (h:OutAt w2 w.heap.size v bs) (hf: ∀k,T k→k < w.heap.size):Held w2 T v bs:=by
 obtain⟨A,rfl,hb,ha⟩:=h.bytes
 exact⟨A,rfl,hb,fun a e=>⟨fun ht=>by have:=hf _ ht;have:=(ha a e).1;omega,(ha a e).2⟩⟩
section
variable {σ : SenD} {w0 w w' : World} {T : Nat → Prop} {h : Nat} {D : DM}
theorem OwnT.gl (k:OwnT w0 w T h D) (hG:GlD σ w0):GlD σ w:=hG.below k.below
theorem OwnT.gs (k:OwnT w0 w T h D) (hS:GlS σ w0):GlS σ w:=hS.below k.below
theorem OwnT.apart (k:OwnT w0 w T h D) (hG:GlD σ w0): ∀b,σ.blk b→ ¬T b:=fun b hb ht=>by have:=hG.lt hb;have:=k.lo b ht;omega
theorem OwnT.apartS (k:OwnT w0 w T h D) (hS:GlS σ w0): ∀b,σ.blkS b→ ¬T b:=fun b hb ht=>by have:=hS.lt hb;have:=k.lo b ht;omega
theorem OwnT.next {w2:World} {D':DM} (k:OwnT w0 w T h D) (d:Dev w T h D' w2):OwnT w0 w2 (grow T w w2) h D':=
 ⟨d.at_,d.fr.below k.below k.lo k.below.size,fun j hj=>by
  rcases hj with hj | hj
  · exact k.lo j hj
  · exact Nat.le_trans k.below.size hj.1⟩
theorem OwnT.on (k:OwnT w0 w T h D) (hb:Below w.heap.size w w'):OwnT w0 w' T h D:=⟨k.at_.below hb,k.below.trans (hb.mono k.below.size),k.lo⟩
theorem OwnT.write (hG:GlD σ w0) (k:OwnT w0 w T h D) (hF:D.Few 1000000) (n:Int) (A:Option Addr) (bs:List Int) (c:Nat) (hz:BytesAt w A bs) (hA:bs≠ []→ ∀a,A=some a→ ¬T a.block) (hl:bs.length≤140737488351232):
 Calls Tryz.prog 58 #[.pointer (some ⟨h,0,none⟩),.int .i64 n,.slice A bs.length c] w fun e w2=>e= .returned (.int .i64 (D.write n bs).1)∧OwnT w0 w2 (grow T w w2) h (D.write n bs).2∧Chg T w w2:=
 (write_any σ k.at_ hF (k.gl hG) (k.apart hG) n A bs c hz hA hl).mono fun _ _ ⟨h1,h2⟩=>⟨h1,k.next h2,h2.fr⟩
theorem OwnT.sync (hG:GlD σ w0) (k:OwnT w0 w T h D) (hF:D.Few 1000000):
 Calls Tryz.prog 60 #[.pointer (some ⟨h,0,none⟩)] w fun e w2=>e= .returned (.int .i64 D.sync.1)∧OwnT w0 w2 (grow T w w2) h D.sync.2∧Chg T w w2:=
 (sync_any σ k.at_ hF (k.gl hG) (k.apart hG)).mono fun _ _ ⟨h1,h2⟩=>⟨h1,k.next h2,h2.fr⟩
theorem OwnT.crash (hG:GlD σ w0) (k:OwnT w0 w T h D) (hF:D.Few 1000000):
 Calls Tryz.prog 35 #[.pointer (some ⟨h,0,none⟩)] w fun e w2=>e= .returned (.int .i64 D.crash.1)∧OwnT w0 w2 (grow T w w2) h D.crash.2∧Chg T w w2:=
 (crash_any σ k.at_ hF (k.gl hG)).mono fun _ _ ⟨h1,h2⟩=>⟨h1,k.next h2,h2.fr⟩
theorem OwnT.wake (k:OwnT w0 w T h D) (hF:D.Few 1000000) (stay torn sectors:Int):
 Calls Tryz.prog 36 #[.pointer (some ⟨h,0,none⟩),.int .i64 stay,.int .i64 torn,.int .i64 sectors] w fun e w2=>e= .returned (.int .i64 (D.wake stay torn sectors).1)∧OwnT w0 w2 (grow T w w2) h (D.wake stay torn sectors).2∧Chg T w w2:=
 (wake_any k.at_ hF stay torn sectors).mono fun _ _ ⟨h1,h2⟩=>⟨h1,k.next h2,h2.fr⟩
theorem OwnT.rot (hG:GlD σ w0) (hS:GlS σ w0) (k:OwnT w0 w T h D) (n bit:Int) (mask:Nat) (hm:mask < 4294967296):
 Calls Tryz.prog 38 #[.pointer (some ⟨h,0,none⟩),.int .i64 n,.int .i64 bit,.int .u32 (mask:Int)] w fun e w2=>e= .returned (.int .i64 (D.rot n bit mask).1)∧OwnT w0 w2 (grow T w w2) h (D.rot n bit mask).2∧Chg T w w2:=
 (rot_any σ k.at_ (k.gl hG) (k.gs hS) (k.apart hG) (k.apartS hS) n bit mask hm).mono fun _ _ ⟨h1,h2⟩=>⟨h1,k.next h2,h2.fr⟩
theorem OwnT.wipe (hG:GlD σ w0) (hS:GlS σ w0) (k:OwnT w0 w T h D) (n:Int):
 Calls Tryz.prog 37 #[.pointer (some ⟨h,0,none⟩),.int .i64 n] w fun e w2=>e= .returned (.int .i64 (D.wipe n).1)∧OwnT w0 w2 (grow T w w2) h (D.wipe n).2∧Chg T w w2:=
 (wipe_any σ k.at_ (k.gl hG) (k.gs hS) (k.apart hG) (k.apartS hS) n).mono fun _ _ ⟨h1,h2⟩=>⟨h1,k.next h2,h2.fr⟩
theorem OwnT.stored (k:OwnT w0 w T h D) (n:Int):
 Calls Tryz.prog 25 #[.pointer (some ⟨h,0,none⟩),.int .i64 n] w fun e w2=> ∃v,e= .returned v∧Held w2 T v (D.storedI n)∧Below w.heap.size w w2∧OwnT w0 w2 T h D:=
 (stored_any k.at_ n).mono fun _ _ ⟨v,h1,h2,h3⟩=>⟨v,h1,h2.held k.at_.foot,h3,k.on h3⟩
theorem OwnT.new (hb:Below w0.heap.size w0 w) (n:Nat) (h0:0 < n) (h1:n≤4096):
 Calls Tryz.prog 17 #[.int .i64 (n:Int)] w fun e w2=> ∃h,e= .returned (.tuple #[.pointer (some ⟨h,0,none⟩),.int .i64 0])∧OwnT w0 w2 (fun k=>w.heap.size≤k∧k < w2.heap.size) h (DM.new n)∧Below w.heap.size w w2:=
 (new_any n h0 h1).mono fun _ _ ⟨h,e1,e2,e3⟩=>⟨h,e1,⟨e2,hb.trans (e3.mono hb.size),fun _ hj=>Nat.le_trans hb.size hj.1⟩,e3⟩
end
open Go.RowKit
section
variable {w : World} {T : Nat → Prop} {dk : Nat} {D : DM} (σ : SenD)
theorem DevL.arms {hu tu cr:Nat} {M:List MCell} {ws:List (Nat × List Int)} {left:Int} {dn:Bool} (l:DevL D hu tu cr M ws left dn) (hd:D.down=false) (n:Int) (hn:n≤9223372036854775807):DevL (D.arm n) hu tu cr M ws (if 0≤n then n else 0) dn:=by
 unfold DM.arm
 rw [if_neg (by rw [hd];decide)]
 exact⟨l.hu,l.tu,l.cr,l.len,l.mm,l.ws,l.dn,(fun _=>by show _=((n.toNat:Nat):Int);split<;>omega),by split<;>omega,l.some_⟩
theorem DevR.lefts {C:Nat} {wv:Value} {hu tu cr:Nat} {M:List MCell} {ws:List (Nat × List Int)} {left:Int} {dn:Bool} (k:DevR w T dk C wv hu tu cr M ws left dn) (v:Int):DevR (w.setCell ⟨dk,6,none⟩ (.int .i64 v)) T dk C wv hu tu cr M ws v dn:=
 k.own8 (set_size _ _ _) (fun _ hb=>set_other _ _ _ _ _ hb) (k.blk.set1 6 (.int .i64 v))
theorem arm_any (k:DevAt w T dk D) (hG:GlD σ w) (n:Int) (hn:n≤9223372036854775807):
 Calls Tryz.prog 34 #[.pointer (some ⟨dk,0,none⟩),.int .i64 n] w fun e w'=>e= .returned (.tuple #[])∧Dev w T dk (D.arm n) w':=by
 obtain⟨C,wv,hu,tu,cr,M,ws,left,dn,R,L⟩:=k
 have HT:=qh (up_any σ hG R)
 have HL:=qh L
 have hdn:=L.dn
 have HR:=qh R
 have c6:=R.cell8.2.2.2.2.2.2.1
 have f6:=R.blk.free 6
 clear R L hG
 cases hd:D.down with
 | true=>
   have Hw:Hid (D.arm n=D):=qh (by unfold DM.arm;rw [if_pos hd])
   rw [hdn,hd]at HT
   clear hd hdn
   unfold upE DErr.val errK at *
   simp only [if_true]at HT
   go_enter Tryz.func34,Tryz.ntmps34
   go_wp2_with fail
   refine HT.out.mono ?_
   rintro e w' ⟨rfl,rfl⟩
   go_wp2_with fail
   go_end0
   rw [Hw.out]
   exact⟨rfl,Dev.of (HR.out.mono (fun _ hj=> .inl hj) (grow_lt HR.out.foot (Nat.le_refl _))) HL.out (Chg.refl _ _)⟩
 | false=>
   have HA:=qh (HL.out.arms hd n hn)
   rw [hdn,hd]at HT
   clear hd hdn
   unfold upE DErr.val at HT
   simp only [Bool.false_eq_true,if_false]at HT
   have HE: ∀v:Int,Hid (DevR (w.setCell ⟨dk,6,none⟩ (.int .i64 v)) (grow T w (w.setCell ⟨dk,6,none⟩ (.int .i64 v))) dk C wv hu tu cr M ws v dn∧Chg T w (w.setCell ⟨dk,6,none⟩ (.int .i64 v))):=fun v=>
    qh ⟨(HR.out.lefts v).mono (fun _ hj=> .inl hj) (grow_lt HR.out.foot (Nat.le_of_eq (set_size _ _ _).symm)),(Chg.refl T w).set (.inl HR.out.self) _⟩
   by_cases h0:0≤n
   · rw [if_pos h0]at HA
     have HE:=HE n
     go_enter Tryz.func34,Tryz.ntmps34
     go_wp2_with fail
     refine HT.out.mono ?_
     rintro e w' ⟨rfl,rfl⟩
     go_wp2_with fail
     go_end0
     exact⟨rfl,Dev.of HE.out.1 HA.out HE.out.2⟩
   · rw [if_neg h0]at HA
     have HE:=HE 0
     have h1:n≤0:=by omega
     go_enter Tryz.func34,Tryz.ntmps34
     go_wp2_with fail
     refine HT.out.mono ?_
     rintro e w' ⟨rfl,rfl⟩
     go_wp2_with fail
     go_end0
     exact⟨rfl,Dev.of HE.out.1 HA.out HE.out.2⟩
end
open Go.RowKit
section
variable {w : World} {T : Nat → Prop} {dk C : Nat} {wv : Value} {hu tu cr : Nat} {M : List MCell} {ws : List (Nat × List Int)} {left : Int} {dn : Bool}
theorem seen_any (k:DevR w T dk C wv hu tu cr M ws left dn) (n:Nat) (hn:n < M.length) (hlast:(M.getD n default).last≤ws.length):
 Calls Tryz.prog 163 #[.pointer (some ⟨dk,0,none⟩),.int .i64 (n:Int)] w fun e w'=>e= .returned (.agg (u8s (seenM M ws n)).toArray)∧Below w.heap.size w w':=by
 have hb1:=below_new w (.cells zeroB 119)
 have k1:=k.below hb1
 have c4:=k1.cell8.2.2.2.2.1
 have hz1:=zeroBlock
 have Hz2:=qh zeroCell
 have Hr:=qh (k1.range hn)
 have Hm:=qh (k.mb _ (List.getElem_mem hn))
 have hM:=k.many
 have he:=getD_at hn
 obtain⟨m,hm⟩: ∃m,M[n]=m:=⟨_,rfl⟩
 rw [hm]at Hr Hm he
 rw [he]at hlast
 have Hs:Hid (seenM M ws n=if m.last=0 then m.bs else(ws.getD (m.last - 1) (0,[])).2):=qh (by unfold seenM;rw [he])
 have Hst:=qh (store_cell2 w (.cells zeroB 119) Hm.out)
 have Hlen:=qh (cellV_len Hm.out)
 have Hk:=qh k
 have Hg:=qh (fun h=>cellV_get Hm.out h)
 have hn2:=below_new (w.alloc (.cells zeroB 119)) (.cells (cellV m).toArray 121)
 have HB2:Hid (Below w.heap.size w ((w.alloc (.cells zeroB 119)).alloc (.cells (cellV m).toArray 121))):=qh (hb1.trans (hn2.mono hb1.size))
 have HZ:Hid (BlockIs ((w.alloc (.cells zeroB 119)).alloc (.cells (cellV m).toArray 121)) w.heap.size 119 zeroB):=qh ((BlockIs.made w _ _).below hn2 (BlockIs.made w _ _).lt)
 have HC:Hid (BlockIs ((w.alloc (.cells zeroB 119)).alloc (.cells (cellV m).toArray 121)) (w.heap.size+1) 121 (cellV m).toArray):=qh (by have:=BlockIs.made (w.alloc (.cells zeroB 119)) 121 (cellV m).toArray;rw [size1]at this;exact this)
 have K2:=qh (k.below HB2.out)
 clear he hm k k1 hb1 hn2
 go_enter Tryz.func163,Tryz.ntmps163
 go_wp2_with fail
 refine wp_load_mid 121 (.tmp 11) rfl C (n * 258) (by simp [Act.eval]) (cellV m) _ Hr.out Tryz.underlying121 rfl (by rw [sizeCell,Hlen.out]) ?_
 have hz2:=Hz2.out
 have hst:=Hst.out
 have hlen:=Hlen.out
 go_upto_region 2 with fail
 clear hz1 hz2 hst hlen c4
 have c257:((w.alloc (.cells zeroB 119)).alloc (.cells (cellV m).toArray 121)).cell? ⟨w.heap.size+1,257,none⟩=some (.int .i64 (m.last:Int)):=by rw [HC.out.cell,List.getElem?_toArray];exact cellV_last Hm.out
 have c5:=K2.out.cell8.2.2.2.2.2.1
 generalize ((w.alloc (.cells zeroB 119)).alloc (.cells (cellV m).toArray 121))=w2 at *
 by_cases hl0:m.last=0
 · rw [if_pos hl0]at Hs
   have hl1: ¬(0:Int) < (m.last:Int):=by omega
   have hlen2:(u8s m.bs).length=256:=by rw [u8s_len,Hm.out.1]
   have hst2:=store_all (P:=Tryz.prog) HZ.out (u8s m.bs) (by rw [zeroB_size];exact hlen2) (u8s_one _)
   have Hr2:Hid (w2.rangeAt (w.heap.size+1) 0 (u8s m.bs)):=qh fun j v hj=>by
    rw [Nat.zero_add,HC.out.cell,List.getElem?_toArray]
    unfold cellV
    rw [List.getElem?_append_left (List.getElem?_eq_some_iff.1 hj).1,hj]
   go_wp2_with fail
   refine wp_load_mid 119 (.tmp 26) rfl (w.heap.size+1) 0 (by simp [Act.eval]) (u8s m.bs) _ Hr2.out Tryz.underlying119 rfl (by rw [sizeBlock,hlen2]) ?_
   go_wp2_with fail
   refine bodyPost_ret (v:= .agg (u8s m.bs).toArray) (results_cell_row rfl _ _ w.heap.size 119 (u8s m.bs).toArray (0,0) _ rfl (setRow_heap _ _ _ _ _ _ HZ.out) Tryz.underlying119 rfl (by rw [sizeBlock,List.size_toArray,hlen2])) rfl ⟨?_,below_setRow HB2.out (Nat.le_refl _) _⟩
   rw [Hs.out]
 · rw [if_neg hl0]at Hs
   obtain⟨i,hi⟩: ∃i,m.last=i+1:=⟨m.last - 1,by omega⟩
   rw [hi]at hlast c257 Hs
   clear hl0 hi
   have hlt:i < ws.length:=by omega
   obtain⟨g,cap,hwv,hg2,hg3,hg4,hrg⟩:=range_write K2.out.own (BlkOk.wr K2.out) hlt
   have hpb:=(K2.out.wb _ (List.getElem_mem hlt)).2
   rw [Nat.add_sub_cancel,List.getD_eq_getElem?_getD,List.getElem?_eq_getElem hlt]at Hs
   obtain⟨p,hp⟩: ∃p,ws[i]=p:=⟨_,rfl⟩
   rw [hp]at hrg hpb Hs
   clear hp
   rw [hwv]at c5
   have hlen2:(u8s p.2).length=256:=by rw [u8s_len,hpb.1]
   have Hr3:=qh (write_block hrg)
   have Hp:=qh hpb
   have hmax:ws.length≤9223372036854775807:=by have:maxLen=9223372036854775807:=rfl;omega
   have hwi:IntKind.i64.wrap (i:Int)=(i:Int):=by rw [IntKind.wrap_i64];omega
   have hi1:(i:Int) < (ws.length:Int):=by omega
   clear hrg hpb hg2 hg3
   go_wp2_with fail
   refine wp_region_held_drew (S:=fun w'=>w'.cell? ⟨dk,5,none⟩=some (.slice (some ⟨g,0,none⟩) ws.length cap)∧w'.cell? ⟨w.heap.size+1,257,none⟩=some (.int .i64 ((i:Int)+1))∧w'.rangeAt g (i * 257+1) (u8s p.2)) (by kernel_rfl) ⟨c5,by simpa using c257,Hr3.out⟩ (fun hS0=> ?_)
   refine wpAnyH_take (i:=0) (v:= ?_) rfl (by kernel_rfl) (by kernel_rfl) (by kernel_rfl) (fun _ _ _ h=>h) (Or.inl ⟨by rfl,?_⟩) hS0 ?_
   rotate_left
   · (intro w' _;go_simp);try with_reducible rfl
   simp only [Act.put,List.getElem_toArray,List.getElem_cons_zero,List.setIfInBounds_toArray,List.set_cons_zero,List.set_cons_succ]
   refine wpAnyH_take (i:=1) (v:= ?_) rfl (by kernel_rfl) (by kernel_rfl) (by kernel_rfl) (fun _ _ _ h=>h) (Or.inl ⟨by rfl,?_⟩) hS0 ?_
   rotate_left
   · (intro w' _;go_simp);try with_reducible rfl
   simp only [Act.put,List.getElem_toArray,List.getElem_cons_zero,List.getElem_cons_succ,List.setIfInBounds_toArray,List.set_cons_zero,List.set_cons_succ]
   refine wpAnyH_take (i:=2) (v:= ?_) rfl (by kernel_rfl) (by kernel_rfl) (by kernel_rfl) (fun _ _ _ h=>h) (Or.inl ⟨by rfl,?_⟩) hS0 ?_
   rotate_left
   · (intro w' _;go_simp);try with_reducible rfl
   simp only [Act.put,List.getElem_toArray,List.getElem_cons_zero,List.getElem_cons_succ,List.setIfInBounds_toArray,List.set_cons_zero,List.set_cons_succ]
   refine wpAnyH_take (i:=3) (v:= ?_) rfl (by kernel_rfl) (by kernel_rfl) (by kernel_rfl) (fun _ _ _ h=>h) (Or.inl ⟨by rfl,?_⟩) hS0 ?_
   rotate_left
   · (intro w' hSw;obtain⟨hS1,hS2,_⟩:=hSw;go_simp);try with_reducible rfl
   simp only [Act.put,List.getElem_toArray,List.getElem_cons_zero,List.getElem_cons_succ,List.setIfInBounds_toArray,List.set_cons_zero,List.set_cons_succ]
   refine wpAnyH_take (i:=4) (v:= ?_) rfl (by kernel_rfl) (by kernel_rfl) (by kernel_rfl) (fun _ _ _ h=>h) (Or.inl ⟨by rfl,?_⟩) hS0 ?_
   rotate_left
   · (intro w' _;go_simp);try with_reducible rfl
   simp only [Act.put,List.getElem_toArray,List.getElem_cons_zero,List.getElem_cons_succ,List.setIfInBounds_toArray,List.set_cons_zero,List.set_cons_succ]
   refine wpAnyH_take (i:=5) (v:= ?_) rfl (by kernel_rfl) (by kernel_rfl) (by kernel_rfl) (fun _ _ _ h=>h) (Or.inl ⟨by rfl,?_⟩) hS0 ?_
   rotate_left
   · (intro w' hSw;obtain⟨hS1,hS2,_⟩:=hSw;go_simp);try with_reducible rfl
   simp only [Act.put,List.getElem_toArray,List.getElem_cons_zero,List.getElem_cons_succ,List.setIfInBounds_toArray,List.set_cons_zero,List.set_cons_succ]
   refine wpAnyH_take (i:=6) (v:= ?_) rfl (by kernel_rfl) (by kernel_rfl) (by kernel_rfl) (fun _ _ _ h=>h) (Or.inl ⟨by rfl,?_⟩) hS0 ?_
   rotate_left
   · (intro w' _;go_simp);try with_reducible rfl
   simp only [Act.put,List.getElem_toArray,List.getElem_cons_zero,List.getElem_cons_succ,List.setIfInBounds_toArray,List.set_cons_zero,List.set_cons_succ]
   refine wpAnyH_take (i:=7) (v:= ?_) rfl (by kernel_rfl) (by kernel_rfl) (by kernel_rfl) (fun _ _ _ h=>h) (Or.inl ⟨by rfl,?_⟩) hS0 ?_
   rotate_left
   · (intro w' _;go_simp);try with_reducible rfl
   simp only [Act.put,List.getElem_toArray,List.getElem_cons_zero,List.getElem_cons_succ,List.setIfInBounds_toArray,List.set_cons_zero,List.set_cons_succ]
   refine wpAnyH_take (i:=8) (v:= ?_) rfl (by kernel_rfl) (by kernel_rfl) (by kernel_rfl) (fun _ _ _ h=>h) (Or.inl ⟨by rfl,?_⟩) hS0 ?_
   rotate_left
   · (intro w' _;go_simp);try with_reducible rfl
   simp only [Act.put,List.getElem_toArray,List.getElem_cons_zero,List.getElem_cons_succ,List.setIfInBounds_toArray,List.set_cons_zero,List.set_cons_succ]
   refine wpAnyH_take (i:=9) rfl (by kernel_rfl) (by kernel_rfl) (by kernel_rfl) (fun _ _ _ h=>h) (yieldsIf_load_mid (by rfl) 119 (.tmp 24) rfl g (i * 257+1) rfl (u8s p.2) _ (fun w' hS=>hS.2.2) Tryz.underlying119 rfl (by rw [sizeBlock,hlen2])) hS0 ?_
   simp only [Act.put,List.getElem_toArray,List.getElem_cons_zero,List.getElem_cons_succ,List.setIfInBounds_toArray,List.set_cons_zero,List.set_cons_succ]
   refine wpAnyH_ready (rs:= [10]) (by kernel_rfl) (by simp) ?_
   refine AllReadyH.cons rfl (fun K hK=> ?_) AllReadyH.nil
   rw [if_pos (by rfl)]
   refine wp_store_row 119 (.tmp 4) (.tmp 25) rfl w.heap.size (u8s p.2).toArray rfl rfl 119 zeroB HZ.out (by rw [sizeBlock,List.size_toArray,hlen2]) (by rw [zeroB_size,List.size_toArray,hlen2]) (all_oneCell_toArray (u8s_one _)) ?_
   have hn1:dk≠w.heap.size:=fun e=>by have:=Hk.out.lt;omega
   have hn2:g≠w.heap.size:=fun e=>by have:=own_lt Hk.out.own (b:=g) (by rw [hwv];rfl);omega
   refine hK.out _ _ ⟨(World.cell?_of_block (a:=⟨dk,5,none⟩) (setRow_other _ _ _ _ hn1)).trans hS0.1,(World.cell?_of_block (a:=⟨w.heap.size+1,257,none⟩) (setRow_other _ _ _ _ (by show w.heap.size+1≠_;omega))).trans hS0.2.1,fun j v hj=>(World.cell?_of_block (a:=⟨g,i * 257+1+j,none⟩) (setRow_other _ _ _ _ hn2)).trans (hS0.2.2 j v hj)⟩ (fun _=> ?_)
   clear hK K
   refine wpAnyH_done (by kernel_rfl) ?_ _
   go_wp2_with fail
   refine bodyPost_ret (v:= .agg (u8s p.2).toArray) (results_cell_row rfl _ _ w.heap.size 119 (u8s p.2).toArray (0,0) _ rfl (setRow_heap _ _ _ _ _ _ HZ.out) Tryz.underlying119 rfl (by rw [sizeBlock,List.size_toArray,hlen2])) rfl ⟨?_,below_setRow HB2.out.drew (Nat.le_refl _) _⟩
   rw [Hs.out];rfl
end
open Go.RowKit
section
variable {w : World} {T : Nat → Prop} {dk : Nat} {D : DM} (σ : SenD)
theorem reachE_eq {hu tu cr:Nat} {M:List MCell} {ws:List (Nat × List Int)} {left:Int} {dn:Bool} (L:DevL D hu tu cr M ws left dn) (n:Int):reachE dn M n=if D.down then .dn else if D.has n then .ok else .bk:=by
 unfold reachE
 rw [L.hasB,L.dn]
 by_cases h:D.has n<;>simp [h]
theorem read_any (k:DevAt w T dk D) (hG:GlD σ w) (n:Int):
 Calls Tryz.prog 150 #[.pointer (some ⟨dk,0,none⟩),.int .i64 n] w fun e w'=> ∃v,e= .returned (.tuple #[v,.int .i64 (D.read n).2])∧OutAt w' w.heap.size v (D.read n).1∧Below w.heap.size w w':=by
 have HO:=qh k.ok
 obtain⟨C,wv,hu,tu,cr,M,ws,left,dn,R,L⟩:=k
 have HT:=qh (reaches_any σ hG R n)
 rw [reachE_eq L]at HT
 have HE:=qh (fun x hx=>errno_any σ w hG x hx)
 have HR:=qh R
 have HL:=qh L
 clear R L hG
 cases hd:D.down with
 | true=>
   have Hw:Hid (D.read n=([],11)):=qh (by unfold DM.read;rw [if_pos hd])
   have HE:=qh (HE.out .dn (by intro e;cases e))
   rw [if_pos hd]at HT
   clear hd
   unfold DErr.val errK at *
   go_enter Tryz.func150,Tryz.ntmps150
   go_wp2_with fail
   refine HT.out.mono ?_
   rintro e w' ⟨rfl,rfl⟩
   go_wp2_with fail
   refine HE.out.mono ?_
   rintro e w4 ⟨rfl,hb4⟩
   have HB4:=qh hb4
   clear hb4
   go_wp2_with fail
   go_ret2
   rw [Hw.out]
   exact⟨_,rfl,.inl ⟨rfl,rfl⟩,HB4.out⟩
 | false=>
   by_cases hn:D.has n
   · have Hw:Hid (D.read n=(D.seen n.toNat,0)):=qh (by unfold DM.read;rw [if_neg (by rw [hd];decide),if_pos hn])
     rw [if_neg (by rw [hd];decide),if_pos hn]at HT
     unfold DM.has at hn
     obtain⟨m,rfl⟩:=Int.eq_ofNat_of_zero_le hn.1
     have hm:m < M.length:=by have:=HL.out.len;omega
     have hs:=seenM_eq HL.out hm
     have HS:=qh (seen_any HR.out m hm hs.2)
     rw [hs.1]at HS
     have HB:=qh (HO.out.seen (n:=m) (by omega))
     rw [Int.toNat_natCast]at Hw
     have hz:=zeroBlock
     have hlen:(u8s (D.seen m)).length=256:=by rw [u8s_len,HB.out.1]
     have hst:=fun w'=>store_block1 w' HB.out
     clear hd hn hs
     unfold DErr.val at HT
     go_enter Tryz.func150,Tryz.ntmps150
     go_wp2_with fail
     refine HT.out.mono ?_
     rintro e w' ⟨rfl,rfl⟩
     go_wp2_with fail
     refine HS.out.mono ?_
     rintro e w4 ⟨rfl,hb4⟩
     have HB4:=qh hb4
     clear hb4
     go_wp2_with fail
     go_ret2
     rw [Hw.out]
     have hsz:=HB4.out.size
     refine⟨_,rfl,.inr ⟨w4.heap.size,119,?_,hsz,BlockIs.made w4 _ _,HB.out.2⟩,HB4.out.trans ((below_new w4 _).mono hsz)⟩
     rw [HB.out.1];rfl
   · have Hw:Hid (D.read n=([],2)):=qh (by unfold DM.read;rw [if_neg (by rw [hd];decide),if_neg hn])
     have HE:=qh (HE.out .bk (by intro e;cases e))
     rw [if_neg (by rw [hd];decide),if_neg hn]at HT
     clear hd
     unfold DErr.val errK at *
     go_enter Tryz.func150,Tryz.ntmps150
     go_wp2_with fail
     refine HT.out.mono ?_
     rintro e w' ⟨rfl,rfl⟩
     go_wp2_with fail
     refine HE.out.mono ?_
     rintro e w4 ⟨rfl,hb4⟩
     have HB4:=qh hb4
     clear hb4
     go_wp2_with fail
     go_ret2
     rw [Hw.out]
     exact⟨_,rfl,.inl ⟨rfl,rfl⟩,HB4.out⟩
end
open Go.RowKit
section
variable {w : World} {T : Nat → Prop} {dk : Nat} {D : DM}
def statV (a b c d e:Int) (f:Bool):Value:= .agg #[.int .i64 a,.int .i64 b,.int .i64 c,.int .i64 d,.int .i64 e,.bool f]
def DM.statV (D:DM):Value:=Go.Proofs.YtpaikolnampcfaaGreatDoor.statV D.cells.length D.waits.length (hurts D.cells) D.turns D.crashes D.down
theorem stat_any (k:DevAt w T dk D):
 Calls Tryz.prog 20 #[.pointer (some ⟨dk,0,none⟩)] w fun e w'=>e= .returned D.statV∧Below w.heap.size w w':=by
 obtain⟨C,wv,hu,tu,cr,M,ws,left,dn,R,L⟩:=k
 have hbn:=below_new w (.cells #[.int .i64 0,.int .i64 0,.int .i64 0,.int .i64 0,.int .i64 0,.bool false] 49)
 have k1:=R.below hbn
 obtain⟨c0,c1,c2,c3,c4,c5,c6,c7⟩:=k1.cell8
 obtain⟨X,cap,hwv,hc1,hc2⟩:=own_slice k1.own
 rw [hwv]at c5
 have HV:Hid (D.statV=Go.Proofs.YtpaikolnampcfaaGreatDoor.statV M.length ws.length hu tu cr dn):=qh (by unfold DM.statV;rw [L.len,L.ws,L.hu,L.tu,L.cr,L.dn])
 have Hb:=qh hbn
 have Hlt:=qh R.lt
 clear c6 R L hbn k1
 go_enter Tryz.func20,Tryz.ntmps20
 go_wp2_with fail
 refine(told_any _ dk c3).mono ?_
 rintro e w' ⟨rfl,rfl⟩
 have HS:=qh (BlockIs.made w 49 #[.int .i64 0,.int .i64 0,.int .i64 0,.int .i64 0,.int .i64 0,.bool false])
 have Hne:w.heap.size≠dk:=fun e=>by have:=Hlt.out;omega
 generalize (w.alloc (.cells #[.int .i64 0,.int .i64 0,.int .i64 0,.int .i64 0,.int .i64 0,.bool false] 49))=w1 at *
 have s0:w1.cell? ⟨w.heap.size,0,none⟩=some (.int .i64 0):=HS.out.cell 0
 have s1:w1.cell? ⟨w.heap.size,1,none⟩=some (.int .i64 0):=HS.out.cell 1
 have s2:w1.cell? ⟨w.heap.size,2,none⟩=some (.int .i64 0):=HS.out.cell 2
 have s3:w1.cell? ⟨w.heap.size,3,none⟩=some (.int .i64 0):=HS.out.cell 3
 have s4:w1.cell? ⟨w.heap.size,4,none⟩=some (.int .i64 0):=HS.out.cell 4
 have s5:w1.cell? ⟨w.heap.size,5,none⟩=some (.bool false):=HS.out.cell 5
 have f0:=HS.out.free 0
 have f1:=HS.out.free 1
 have f2:=HS.out.free 2
 have f3:=HS.out.free 3
 have f4:=HS.out.free 4
 have f5:=HS.out.free 5
 have H6:Hid (BlockIs ((((((w1.setCell ⟨w.heap.size,0,none⟩ (.int .i64 (M.length:Int))).setCell ⟨w.heap.size,1,none⟩ (.int .i64 (ws.length:Int))).setCell ⟨w.heap.size,2,none⟩ (.int .i64 (hu:Int))).setCell ⟨w.heap.size,3,none⟩ (.int .i64 (tu:Int))).setCell ⟨w.heap.size,4,none⟩ (.int .i64 (cr:Int))).setCell ⟨w.heap.size,5,none⟩ (.bool dn)) w.heap.size 49 #[.int .i64 (M.length:Int),.int .i64 (ws.length:Int),.int .i64 (hu:Int),.int .i64 (tu:Int),.int .i64 (cr:Int),.bool dn]∧
  Below w.heap.size w ((((((w1.setCell ⟨w.heap.size,0,none⟩ (.int .i64 (M.length:Int))).setCell ⟨w.heap.size,1,none⟩ (.int .i64 (ws.length:Int))).setCell ⟨w.heap.size,2,none⟩ (.int .i64 (hu:Int))).setCell ⟨w.heap.size,3,none⟩ (.int .i64 (tu:Int))).setCell ⟨w.heap.size,4,none⟩ (.int .i64 (cr:Int))).setCell ⟨w.heap.size,5,none⟩ (.bool dn))):=by
  have h1:BlockIs _ _ _ #[.int .i64 (M.length:Int),.int .i64 0,.int .i64 0,.int .i64 0,.int .i64 0,.bool false]:=HS.out.set1 0 (.int .i64 (M.length:Int))
  have h2:BlockIs _ _ _ #[.int .i64 (M.length:Int),.int .i64 (ws.length:Int),.int .i64 0,.int .i64 0,.int .i64 0,.bool false]:=h1.set1 1 (.int .i64 (ws.length:Int))
  have h3:BlockIs _ _ _ #[.int .i64 (M.length:Int),.int .i64 (ws.length:Int),.int .i64 (hu:Int),.int .i64 0,.int .i64 0,.bool false]:=h2.set1 2 (.int .i64 (hu:Int))
  have h4:BlockIs _ _ _ #[.int .i64 (M.length:Int),.int .i64 (ws.length:Int),.int .i64 (hu:Int),.int .i64 (tu:Int),.int .i64 0,.bool false]:=h3.set1 3 (.int .i64 (tu:Int))
  have h5:BlockIs _ _ _ #[.int .i64 (M.length:Int),.int .i64 (ws.length:Int),.int .i64 (hu:Int),.int .i64 (tu:Int),.int .i64 (cr:Int),.bool false]:=h4.set1 4 (.int .i64 (cr:Int))
  have hc: ∀(w':World) (i:Nat) (v:Value),Below w.heap.size w w'→Below w.heap.size w (w'.setCell ⟨w.heap.size,i,none⟩ v):=fun w' i v h=>h.setCell (Nat.le_refl _) _
  exact qh ⟨h5.set1 5 (.bool dn),hc _ _ _ (hc _ _ _ (hc _ _ _ (hc _ _ _ (hc _ _ _ (hc _ _ _ Hb.out)))))⟩
 clear c3 hwv hc1 hc2
 go_wp2_with fail
 go_region
 clear c0 c1 c2 c4 c5 c7 s0 s1 s2 s3 s4 s5 f0 f1 f2 f3 f4 f5
 generalize ((((((w1.setCell ⟨w.heap.size,0,none⟩ (.int .i64 (M.length:Int))).setCell ⟨w.heap.size,1,none⟩ (.int .i64 (ws.length:Int))).setCell ⟨w.heap.size,2,none⟩ (.int .i64 (hu:Int))).setCell ⟨w.heap.size,3,none⟩ (.int .i64 (tu:Int))).setCell ⟨w.heap.size,4,none⟩ (.int .i64 (cr:Int))).setCell ⟨w.heap.size,5,none⟩ (.bool dn))=w7 at *
 go_wp2_with fail
 have sizeStat:(Tryz.prog.info? 49).map (·.size)=some 6:=by kernel_rfl
 refine bodyPost_ret (v:=Go.Proofs.YtpaikolnampcfaaGreatDoor.statV M.length ws.length hu tu cr dn) (results_cell_row rfl _ _ w.heap.size 49 #[.int .i64 (M.length:Int),.int .i64 (ws.length:Int),.int .i64 (hu:Int),.int .i64 (tu:Int),.int .i64 (cr:Int),.bool dn] (0,0) _ rfl H6.out.1 Tryz.underlying49 rfl (by rw [sizeStat];rfl)) rfl ⟨by rw [HV.out],H6.out.2.drew⟩
end
open Go.RowKit
structure Stp (w0 w:World) (T:Nat→Prop) (h:Nat) (D:DM) (w':World):Prop where
 own:OwnT w0 w' (grow T w w') h D
 fr:Chg T w w'
section
variable {w0 w w1 w2 : World} {T : Nat → Prop} {h : Nat} {D D1 D2 : DM}
theorem OwnT.mono {T':Nat→Prop} (k:OwnT w0 w T h D) (hT: ∀j,T j→T' j) (hf: ∀j,T' j→j < w.heap.size) (hl: ∀j,T' j→w0.heap.size≤j):OwnT w0 w T' h D:=⟨k.at_.mono hT hf,k.below,hl⟩
theorem OwnT.foot (k:OwnT w0 w T h D): ∀j,T j→j < w.heap.size:=k.at_.foot
theorem Stp.below (k:OwnT w0 w T h D) (hb:Below w.heap.size w w1):Stp w0 w T h D w1:=
 ⟨(k.on hb).mono (fun _ hj=> .inl hj) (grow_lt k.foot hb.size) (fun j hj=>by
   rcases hj with hj | hj
   · exact k.lo j hj
   · exact Nat.le_trans k.below.size hj.1),Chg.of_below hb⟩
theorem Stp.refl (k:OwnT w0 w T h D):Stp w0 w T h D w:=Stp.below k (Below.refl _ _)
theorem Stp.trans (a:Stp w0 w T h D1 w1) (b:Stp w0 w1 (grow T w w1) h D2 w2):Stp w0 w T h D2 w2:=
 ⟨b.own.mono (grow_trans a.fr.size b.fr.size) (fun j hj=>by
  rcases hj with hj | hj
  · exact b.own.foot j (.inl (.inl hj))
  · exact hj.2) (fun j hj=>by
  rcases hj with hj | hj
  · exact a.own.lo j (.inl hj)
  · by_cases hw:j < w1.heap.size
    · exact a.own.lo j (.inr ⟨hj.1,hw⟩)
    · exact b.own.lo j (.inr ⟨by omega,hj.2⟩)),a.fr.trans b.fr⟩
theorem Stp.on (a:Stp w0 w T h D1 w1) (hb:Below w1.heap.size w1 w2):Stp w0 w T h D1 w2:=a.trans (Stp.below a.own hb)
theorem Stp.after {hb:Below w.heap.size w w1} (k:OwnT w0 w T h D) (b:Stp w0 w1 T h D2 w2):Stp w0 w T h D2 w2:=
 ⟨b.own.mono (fun j hj=>by
  rcases hj with hj | hj
  · exact .inl hj
  · exact .inr ⟨Nat.le_trans hb.size hj.1,hj.2⟩) (fun j hj=>by
  rcases hj with hj | hj
  · exact b.own.foot j (.inl hj)
  · exact hj.2) (fun j hj=>by
  rcases hj with hj | hj
  · exact k.lo j hj
  · exact Nat.le_trans k.below.size hj.1),(Chg.of_below hb).trans (b.fr.mono (fun _ hj=> .inl hj))⟩
theorem Stp.kept (a:Stp w0 w T h D1 w1) {g:Nat} (hg:g < w.heap.size) (hT: ¬T g):w1.heap[g]? =w.heap[g]? :=a.fr.block g hg hT
theorem Stp.off (_a:Stp w0 w T h D1 w1) {g:Nat} (hg:g < w.heap.size) (hT: ¬T g): ¬grow T w w1 g:=by
 rintro(hh | hh)
 · exact hT hh
 · omega
end
theorem few6 {D:DM} {k:Nat} (hF:D.Few k) (hk:k≤999000):D.Few 1000000:=fewUp hF (by omega)
section
variable {δ : SenD} {w0 w : World} {T : Nat → Prop} {h : Nat} {D : DM}
theorem write_stp (hD:GlD δ w0) (k:OwnT w0 w T h D) {q:Nat} (hF:D.Few q) (hq:q≤999000) (n:Int) (A:Option Addr) (bs:List Int) (c:Nat) (hz:BytesAt w A bs) (ho: ∀a,A=some a→ ¬T a.block) (hl:bs.length≤140737488351232):
 Calls Tryz.prog 58 #[.pointer (some ⟨h,0,none⟩),.int .i64 n,.slice A bs.length c] w fun e w2=>e= .returned (.int .i64 (D.write n bs).1)∧Stp w0 w T h (D.write n bs).2 w2:=
 (OwnT.write hD k (few6 hF hq) n A bs c hz (fun _ a e=>ho a e) hl).mono fun _ _ ⟨h1,h2,h3⟩=>⟨h1,h2,h3⟩
theorem sync_stp (hD:GlD δ w0) (k:OwnT w0 w T h D) {q:Nat} (hF:D.Few q) (hq:q≤999000):
 Calls Tryz.prog 60 #[.pointer (some ⟨h,0,none⟩)] w fun e w2=>e= .returned (.int .i64 D.sync.1)∧Stp w0 w T h D.sync.2 w2:=
 (OwnT.sync hD k (few6 hF hq)).mono fun _ _ ⟨h1,h2,h3⟩=>⟨h1,h2,h3⟩
theorem arm_stp (hD:GlD δ w0) (k:OwnT w0 w T h D) (n:Int) (hn:n≤9223372036854775807):
 Calls Tryz.prog 34 #[.pointer (some ⟨h,0,none⟩),.int .i64 n] w fun e w2=>e= .returned (.tuple #[])∧Stp w0 w T h (D.arm n) w2:=
 (arm_any δ k.at_ (k.gl hD) n hn).mono fun _ _ ⟨h1,h2⟩=>⟨h1,k.next h2,h2.fr⟩
theorem crash_stp (hD:GlD δ w0) (k:OwnT w0 w T h D) {q:Nat} (hF:D.Few q) (hq:q≤999000):
 Calls Tryz.prog 35 #[.pointer (some ⟨h,0,none⟩)] w fun e w2=>e= .returned (.int .i64 D.crash.1)∧Stp w0 w T h D.crash.2 w2:=
 (OwnT.crash hD k (few6 hF hq)).mono fun _ _ ⟨h1,h2,h3⟩=>⟨h1,h2,h3⟩
theorem wake_stp (k:OwnT w0 w T h D) {q:Nat} (hF:D.Few q) (hq:q≤999000) (stay torn sectors:Int):
 Calls Tryz.prog 36 #[.pointer (some ⟨h,0,none⟩),.int .i64 stay,.int .i64 torn,.int .i64 sectors] w fun e w2=>e= .returned (.int .i64 (D.wake stay torn sectors).1)∧Stp w0 w T h (D.wake stay torn sectors).2 w2:=
 (OwnT.wake k (few6 hF hq) stay torn sectors).mono fun _ _ ⟨h1,h2,h3⟩=>⟨h1,h2,h3⟩
theorem rot_stp (hD:GlD δ w0) (hS:GlS δ w0) (k:OwnT w0 w T h D) (n bit:Int) (mask:Nat) (hm:mask < 4294967296):
 Calls Tryz.prog 38 #[.pointer (some ⟨h,0,none⟩),.int .i64 n,.int .i64 bit,.int .u32 (mask:Int)] w fun e w2=>e= .returned (.int .i64 (D.rot n bit mask).1)∧Stp w0 w T h (D.rot n bit mask).2 w2:=
 (OwnT.rot hD hS k n bit mask hm).mono fun _ _ ⟨h1,h2,h3⟩=>⟨h1,h2,h3⟩
theorem wipe_stp (hD:GlD δ w0) (hS:GlS δ w0) (k:OwnT w0 w T h D) (n:Int):
 Calls Tryz.prog 37 #[.pointer (some ⟨h,0,none⟩),.int .i64 n] w fun e w2=>e= .returned (.int .i64 (D.wipe n).1)∧Stp w0 w T h (D.wipe n).2 w2:=
 (OwnT.wipe hD hS k n).mono fun _ _ ⟨h1,h2,h3⟩=>⟨h1,h2,h3⟩
theorem Stp.bytes {D1:DM} {w1:World} (a:Stp w0 w T h D1 w1) {A:Option Addr} {bs:List Int} (hz:BytesAt w A bs) (ho: ∀x,A=some x→ ¬T x.block∧x.block < w.heap.size):BytesAt w1 A bs∧ ∀x,A=some x→ ¬grow T w w1 x.block∧x.block < w1.heap.size:=
 ⟨hz.hold fun x e=>a.kept (ho x e).2 (ho x e).1,fun x e=>⟨a.off (ho x e).2 (ho x e).1,Nat.lt_of_lt_of_le (ho x e).2 a.fr.size⟩⟩
theorem Stp.block {D1:DM} {w1:World} (a:Stp w0 w T h D1 w1) {g:Nat} {t:TypeId} {cs:Array Value} (hB:BlockIs w g t cs) (hT: ¬T g):BlockIs w1 g t cs∧ ¬grow T w w1 g:=⟨hB.keep (a.kept hB.lt hT),a.off hB.lt hT⟩
end
end Go.Proofs.YtpaikolnampcfaaGreatDoor
