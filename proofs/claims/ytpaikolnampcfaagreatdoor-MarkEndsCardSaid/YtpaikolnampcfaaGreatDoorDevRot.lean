/- Bits of a block are turned. -/
import Derived.Test.YtpaikolnampcfaaGreatDoorDevStored
import Derived.BigRegion
import Derived.Deep.LoopGhost
import Derived.Test.YtpaikolnampcfaaGreatDoorDevWake
import Derived.ChangeKeysEq
import Derived.Deep.RegionHeld3
namespace Go.Proofs.YtpaikolnampcfaaGreatDoor
set_option maxRecDepth 100000
set_option maxHeartbeats 2000000
open Go.RowKit
theorem xor_all : ∀(x:Fin 256) (j:Fin 8),bits .xor .u8 (x.val:Int) (((1 <<< j.val:Nat)):Int)=((x.val ^^^ (1 <<< j.val):Nat):Int)∧bits .xor .u8 (x.val:Int) 0=(x.val:Int):=by decide +kernel
theorem mask_bit (m k:Nat) (hm:m < 4294967296):bits .and .u32 ((m:Int) / 2 ^ k) 1=if m.testBit k then 1 else 0:=by
 have h1:((m:Int) / 2 ^ k)=((m / 2 ^ k:Nat):Int):=by rw [Int.natCast_ediv,Int.natCast_pow];rfl
 have h2:m / 2 ^ k < 4294967296:=Nat.lt_of_le_of_lt (Nat.div_le_self _ _) hm
 rw [h1,show(1:Int)=((1:Nat):Int)from rfl,u32_and_nat _ _ h2 (by decide),Nat.and_one_is_mod,Nat.testBit_eq_decide_div_mod_eq]
 have h3:m / 2 ^ k % 2=0∨m / 2 ^ k % 2=1:=by omega
 rcases h3 with h3 | h3<;>simp [h3]
theorem flip_val (x:Int) (hx:0≤x∧x < 256) (m k j:Nat) (hm:m < 4294967296) (hj:j < 8):
 bits .xor .u8 x (bits .and .u32 ((m:Int) / 2 ^ k) 1 % 256 * 2 ^ j % 256)=if m.testBit k then((x.toNat ^^^ (1 <<< j):Nat):Int)else x:=by
 have hx2:(x.toNat:Int)=x:=by omega
 have h:=xor_all ⟨x.toNat,by omega⟩ ⟨j,hj⟩
 simp only [hx2]at h
 rw [mask_bit m k hm]
 split
 · have h2:(1 % 256 * 2 ^ j % 256:Int)=((1 <<< j:Nat):Int):=by
    rw [Nat.one_shiftLeft]
    match j,hj with
    | 0,_=>rfl
    | 1,_=>rfl
    | 2,_=>rfl
    | 3,_=>rfl
    | 4,_=>rfl
    | 5,_=>rfl
    | 6,_=>rfl
    | 7,_=>rfl
   rw [h2];exact h.1
 · have h2:(0 % 256 * 2 ^ j % 256:Int)=0:=by simp
   rw [h2];exact h.2
theorem flipAt_set (b:List Int) (bit mask i:Nat) (hok:BlkOk b) (hj:(bit+i) / 8 < 256):flipAt b bit mask i=b.set ((bit+i) / 8) (if mask.testBit i then(((b.getD ((bit+i) / 8) 0).toNat ^^^ (1 <<< ((bit+i) % 8)):Nat):Int)else b.getD ((bit+i) / 8) 0):=by
 unfold flipAt
 split
 · rfl
 · exact(set_same b _ (by rw [hok.1];exact hj)).symm
section
variable {w : World}
theorem flip_any (B:Nat) (bs:List Int) (hb:BlkOk bs) (hB:BlockIs w B 119 (u8s bs).toArray) (bit:Nat) (hbit:bit < 2048) (mask:Nat) (hm:mask < 4294967296):
 Calls Tryz.prog 83 #[.pointer (some ⟨B,0,none⟩),.int .i64 (bit:Int),.int .u32 (mask:Int)] w fun e w'=>e= .returned (.tuple #[])∧BlockIs w' B 119 (u8s (flipK bs bit mask (min 32 (2048 - bit)))).toArray∧w.grownBy w' (some B)∧w'.heap.size=w.heap.size:=by
 obtain⟨N,hN⟩: ∃N,N=min 32 (2048 - bit):=⟨_,rfl⟩
 have hN':(N:Int)=min 32 (2048 - (bit:Int)):=by omega
 have hN1:N≤32:=by omega
 have hN2:bit+N≤2048:=by omega
 rw [← hN]
 have h1: ¬(bit:Int) < 0:=by omega
 have h2: ¬(2048:Int)≤(bit:Int):=by omega
 have HN:=qh hN
 clear hN
 have hmin:(N=32∧(32:Int)≤2048 - (bit:Int))∨((N:Int)=2048 - (bit:Int)∧ ¬(32:Int)≤2048 - (bit:Int)):=by omega
 clear hN'
 rcases hmin with⟨hN3,hmin⟩ | ⟨hN3,hmin⟩
 · have hN4:(N:Int)=32:=by omega
   go_enter Tryz.func83,Tryz.ntmps83
   go_wp2_with fail
   go_loopg [17] N (fun g i wx=> ∃k:Nat,g=N - k∧k≤N∧i= .int .i64 (k:Int)∧Hid (BlockIs wx B 119 (u8s (flipK bs bit mask k)).toArray∧w.grownBy wx (some B)∧wx.heap.size=w.heap.size))
   case atStart=>exact⟨0,rfl,by omega,rfl,qh ⟨hB,World.grownBy.refl _ _,rfl⟩⟩
   case round=>
    obtain⟨k,hgk,hk,rfl,hR⟩:=hrel
    have Hgk:=qh hgk;clear hgk
    by_cases hlt:k < N
    · have hlt':(k:Int) < 32:=by omega
      have hlt2:(k:Int) < 2048 - (bit:Int):=by omega
      have hok:=flipK_ok hb bit mask k
      have hj:(bit+k) / 8 < 256:=by omega
      have cx:wr.cell? ⟨B,(bit+k) / 8,none⟩=some (.int .u8 ((flipK bs bit mask k).getD ((bit+k) / 8) 0)):=by
       rw [hR.out.1.cell,List.getElem?_toArray]
       unfold u8s
       rw [List.getElem?_map,List.getD_eq_getElem?_getD,List.getElem?_eq_getElem (by rw [hok.1];exact hj)];rfl
      have fx:=hR.out.1.free ((bit+k) / 8)
      have hxb:0≤(flipK bs bit mask k).getD ((bit+k) / 8) 0∧(flipK bs bit mask k).getD ((bit+k) / 8) 0 < 256:=by
       rw [List.getD_eq_getElem?_getD,List.getElem?_eq_getElem (by rw [hok.1];exact hj)]
       exact hok.2 _ (List.getElem_mem _)
      have hfl:=flip_val _ hxb mask k ((bit+k) % 8) hm (Nat.mod_lt _ (by decide))
      have HF:Hid (flipK bs bit mask (k+1)=(flipK bs bit mask k).set ((bit+k) / 8) (bits .xor .u8 ((flipK bs bit mask k).getD ((bit+k) / 8) 0) (bits .and .u32 ((mask:Int) / 2 ^ k) 1 % 256 * 2 ^ ((bit+k) % 8) % 256))):=qh (by
       rw [hfl]
       exact flipAt_set _ _ _ _ hok hj)
      clear hfl hxb
      generalize (flipK bs bit mask k).getD ((bit+k) / 8) 0=x at *
      go_wp2_with fail
      go_region
      have HS:=qh (hR.out.1.set1 ((bit+k) / 8) (.int .u8 (bits .xor .u8 x (bits .and .u32 ((mask:Int) / 2 ^ k) 1 % 256 * 2 ^ ((bit+k) % 8) % 256))))
      clear cx fx
      generalize (bits .xor .u8 x (bits .and .u32 ((mask:Int) / 2 ^ k) 1 % 256 * 2 ^ ((bit+k) % 8) % 256))=y at *
      go_wp2_with fail
      go_roundg (N - (k+1))
      case measure=>rw [Hgk.out];omega
      case rel=>
       refine⟨k+1,rfl,by omega,by go_num,qh ⟨?_,?_,?_⟩⟩
       · have h:=HS.out
         rw [HF.out]
         rw [List.setIfInBounds_toArray,u8s_set]at h
         exact h
       · have hg:=grown_at hR.out.2.1 ((bit+k) / 8) (.int .u8 y)
         exact⟨hg.os,hg.tape,hg.output,hg.size,hg.block⟩
       · show(wr.setCell _ _).heap.size=_
         rw [set_size];exact hR.out.2.2
    · obtain rfl:k=N:=by omega
      have hge: ¬(k:Int) < 32:=by omega
      go_wp2_with fail
      go_end0
      have h:=hR.out
      rw [hN3]at h
      exact⟨rfl,h⟩
 · have hN4:(2048:Int) - (bit:Int)≤32:=by omega
   go_enter Tryz.func83,Tryz.ntmps83
   go_wp2_with fail
   go_loopg [17] N (fun g i wx=> ∃k:Nat,g=N - k∧k≤N∧i= .int .i64 (k:Int)∧Hid (BlockIs wx B 119 (u8s (flipK bs bit mask k)).toArray∧w.grownBy wx (some B)∧wx.heap.size=w.heap.size))
   case atStart=>exact⟨0,rfl,by omega,rfl,qh ⟨hB,World.grownBy.refl _ _,rfl⟩⟩
   case round=>
    obtain⟨k,hgk,hk,rfl,hR⟩:=hrel
    have Hgk:=qh hgk;clear hgk
    by_cases hlt:k < N
    · have hlt':(k:Int) < 32:=by omega
      have hlt2:(k:Int) < 2048 - (bit:Int):=by omega
      have hok:=flipK_ok hb bit mask k
      have hj:(bit+k) / 8 < 256:=by omega
      have cx:wr.cell? ⟨B,(bit+k) / 8,none⟩=some (.int .u8 ((flipK bs bit mask k).getD ((bit+k) / 8) 0)):=by
       rw [hR.out.1.cell,List.getElem?_toArray]
       unfold u8s
       rw [List.getElem?_map,List.getD_eq_getElem?_getD,List.getElem?_eq_getElem (by rw [hok.1];exact hj)];rfl
      have fx:=hR.out.1.free ((bit+k) / 8)
      have hxb:0≤(flipK bs bit mask k).getD ((bit+k) / 8) 0∧(flipK bs bit mask k).getD ((bit+k) / 8) 0 < 256:=by
       rw [List.getD_eq_getElem?_getD,List.getElem?_eq_getElem (by rw [hok.1];exact hj)]
       exact hok.2 _ (List.getElem_mem _)
      have hfl:=flip_val _ hxb mask k ((bit+k) % 8) hm (Nat.mod_lt _ (by decide))
      have HF:Hid (flipK bs bit mask (k+1)=(flipK bs bit mask k).set ((bit+k) / 8) (bits .xor .u8 ((flipK bs bit mask k).getD ((bit+k) / 8) 0) (bits .and .u32 ((mask:Int) / 2 ^ k) 1 % 256 * 2 ^ ((bit+k) % 8) % 256))):=qh (by
       rw [hfl]
       exact flipAt_set _ _ _ _ hok hj)
      clear hfl hxb
      generalize (flipK bs bit mask k).getD ((bit+k) / 8) 0=x at *
      go_wp2_with fail
      go_region
      have HS:=qh (hR.out.1.set1 ((bit+k) / 8) (.int .u8 (bits .xor .u8 x (bits .and .u32 ((mask:Int) / 2 ^ k) 1 % 256 * 2 ^ ((bit+k) % 8) % 256))))
      clear cx fx
      generalize (bits .xor .u8 x (bits .and .u32 ((mask:Int) / 2 ^ k) 1 % 256 * 2 ^ ((bit+k) % 8) % 256))=y at *
      go_wp2_with fail
      go_roundg (N - (k+1))
      case measure=>rw [Hgk.out];omega
      case rel=>
       refine⟨k+1,rfl,by omega,by go_num,qh ⟨?_,?_,?_⟩⟩
       · have h:=HS.out
         rw [HF.out]
         rw [List.setIfInBounds_toArray,u8s_set]at h
         exact h
       · have hg:=grown_at hR.out.2.1 ((bit+k) / 8) (.int .u8 y)
         exact⟨hg.os,hg.tape,hg.output,hg.size,hg.block⟩
       · show(wr.setCell _ _).heap.size=_
         rw [set_size];exact hR.out.2.2
    · obtain rfl:k=N:=by omega
      have hge: ¬(k:Int) < 2048 - (bit:Int):=by omega
      go_wp2_with fail
      go_end0
      exact⟨rfl,hR.out⟩
end
open Go.RowKit
theorem cellsU8 :Tryz.prog.cellsOf 5=1:=by kernel_rfl
theorem part_byte (A:List Int) (hA:A.length=256) (i:Nat) (hi:i < 256) (w:World):(part 5 (u8s A).toArray (i * 1)).run Tryz.prog w= .ok (.int .u8 (A.getD i 0)) w:=by
 have h1:(isAgg 5).run Tryz.prog w= .ok false w:=by kernel_rfl
 have h2:(u8s A).toArray[i * 1]? =some (.int .u8 (A.getD i 0)):=by
  rw [Nat.mul_one,List.getElem?_toArray]
  unfold u8s
  rw [List.getElem?_map,List.getD_eq_getElem?_getD,List.getElem?_eq_getElem (by omega)];rfl
 unfold part
 rw [Sem.run_bind,h1]
 simp only [Result.andThen_ok,Bool.false_eq_true,if_false]
 rw [h2];rfl
theorem eq_byte (d:Nat) (a b:Int) (w:World):(Op.equalIn (d+1) 5 (.int .u8 a) (.int .u8 b)).run Tryz.prog w= .ok (a==b) w:=by
 simp [Op.equalIn,run_underlying Tryz.underlying5]
theorem eq_items (A B:List Int) (hA:A.length=256) (hB:B.length=256) (d:Nat) (w:World): ∀is:List Nat,(∀i∈is,i < 256)→(Op.eqItems (d+1) 5 1 (u8s A).toArray (u8s B).toArray is).run Tryz.prog w= .ok (is.all fun i=>A.getD i 0==B.getD i 0) w
 | [],_=>rfl
 | i::is,h=>by
   have hi:=h i List.mem_cons_self
   simp only [Op.eqItems,Sem.run_bind,part_byte A hA i hi,part_byte B hB i hi,eq_byte,Result.andThen_ok,List.all_cons]
   cases hq:(A.getD i 0==B.getD i 0)with
   | false=>simp
   | true=>
     simp only [Bool.not_true,Bool.false_eq_true,if_false,Bool.true_and]
     exact eq_items A B hA hB d w is (fun j hj=>h j (List.mem_cons_of_mem _ hj))
theorem same_bytes (A B:List Int) (hA:A.length=256) (hB:B.length=256):((List.range 256).all fun i=>A.getD i 0==B.getD i 0)=decide (A=B):=by
 by_cases h:A=B
 · rw [decide_eq_true h,List.all_eq_true]
   intro i _
   rw [h];simp
 · rw [decide_eq_false h]
   rw [Bool.eq_false_iff]
   intro hall
   rw [List.all_eq_true]at hall
   refine h (List.ext_getElem (by omega) (fun i h1 h2=> ?_))
   have:=hall i (List.mem_range.2 (by omega))
   rw [List.getD_eq_getElem?_getD,List.getD_eq_getElem?_getD,List.getElem?_eq_getElem h1,List.getElem?_eq_getElem h2]at this
   simpa using this
theorem eq_block (A B:List Int) (hA:A.length=256) (hB:B.length=256) (w:World):(Op.equalIn 10000 119 (.agg (u8s A).toArray) (.agg (u8s B).toArray)).run Tryz.prog w= .ok (decide (A=B)) w:=by
 obtain⟨j,hj⟩: ∃j,Tryz.prog.info? 5=some j:=Option.isSome_iff_exists.1 (by kernel_rfl)
 rw [show (10000:Nat)=9999+1 from rfl,run_equalIn_array w 9999 _ _ Tryz.underlying119 hj,cellsU8,show(9999:Nat)=9998+1 from rfl,eq_items A B hA hB 9998 w _ (fun i hi=>List.mem_range.1 hi),same_bytes A B hA hB]
section
variable {w : World} {T : Nat → Prop} {dk C : Nat} {wv : Value} {hu tu cr : Nat} {M : List MCell} {ws : List (Nat × List Int)} {left : Int} {dn : Bool}
def spoilE (m:MCell) (bs:List Int):DErr:=if bs=m.bs then .sm else if m.hurt then .hu else .ok
def spoilM (M:List MCell) (n:Nat) (bs:List Int):List MCell:=if bs=(M.getD n default).bs then M else if(M.getD n default).hurt then M else M.set n { M.getD n default with bs:=bs,hurt:=true }
def spoilHu (m:MCell) (bs:List Int) (hu:Nat):Nat:=if bs=m.bs then hu else if m.hurt then hu else hu+1
theorem DevR.spoilt (k:DevR w T dk C wv hu tu cr M ws left dn) {n:Nat} (hn:n < M.length) {bs:List Int} (hb:BlkOk bs) {w':World} (hs:w.heap.size≤w'.heap.size) (ho: ∀b,T b→b≠C→w'.heap[b]? =w.heap[b]?) (hB:BlockIs w' C 121 (Go.splice (M.flatMap cellV) (n * 258) (u8s bs)).toArray):
 DevR w' T dk C wv hu tu cr (M.set n { M.getD n default with bs:=bs }) ws left dn:=by
 have:=k.splice hn (ys:=bs) (by rw [hb.1];exact Nat.le_refl _) hb.2 hs ho hB
 rw [getD_at hn,List.drop_eq_nil_of_le (by rw [hb.1,(k.mb _ (List.getElem_mem hn)).1];exact Nat.le_refl _),List.append_nil]at this
 rw [getD_at hn]
 exact this
theorem spoil_rot (σ:SenD) (hG:GlD σ w) (hS:GlS σ w) (hT: ∀b,σ.blk b→ ¬T b) (hTS: ∀b,σ.blkS b→ ¬T b) (k:DevR w T dk C wv hu tu cr M ws left dn) (hu1:hu≤4096) (n:Nat) (hn:n < M.length) (bs':List Int) (hb':BlkOk bs') (caps:Array Value) (pb pm:Value) (hcaps:caps= #[pb,pm])
 (hch:Calls Tryz.prog 82 #[.pointer (some ⟨w.heap.size,0,none⟩),pb,pm] (w.alloc (.cells (u8s (M.getD n default).bs).toArray 119)) fun e w3=>e= .returned (.tuple #[])∧BlockIs w3 w.heap.size 119 (u8s bs').toArray∧(w.alloc (.cells (u8s (M.getD n default).bs).toArray 119)).grownBy w3 (some w.heap.size)):
 Calls Tryz.prog 80 #[.pointer (some ⟨dk,0,none⟩),.int .i64 (n:Int),.func (.func 82) #[] caps] w fun e w'=>e= .returned ((spoilE (M.getD n default) bs').val σ)∧DevR w' (grow T w w') dk C wv (spoilHu (M.getD n default) bs' hu) tu cr (spoilM M n bs') ws left dn∧Chg T w w':=by
 subst hcaps
 have HT:=qh (has_any k (n:Int))
 rw [show hasB M (n:Int)=true by unfold hasB;exact decide_eq_true ⟨by omega,by omega⟩]at HT
 obtain⟨c0,c1,c2,c3,c4,c5,c6,c7⟩:=k.cell8
 have hM:=k.many
 have hbn:=below_new w (.cells (u8s (M.getD n default).bs).toArray 119)
 have Hk:=qh k
 have HK:=qh (And.intro hbn (And.intro hG (And.intro hS (And.intro hT hTS))))
 have Hch:=qh hch
 have Hr:=qh (k.block hn)
 have Hb:=qh (k.mb _ (List.getElem_mem hn))
 have hgd:=getD_at hn
 rw [← hgd]at Hr Hb
 obtain⟨m,hm⟩: ∃m,M.getD n default=m:=⟨_,rfl⟩
 have Hm:=qh hm
 rw [hm]at Hr Hb Hch HK
 have hlen:(u8s m.bs).length=256:=by rw [u8s_len,Hb.out.1]
 have hz:=zeroBlock
 have hst:=fun w'=>store_block1 w' Hb.out
 clear k hG hS hT hTS hch c0 c1 c2 c5 c6 c7 hgd hm hbn
 go_enter Tryz.func80,Tryz.ntmps80
 go_wp2_with fail
 refine(told_any _ dk c3).mono ?_
 rintro e w' ⟨rfl,rfl⟩
 go_wp2_with fail
 refine HT.out.mono ?_
 rintro e w' ⟨rfl,rfl⟩
 go_wp2_with fail
 refine wp_load_mid 119 (.tmp 26) rfl C (n * 258) (by simp [Act.eval]) (u8s m.bs) _ Hr.out Tryz.underlying119 rfl (by rw [sizeBlock,hlen]) ?_
 go_wp2_with fail
 refine Hch.out.mono ?_
 rintro e w3 ⟨rfl,hB3,hg3⟩
 have Hs1:=qh (size1 w (.cells (u8s m.bs).toArray 119))
 have Hk3:Hid (DevR w3 T dk C wv hu tu cr M ws left dn∧Chg T w w3∧GlD σ w3∧GlS σ w3∧w.heap.size < w3.heap.size):=by
  have hc1:Chg T w (w.alloc (.cells (u8s m.bs).toArray 119)):=Chg.of_below HK.out.1
  have hs:=hg3.size
  have hs1:=Hs1.out
  have hc3:Chg T w w3:=hc1.trans (Chg.of_grown hg3 (fun b e=>by injection e with e;subst e;exact .inr ⟨Nat.le_refl _,by omega⟩))
  have hkeep: ∀b,b < w.heap.size→w3.heap[b]? =w.heap[b]? :=fun b hb=>(hg3.block b (by omega) (fun e=>by injection e with e;omega)).trans (HK.out.1.block b hb)
  exact qh ⟨Hk.out.keep (by omega) (fun b hb=>hkeep b (Hk.out.foot b hb)),hc3,HK.out.2.1.keep (fun b hb=>hkeep b (HK.out.2.1.lt hb)),HK.out.2.2.1.keep (fun b hb=>hkeep b (HK.out.2.2.1.lt hb)),by omega⟩
 have HB3:=qh hB3
 have hlen2:(u8s bs').length=256:=by rw [u8s_len,hb'.1]
 have Hr3:=qh (Hk3.out.1.block hn)
 rw [← getD_at hn,Hm.out]at Hr3
 have HrB:Hid (w3.rangeAt w.heap.size 0 (u8s bs')):=qh (fun j v hj=>by rw [Nat.zero_add];exact(HB3.out.cell j).trans (by rw [List.getElem?_toArray];exact hj))
 have heq:=fun w'=>eq_block bs' m.bs hb'.1 Hb.out.1 w'
 clear hz hst hB3 hg3 c3 c4
 go_wp2_with fail
 refine wp_region_held_drew (S:=fun w'=>w'.rangeAt w.heap.size 0 (u8s bs')∧w'.rangeAt C (n * 258) (u8s m.bs)) (by kernel_rfl) ⟨HrB.out,Hr3.out⟩ (fun hS0=> ?_)
 refine wpAnyH_take (i:=0) rfl (by kernel_rfl) (by kernel_rfl) (by kernel_rfl) (fun _ _ _ h=>h) (yieldsIf_load_mid (by rfl) 119 (.tmp 8) rfl w.heap.size (0) rfl (u8s bs') _ (fun w' hS=>hS.1) Tryz.underlying119 rfl (by rw [sizeBlock,hlen2])) hS0 ?_
 simp only [Act.put,List.getElem_toArray,List.getElem_cons_zero,List.setIfInBounds_toArray,List.set_cons_zero,List.set_cons_succ]
 refine wpAnyH_take (i:=1) (v:= ?_) rfl (by kernel_rfl) (by kernel_rfl) (by kernel_rfl) (fun _ _ _ h=>h) (Or.inl ⟨by rfl,?_⟩) hS0 ?_
 rotate_left
 · (intro w' _;go_simp);try with_reducible rfl
 simp only [Act.put,List.getElem_toArray,List.getElem_cons_zero,List.getElem_cons_succ,List.setIfInBounds_toArray,List.set_cons_zero,List.set_cons_succ]
 refine wpAnyH_take (i:=2) (v:= ?_) rfl (by kernel_rfl) (by kernel_rfl) (by kernel_rfl) (fun _ _ _ h=>h) (Or.inl ⟨by rfl,?_⟩) hS0 ?_
 rotate_left
 · (intro w' _;go_simp);try with_reducible rfl
 simp only [Act.put,List.getElem_toArray,List.getElem_cons_zero,List.getElem_cons_succ,List.setIfInBounds_toArray,List.set_cons_zero,List.set_cons_succ]
 refine wpAnyH_take (i:=3) (v:= ?_) rfl (by kernel_rfl) (by kernel_rfl) (by kernel_rfl) (fun _ _ _ h=>h) (Or.inl ⟨by rfl,?_⟩) hS0 ?_
 rotate_left
 · (intro w' _;go_simp);try with_reducible rfl
 simp only [Act.put,List.getElem_toArray,List.getElem_cons_zero,List.getElem_cons_succ,List.setIfInBounds_toArray,List.set_cons_zero,List.set_cons_succ]
 refine wpAnyH_take (i:=4) rfl (by kernel_rfl) (by kernel_rfl) (by kernel_rfl) (fun _ _ _ h=>h) (yieldsIf_load_mid (by rfl) 119 (.tmp 34) rfl C (n * 258) rfl (u8s m.bs) _ (fun w' hS=>hS.2) Tryz.underlying119 rfl (by rw [sizeBlock,hlen])) hS0 ?_
 simp only [Act.put,List.getElem_toArray,List.getElem_cons_zero,List.getElem_cons_succ,List.setIfInBounds_toArray,List.set_cons_zero,List.set_cons_succ]
 refine wpAnyH_take (i:=5) (v:= ?_) rfl (by kernel_rfl) (by kernel_rfl) (by kernel_rfl) (fun _ _ _ h=>h) (Or.inl ⟨by rfl,?_⟩) hS0 ?_
 rotate_left
 · (intro w' _;go_simp);try with_reducible rfl
 simp only [Act.put,List.getElem_toArray,List.getElem_cons_zero,List.getElem_cons_succ,List.setIfInBounds_toArray,List.set_cons_zero,List.set_cons_succ]
 refine wpAnyH_take (i:=6) (v:= ?_) rfl (by kernel_rfl) (by kernel_rfl) (by kernel_rfl) (fun _ _ _ h=>h) (Or.inl ⟨by rfl,?_⟩) hS0 ?_
 rotate_left
 · (intro w' _;go_simp);try with_reducible rfl
 simp only [Act.put,List.getElem_toArray,List.getElem_cons_zero,List.getElem_cons_succ,List.setIfInBounds_toArray,List.set_cons_zero,List.set_cons_succ]
 refine wpAnyH_done (by kernel_rfl) ?_ _
 have hg3:=Hk3.out.2.2.2.1.sm
 have hg4:=Hk3.out.2.2.1.hu
 unfold errK at hg3 hg4
 have cH:w3.cell? ⟨C,n * 258+256,none⟩=some (.bool m.hurt):=by
  rw [Hk3.out.1.at_ hn (by decide), ← getD_at hn,Hm.out];exact cellV_hurt Hb.out
 clear heq
 by_cases he:bs'=m.bs
 · have HE:Hid (spoilE m bs'= .sm∧spoilHu m bs' hu=hu∧spoilM M n bs'=M):=qh (by unfold spoilE spoilHu spoilM;rw [Hm.out,if_pos he,if_pos he,if_pos he];exact⟨rfl,rfl,rfl⟩)
   have hdec:decide (bs'=m.bs)=true:=decide_eq_true he
   rw [hdec]
   clear hdec he
   go_wp2_with fail
   go_ret
   rw [Hm.out,HE.out.1,HE.out.2.1,HE.out.2.2]
   exact⟨rfl,(Hk3.out.1.drew).mono (fun _ hj=> .inl hj) (grow_lt Hk.out.foot Hk3.out.2.1.size),Hk3.out.2.1.drew⟩
 · have hdec:decide (bs'=m.bs)=false:=decide_eq_false he
   rw [hdec]
   cases hh:m.hurt with
   | true=>
     have HE:Hid (spoilE m bs'= .hu∧spoilHu m bs' hu=hu∧spoilM M n bs'=M):=qh (by unfold spoilE spoilHu spoilM;rw [Hm.out,if_neg he,if_neg he,if_neg he,if_pos hh,if_pos hh,if_pos hh];exact⟨rfl,rfl,rfl⟩)
     rw [hh]at cH
     clear hdec he hh
     go_wp2_with fail
     go_ret
     rw [Hm.out,HE.out.1,HE.out.2.1,HE.out.2.2]
     exact⟨rfl,(Hk3.out.1.drew).mono (fun _ hj=> .inl hj) (grow_lt Hk.out.foot Hk3.out.2.1.size),Hk3.out.2.1.drew⟩
   | false=>
     have hnh: ¬m.hurt=true:=by rw [hh];decide
     have HE:Hid (spoilE m bs'= .ok∧spoilHu m bs' hu=hu+1∧spoilM M n bs'=M.set n { M.getD n default with bs:=bs',hurt:=true }):=qh (by unfold spoilE spoilHu spoilM;rw [Hm.out,if_neg he,if_neg he,if_neg he,if_neg hnh,if_neg hnh,if_neg hnh];exact⟨rfl,rfl,rfl⟩)
     rw [hh]at cH
     clear hdec he hh hnh
     have hst3:=run_storeCells_at Tryz.prog C (n * 258) 121 (u8s bs') 0 (M.flatMap cellV).toArray w3.drew Hk3.out.1.cells (by
      rw [hlen2,List.size_toArray,flat_lenV cellV 258 M Hk3.out.1.wid]
      have:(n+1) * 258≤M.length * 258:=Nat.mul_le_mul_right 258 hn
      rw [Nat.add_mul]at this;omega) (u8s_one _)
     have hB4:BlockIs (w3.drew.setRow C ((M.flatMap cellV).toArray.toList.take (n * 258+0)++u8s bs'++(M.flatMap cellV).toArray.toList.drop (n * 258+0+(u8s bs').length)).toArray) C 121 (Go.splice (M.flatMap cellV) (n * 258) (u8s bs')).toArray:=by
      have:=setRow_heap w3.drew C (M.flatMap cellV).toArray ((M.flatMap cellV).toArray.toList.take (n * 258+0)++u8s bs'++(M.flatMap cellV).toArray.toList.drop (n * 258+0+(u8s bs').length)).toArray 121 (0,0) Hk3.out.1.cells
      exact this.trans (congrArg (fun l:List Value=>some (Obj.cells l.toArray 121 (0,0))) (by unfold Go.splice;rw [List.append_assoc];rfl))
     have ho4: ∀b,b≠C→(w3.drew.setRow C ((M.flatMap cellV).toArray.toList.take (n * 258+0)++u8s bs'++(M.flatMap cellV).toArray.toList.drop (n * 258+0+(u8s bs').length)).toArray).heap[b]? =w3.heap[b]? :=fun b hb=>setRow_other _ _ _ _ hb
     have hs4:(w3.drew.setRow C ((M.flatMap cellV).toArray.toList.take (n * 258+0)++u8s bs'++(M.flatMap cellV).toArray.toList.drop (n * 258+0+(u8s bs').length)).toArray).heap.size=w3.heap.size:=by simp
     have hq4:(w3.drew.setRow C ((M.flatMap cellV).toArray.toList.take (n * 258+0)++u8s bs'++(M.flatMap cellV).toArray.toList.drop (n * 258+0+(u8s bs').length)).toArray).os=w3.os∧(w3.drew.setRow C ((M.flatMap cellV).toArray.toList.take (n * 258+0)++u8s bs'++(M.flatMap cellV).toArray.toList.drop (n * 258+0+(u8s bs').length)).toArray).tape=w3.tape∧(w3.drew.setRow C ((M.flatMap cellV).toArray.toList.take (n * 258+0)++u8s bs'++(M.flatMap cellV).toArray.toList.drop (n * 258+0+(u8s bs').length)).toArray).output=w3.output:=⟨rfl,rfl,rfl⟩
     generalize w3.drew.setRow C ((M.flatMap cellV).toArray.toList.take (n * 258+0)++u8s bs'++(M.flatMap cellV).toArray.toList.drop (n * 258+0+(u8s bs').length)).toArray=w4 at *
     have k4:=Hk3.out.1.spoilt hn hb' (w':=w4) (Nat.le_of_eq hs4.symm) (fun b _ hb=>ho4 b hb) hB4
     have hc4:Chg T w w4:=⟨hq4.1.trans Hk3.out.2.1.os,hq4.2.1.trans Hk3.out.2.1.tape,hq4.2.2.trans Hk3.out.2.1.output,by rw [hs4];exact Hk3.out.2.1.size,fun b hb hT=>(ho4 b (fun e=>hT (e ▸ Hk.out.tc))).trans (Hk3.out.2.1.block b hb hT)⟩
     have hn4:n < (M.set n { M.getD n default with bs:=bs' }).length:=by rw [List.length_set];exact hn
     have k5:=k4.setHurt hn4 true
     rw [getD_at hn4,List.getElem_set_self,List.set_set]at k5
     have f4:=k4.cells.free (n * 258+256)
     have c4:w4.cell? ⟨C,n * 258+256,none⟩=some (.bool m.hurt):=by
      rw [k4.at_ hn4 (by decide),List.getElem_set_self,cellV_hurt (m:= { M.getD n default with bs:=bs' }) hb',Hm.out]
     have c0:=k5.cell8.1
     have f0:=k5.blk.free 0
     have hw:wrap64 ((hu:Int)+1)=(hu:Int)+1:=by unfold wrap64;omega
     have HK5:Hid (DevR ((w4.setCell ⟨C,n * 258+256,none⟩ (.bool true)).setCell ⟨dk,0,none⟩ (.int .i64 ((hu:Int)+1))) T dk C wv (hu+1) tu cr (M.set n { M.getD n default with bs:=bs',hurt:=true }) ws left dn∧Chg T w ((w4.setCell ⟨C,n * 258+256,none⟩ (.bool true)).setCell ⟨dk,0,none⟩ (.int .i64 ((hu:Int)+1)))):=
      qh ⟨k5.own8 (set_size _ _ _) (fun b hb=>set_other _ _ _ _ _ hb) (k5.blk.set1 0 (.int .i64 ((hu:Int)+1))),(hc4.set (.inl Hk.out.tc) _).set (.inl Hk.out.self) _⟩
     clear hB4 ho4 hs4 hq4 k4 hc4 hn4 k5
     go_wp2_with fail
     refine wp_load_mid 119 (.tmp 8) rfl w.heap.size 0 (by simp [Act.eval]) (u8s bs') _ hS0.1 Tryz.underlying119 rfl (by rw [sizeBlock,hlen2]) ?_
     go_wp2_with fail
     go_ret
     rw [← getD_at hn,Hm.out,HE.out.1,HE.out.2.1,HE.out.2.2]
     exact⟨rfl,HK5.out.1.mono (fun _ hj=> .inl hj) (grow_lt Hk.out.foot HK5.out.2.size),HK5.out.2⟩
end
open Go.RowKit
section
variable {w : World} {T : Nat → Prop} {dk C : Nat} {wv : Value} {hu tu cr : Nat} {M : List MCell} {ws : List (Nat × List Int)} {left : Int} {dn : Bool}
theorem spoil_wipe (σ:SenD) (hG:GlD σ w) (hS:GlS σ w) (hT: ∀b,σ.blk b→ ¬T b) (hTS: ∀b,σ.blkS b→ ¬T b) (k:DevR w T dk C wv hu tu cr M ws left dn) (hu1:hu≤4096) (n:Nat) (hn:n < M.length) (bs':List Int) (hb':BlkOk bs') (caps:Array Value) (hcaps:caps= #[])
 (hch:Calls Tryz.prog 81 #[.pointer (some ⟨w.heap.size,0,none⟩)] (w.alloc (.cells (u8s (M.getD n default).bs).toArray 119)) fun e w3=>e= .returned (.tuple #[])∧BlockIs w3 w.heap.size 119 (u8s bs').toArray∧(w.alloc (.cells (u8s (M.getD n default).bs).toArray 119)).grownBy w3 (some w.heap.size)):
 Calls Tryz.prog 80 #[.pointer (some ⟨dk,0,none⟩),.int .i64 (n:Int),.func (.func 81) #[] caps] w fun e w'=>e= .returned ((spoilE (M.getD n default) bs').val σ)∧DevR w' (grow T w w') dk C wv (spoilHu (M.getD n default) bs' hu) tu cr (spoilM M n bs') ws left dn∧Chg T w w':=by
 subst hcaps
 have HT:=qh (has_any k (n:Int))
 rw [show hasB M (n:Int)=true by unfold hasB;exact decide_eq_true ⟨by omega,by omega⟩]at HT
 obtain⟨c0,c1,c2,c3,c4,c5,c6,c7⟩:=k.cell8
 have hM:=k.many
 have hbn:=below_new w (.cells (u8s (M.getD n default).bs).toArray 119)
 have Hk:=qh k
 have HK:=qh (And.intro hbn (And.intro hG (And.intro hS (And.intro hT hTS))))
 have Hch:=qh hch
 have Hr:=qh (k.block hn)
 have Hb:=qh (k.mb _ (List.getElem_mem hn))
 have hgd:=getD_at hn
 rw [← hgd]at Hr Hb
 obtain⟨m,hm⟩: ∃m,M.getD n default=m:=⟨_,rfl⟩
 have Hm:=qh hm
 rw [hm]at Hr Hb Hch HK
 have hlen:(u8s m.bs).length=256:=by rw [u8s_len,Hb.out.1]
 have hz:=zeroBlock
 have hst:=fun w'=>store_block1 w' Hb.out
 clear k hG hS hT hTS hch c0 c1 c2 c5 c6 c7 hgd hm hbn
 go_enter Tryz.func80,Tryz.ntmps80
 go_wp2_with fail
 refine(told_any _ dk c3).mono ?_
 rintro e w' ⟨rfl,rfl⟩
 go_wp2_with fail
 refine HT.out.mono ?_
 rintro e w' ⟨rfl,rfl⟩
 go_wp2_with fail
 refine wp_load_mid 119 (.tmp 26) rfl C (n * 258) (by simp [Act.eval]) (u8s m.bs) _ Hr.out Tryz.underlying119 rfl (by rw [sizeBlock,hlen]) ?_
 go_wp2_with fail
 refine Hch.out.mono ?_
 rintro e w3 ⟨rfl,hB3,hg3⟩
 have Hs1:=qh (size1 w (.cells (u8s m.bs).toArray 119))
 have Hk3:Hid (DevR w3 T dk C wv hu tu cr M ws left dn∧Chg T w w3∧GlD σ w3∧GlS σ w3∧w.heap.size < w3.heap.size):=by
  have hc1:Chg T w (w.alloc (.cells (u8s m.bs).toArray 119)):=Chg.of_below HK.out.1
  have hs:=hg3.size
  have hs1:=Hs1.out
  have hc3:Chg T w w3:=hc1.trans (Chg.of_grown hg3 (fun b e=>by injection e with e;subst e;exact .inr ⟨Nat.le_refl _,by omega⟩))
  have hkeep: ∀b,b < w.heap.size→w3.heap[b]? =w.heap[b]? :=fun b hb=>(hg3.block b (by omega) (fun e=>by injection e with e;omega)).trans (HK.out.1.block b hb)
  exact qh ⟨Hk.out.keep (by omega) (fun b hb=>hkeep b (Hk.out.foot b hb)),hc3,HK.out.2.1.keep (fun b hb=>hkeep b (HK.out.2.1.lt hb)),HK.out.2.2.1.keep (fun b hb=>hkeep b (HK.out.2.2.1.lt hb)),by omega⟩
 have HB3:=qh hB3
 have hlen2:(u8s bs').length=256:=by rw [u8s_len,hb'.1]
 have Hr3:=qh (Hk3.out.1.block hn)
 rw [← getD_at hn,Hm.out]at Hr3
 have HrB:Hid (w3.rangeAt w.heap.size 0 (u8s bs')):=qh (fun j v hj=>by rw [Nat.zero_add];exact(HB3.out.cell j).trans (by rw [List.getElem?_toArray];exact hj))
 have heq:=fun w'=>eq_block bs' m.bs hb'.1 Hb.out.1 w'
 clear hz hst hB3 hg3 c3 c4
 go_wp2_with fail
 refine wp_region_held_drew (S:=fun w'=>w'.rangeAt w.heap.size 0 (u8s bs')∧w'.rangeAt C (n * 258) (u8s m.bs)) (by kernel_rfl) ⟨HrB.out,Hr3.out⟩ (fun hS0=> ?_)
 refine wpAnyH_take (i:=0) rfl (by kernel_rfl) (by kernel_rfl) (by kernel_rfl) (fun _ _ _ h=>h) (yieldsIf_load_mid (by rfl) 119 (.tmp 8) rfl w.heap.size (0) rfl (u8s bs') _ (fun w' hS=>hS.1) Tryz.underlying119 rfl (by rw [sizeBlock,hlen2])) hS0 ?_
 simp only [Act.put,List.getElem_toArray,List.getElem_cons_zero,List.setIfInBounds_toArray,List.set_cons_zero,List.set_cons_succ]
 refine wpAnyH_take (i:=1) (v:= ?_) rfl (by kernel_rfl) (by kernel_rfl) (by kernel_rfl) (fun _ _ _ h=>h) (Or.inl ⟨by rfl,?_⟩) hS0 ?_
 rotate_left
 · (intro w' _;go_simp);try with_reducible rfl
 simp only [Act.put,List.getElem_toArray,List.getElem_cons_zero,List.getElem_cons_succ,List.setIfInBounds_toArray,List.set_cons_zero,List.set_cons_succ]
 refine wpAnyH_take (i:=2) (v:= ?_) rfl (by kernel_rfl) (by kernel_rfl) (by kernel_rfl) (fun _ _ _ h=>h) (Or.inl ⟨by rfl,?_⟩) hS0 ?_
 rotate_left
 · (intro w' _;go_simp);try with_reducible rfl
 simp only [Act.put,List.getElem_toArray,List.getElem_cons_zero,List.getElem_cons_succ,List.setIfInBounds_toArray,List.set_cons_zero,List.set_cons_succ]
 refine wpAnyH_take (i:=3) (v:= ?_) rfl (by kernel_rfl) (by kernel_rfl) (by kernel_rfl) (fun _ _ _ h=>h) (Or.inl ⟨by rfl,?_⟩) hS0 ?_
 rotate_left
 · (intro w' _;go_simp);try with_reducible rfl
 simp only [Act.put,List.getElem_toArray,List.getElem_cons_zero,List.getElem_cons_succ,List.setIfInBounds_toArray,List.set_cons_zero,List.set_cons_succ]
 refine wpAnyH_take (i:=4) rfl (by kernel_rfl) (by kernel_rfl) (by kernel_rfl) (fun _ _ _ h=>h) (yieldsIf_load_mid (by rfl) 119 (.tmp 34) rfl C (n * 258) rfl (u8s m.bs) _ (fun w' hS=>hS.2) Tryz.underlying119 rfl (by rw [sizeBlock,hlen])) hS0 ?_
 simp only [Act.put,List.getElem_toArray,List.getElem_cons_zero,List.getElem_cons_succ,List.setIfInBounds_toArray,List.set_cons_zero,List.set_cons_succ]
 refine wpAnyH_take (i:=5) (v:= ?_) rfl (by kernel_rfl) (by kernel_rfl) (by kernel_rfl) (fun _ _ _ h=>h) (Or.inl ⟨by rfl,?_⟩) hS0 ?_
 rotate_left
 · (intro w' _;go_simp);try with_reducible rfl
 simp only [Act.put,List.getElem_toArray,List.getElem_cons_zero,List.getElem_cons_succ,List.setIfInBounds_toArray,List.set_cons_zero,List.set_cons_succ]
 refine wpAnyH_take (i:=6) (v:= ?_) rfl (by kernel_rfl) (by kernel_rfl) (by kernel_rfl) (fun _ _ _ h=>h) (Or.inl ⟨by rfl,?_⟩) hS0 ?_
 rotate_left
 · (intro w' _;go_simp);try with_reducible rfl
 simp only [Act.put,List.getElem_toArray,List.getElem_cons_zero,List.getElem_cons_succ,List.setIfInBounds_toArray,List.set_cons_zero,List.set_cons_succ]
 refine wpAnyH_done (by kernel_rfl) ?_ _
 have hg3:=Hk3.out.2.2.2.1.sm
 have hg4:=Hk3.out.2.2.1.hu
 unfold errK at hg3 hg4
 have cH:w3.cell? ⟨C,n * 258+256,none⟩=some (.bool m.hurt):=by
  rw [Hk3.out.1.at_ hn (by decide), ← getD_at hn,Hm.out];exact cellV_hurt Hb.out
 clear heq
 by_cases he:bs'=m.bs
 · have HE:Hid (spoilE m bs'= .sm∧spoilHu m bs' hu=hu∧spoilM M n bs'=M):=qh (by unfold spoilE spoilHu spoilM;rw [Hm.out,if_pos he,if_pos he,if_pos he];exact⟨rfl,rfl,rfl⟩)
   have hdec:decide (bs'=m.bs)=true:=decide_eq_true he
   rw [hdec]
   clear hdec he
   go_wp2_with fail
   go_ret
   rw [Hm.out,HE.out.1,HE.out.2.1,HE.out.2.2]
   exact⟨rfl,(Hk3.out.1.drew).mono (fun _ hj=> .inl hj) (grow_lt Hk.out.foot Hk3.out.2.1.size),Hk3.out.2.1.drew⟩
 · have hdec:decide (bs'=m.bs)=false:=decide_eq_false he
   rw [hdec]
   cases hh:m.hurt with
   | true=>
     have HE:Hid (spoilE m bs'= .hu∧spoilHu m bs' hu=hu∧spoilM M n bs'=M):=qh (by unfold spoilE spoilHu spoilM;rw [Hm.out,if_neg he,if_neg he,if_neg he,if_pos hh,if_pos hh,if_pos hh];exact⟨rfl,rfl,rfl⟩)
     rw [hh]at cH
     clear hdec he hh
     go_wp2_with fail
     go_ret
     rw [Hm.out,HE.out.1,HE.out.2.1,HE.out.2.2]
     exact⟨rfl,(Hk3.out.1.drew).mono (fun _ hj=> .inl hj) (grow_lt Hk.out.foot Hk3.out.2.1.size),Hk3.out.2.1.drew⟩
   | false=>
     have hnh: ¬m.hurt=true:=by rw [hh];decide
     have HE:Hid (spoilE m bs'= .ok∧spoilHu m bs' hu=hu+1∧spoilM M n bs'=M.set n { M.getD n default with bs:=bs',hurt:=true }):=qh (by unfold spoilE spoilHu spoilM;rw [Hm.out,if_neg he,if_neg he,if_neg he,if_neg hnh,if_neg hnh,if_neg hnh];exact⟨rfl,rfl,rfl⟩)
     rw [hh]at cH
     clear hdec he hh hnh
     have hst3:=run_storeCells_at Tryz.prog C (n * 258) 121 (u8s bs') 0 (M.flatMap cellV).toArray w3.drew Hk3.out.1.cells (by
      rw [hlen2,List.size_toArray,flat_lenV cellV 258 M Hk3.out.1.wid]
      have:(n+1) * 258≤M.length * 258:=Nat.mul_le_mul_right 258 hn
      rw [Nat.add_mul]at this;omega) (u8s_one _)
     have hB4:BlockIs (w3.drew.setRow C ((M.flatMap cellV).toArray.toList.take (n * 258+0)++u8s bs'++(M.flatMap cellV).toArray.toList.drop (n * 258+0+(u8s bs').length)).toArray) C 121 (Go.splice (M.flatMap cellV) (n * 258) (u8s bs')).toArray:=by
      have:=setRow_heap w3.drew C (M.flatMap cellV).toArray ((M.flatMap cellV).toArray.toList.take (n * 258+0)++u8s bs'++(M.flatMap cellV).toArray.toList.drop (n * 258+0+(u8s bs').length)).toArray 121 (0,0) Hk3.out.1.cells
      exact this.trans (congrArg (fun l:List Value=>some (Obj.cells l.toArray 121 (0,0))) (by unfold Go.splice;rw [List.append_assoc];rfl))
     have ho4: ∀b,b≠C→(w3.drew.setRow C ((M.flatMap cellV).toArray.toList.take (n * 258+0)++u8s bs'++(M.flatMap cellV).toArray.toList.drop (n * 258+0+(u8s bs').length)).toArray).heap[b]? =w3.heap[b]? :=fun b hb=>setRow_other _ _ _ _ hb
     have hs4:(w3.drew.setRow C ((M.flatMap cellV).toArray.toList.take (n * 258+0)++u8s bs'++(M.flatMap cellV).toArray.toList.drop (n * 258+0+(u8s bs').length)).toArray).heap.size=w3.heap.size:=by simp
     have hq4:(w3.drew.setRow C ((M.flatMap cellV).toArray.toList.take (n * 258+0)++u8s bs'++(M.flatMap cellV).toArray.toList.drop (n * 258+0+(u8s bs').length)).toArray).os=w3.os∧(w3.drew.setRow C ((M.flatMap cellV).toArray.toList.take (n * 258+0)++u8s bs'++(M.flatMap cellV).toArray.toList.drop (n * 258+0+(u8s bs').length)).toArray).tape=w3.tape∧(w3.drew.setRow C ((M.flatMap cellV).toArray.toList.take (n * 258+0)++u8s bs'++(M.flatMap cellV).toArray.toList.drop (n * 258+0+(u8s bs').length)).toArray).output=w3.output:=⟨rfl,rfl,rfl⟩
     generalize w3.drew.setRow C ((M.flatMap cellV).toArray.toList.take (n * 258+0)++u8s bs'++(M.flatMap cellV).toArray.toList.drop (n * 258+0+(u8s bs').length)).toArray=w4 at *
     have k4:=Hk3.out.1.spoilt hn hb' (w':=w4) (Nat.le_of_eq hs4.symm) (fun b _ hb=>ho4 b hb) hB4
     have hc4:Chg T w w4:=⟨hq4.1.trans Hk3.out.2.1.os,hq4.2.1.trans Hk3.out.2.1.tape,hq4.2.2.trans Hk3.out.2.1.output,by rw [hs4];exact Hk3.out.2.1.size,fun b hb hT=>(ho4 b (fun e=>hT (e ▸ Hk.out.tc))).trans (Hk3.out.2.1.block b hb hT)⟩
     have hn4:n < (M.set n { M.getD n default with bs:=bs' }).length:=by rw [List.length_set];exact hn
     have k5:=k4.setHurt hn4 true
     rw [getD_at hn4,List.getElem_set_self,List.set_set]at k5
     have f4:=k4.cells.free (n * 258+256)
     have c4:w4.cell? ⟨C,n * 258+256,none⟩=some (.bool m.hurt):=by
      rw [k4.at_ hn4 (by decide),List.getElem_set_self,cellV_hurt (m:= { M.getD n default with bs:=bs' }) hb',Hm.out]
     have c0:=k5.cell8.1
     have f0:=k5.blk.free 0
     have hw:wrap64 ((hu:Int)+1)=(hu:Int)+1:=by unfold wrap64;omega
     have HK5:Hid (DevR ((w4.setCell ⟨C,n * 258+256,none⟩ (.bool true)).setCell ⟨dk,0,none⟩ (.int .i64 ((hu:Int)+1))) T dk C wv (hu+1) tu cr (M.set n { M.getD n default with bs:=bs',hurt:=true }) ws left dn∧Chg T w ((w4.setCell ⟨C,n * 258+256,none⟩ (.bool true)).setCell ⟨dk,0,none⟩ (.int .i64 ((hu:Int)+1)))):=
      qh ⟨k5.own8 (set_size _ _ _) (fun b hb=>set_other _ _ _ _ _ hb) (k5.blk.set1 0 (.int .i64 ((hu:Int)+1))),(hc4.set (.inl Hk.out.tc) _).set (.inl Hk.out.self) _⟩
     clear hB4 ho4 hs4 hq4 k4 hc4 hn4 k5
     go_wp2_with fail
     refine wp_load_mid 119 (.tmp 8) rfl w.heap.size 0 (by simp [Act.eval]) (u8s bs') _ hS0.1 Tryz.underlying119 rfl (by rw [sizeBlock,hlen2]) ?_
     go_wp2_with fail
     go_ret
     rw [← getD_at hn,Hm.out,HE.out.1,HE.out.2.1,HE.out.2.2]
     exact⟨rfl,HK5.out.1.mono (fun _ hj=> .inl hj) (grow_lt Hk.out.foot HK5.out.2.size),HK5.out.2⟩
end
open Go.RowKit
section
variable {w : World} {T : Nat → Prop} {dk : Nat} {D : DM} (σ : SenD)
theorem flip_out (B:Nat) (bit:Int) (h:bit < 0∨2048≤bit) (mask:Int):
 Calls Tryz.prog 83 #[.pointer (some ⟨B,0,none⟩),.int .i64 bit,.int .u32 mask] w fun e w'=>e= .returned (.tuple #[])∧w=w':=by
 rcases h with h | h
 · go_enter Tryz.func83,Tryz.ntmps83
   go_wp2_with fail
   refine bodyPost_ret (results_none rfl _ _ _) rfl ⟨rfl,rfl⟩
 · have h1: ¬bit < 0:=by omega
   go_enter Tryz.func83,Tryz.ntmps83
   go_wp2_with fail
   refine bodyPost_ret (results_none rfl _ _ _) rfl ⟨rfl,rfl⟩
def rotB (bs:List Int) (bit:Int) (mask:Nat):List Int:=if 0≤bit∧bit < 2048 then flipK bs bit.toNat mask (min 32 (2048 - bit.toNat))else bs
theorem rotB_ok {bs:List Int} (h:BlkOk bs) (bit:Int) (mask:Nat):BlkOk (rotB bs bit mask):=by
 unfold rotB
 split
 · exact flipK_ok h _ _ _
 · exact h
theorem rot1_any (B:Nat) (bs:List Int) (hb:BlkOk bs) (hB:BlockIs w B 119 (u8s bs).toArray) (bit:Int) (mask:Nat) (hm:mask < 4294967296) (pb pm:Nat) (cb:w.cell? ⟨pb,0,none⟩=some (.int .i64 bit)) (cm:w.cell? ⟨pm,0,none⟩=some (.int .u32 (mask:Int))):
 Calls Tryz.prog 82 #[.pointer (some ⟨B,0,none⟩),.pointer (some ⟨pb,0,none⟩),.pointer (some ⟨pm,0,none⟩)] w fun e w'=>e= .returned (.tuple #[])∧BlockIs w' B 119 (u8s (rotB bs bit mask)).toArray∧w.grownBy w' (some B):=by
 by_cases h:0≤bit∧bit < 2048
 · obtain⟨n,rfl⟩:=Int.eq_ofNat_of_zero_le h.1
   have HF:=qh (flip_any B bs hb hB n (by omega) mask hm)
   have HE:Hid (rotB bs (n:Int) mask=flipK bs n mask (min 32 (2048 - n))):=qh (by unfold rotB;rw [if_pos h];rfl)
   clear hB h
   go_enter Tryz.func82,Tryz.ntmps82
   go_wp2_with fail
   refine HF.out.mono ?_
   rintro e w' ⟨rfl,h1,h2,h3⟩
   have H1:=qh (And.intro h1 h2)
   clear h1 h2 h3
   go_wp2_with fail
   go_end0
   rw [HE.out]
   exact⟨rfl,H1.out⟩
 · have HF:=qh (flip_out (w:=w) B bit (by omega) (mask:Int))
   have HE:Hid (rotB bs bit mask=bs):=qh (by unfold rotB;rw [if_neg h])
   have HB:=qh hB
   clear hB h
   go_enter Tryz.func82,Tryz.ntmps82
   go_wp2_with fail
   refine HF.out.mono ?_
   rintro e w' ⟨rfl,rfl⟩
   go_wp2_with fail
   go_end0
   rw [HE.out]
   exact⟨rfl,HB.out,World.grownBy.refl _ _⟩
theorem wipe1_any (B:Nat) (bs:List Int) (hb:BlkOk bs) (hB:BlockIs w B 119 (u8s bs).toArray):
 Calls Tryz.prog 81 #[.pointer (some ⟨B,0,none⟩)] w fun e w'=>e= .returned (.tuple #[])∧BlockIs w' B 119 (u8s zero256).toArray∧w.grownBy w' (some B):=by
 have hz:=zeroBlock
 have hzs:=zeroB_size
 have hst:(storeCells ⟨B,0,none⟩ zeroB.toList 0).run Tryz.prog w= .ok () (w.setRow B (u8s zero256).toArray):=store_all hB (u8s zero256) (by rw [List.size_toArray,u8s_len,u8s_len,zero256_len,hb.1]) (u8s_one _)
 have HB:=qh (setRow_heap w B _ (u8s zero256).toArray 119 (0,0) hB)
 clear hB
 go_enter Tryz.func81,Tryz.ntmps81
 go_wp2_with fail
 go_end0
 exact⟨rfl,HB.out,rfl,rfl,rfl,Nat.le_of_eq (setRow_size _ _ _).symm,fun k _ hk=>setRow_other w B k _ (fun e=>hk (by rw [e]))⟩
theorem spoil_link {hu tu cr:Nat} {M:List MCell} {ws:List (Nat × List Int)} {left:Int} {dn:Bool} (L:DevL D hu tu cr M ws left dn) {n:Nat} (hn:n < M.length) (bs:List Int):
 (spoilE (M.getD n default) bs).code=(D.hurt n bs).1∧DevL (D.hurt n bs).2 (spoilHu (M.getD n default) bs hu) tu cr (spoilM M n bs) ws left dn:=by
 obtain⟨h1,h2⟩:=L.mm n _ (List.getElem?_eq_getElem hn)
 have hs:D.stored n=(M.getD n default).bs:=by rw [getD_at hn];unfold DM.stored;rw [List.getD_eq_getElem?_getD,h1];rfl
 have hh:(D.cells.getD n ([],false)).2=(M.getD n default).hurt:=by rw [getD_at hn,List.getD_eq_getElem?_getD,h1];rfl
 unfold DM.hurt spoilE spoilHu spoilM
 rw [hs,hh]
 by_cases he:bs=(M.getD n default).bs
 · rw [if_pos he,if_pos he,if_pos he,if_pos he];exact⟨rfl,L⟩
 · rw [if_neg he,if_neg he,if_neg he,if_neg he]
   cases hq:(M.getD n default).hurt with
   | true=>exact⟨rfl,L⟩
   | false=>
     refine⟨rfl,?_⟩
     have hc:({ D with cells:=D.cells.set n (bs,true) } :DM).cells=(M.set n { M.getD n default with bs:=bs,hurt:=true }).map MCell.cell:=by
      rw [List.map_set, ← L.cells];rfl
     have:=DevL.mk' (D:= { D with cells:=D.cells.set n (bs,true) }) (left:=left) hc (fun j m hm=>by
      rw [List.getElem?_set]at hm
      split at hm
      · next e=>
        injection hm with hm;rw [← hm, ← e,getD_at hn];exact h2
      · exact(L.mm j m hm).2) L.armed L.lo (by rw [List.length_set];exact L.some_)
     rw [mHurts_set hn,hq]at this
     have e1:mHurts M=hu:=by rw [L.hu,L.cells,hurts_cells]
     rw [e1]at this
     simp only [Bool.false_eq_true,if_false,Nat.sub_zero,if_true]at this
     rw [L.tu,L.cr,L.ws,L.dn]
     exact this
theorem spoil_none (hG:GlD σ w) (v c:Value) (n:Int) (c3: ∃h,v= .pointer (some ⟨h,0,none⟩)∧w.cell? ⟨h,3,none⟩=some (.pointer (some ⟨h,0,none⟩))) (hh:Calls Tryz.prog 65 #[v,.int .i64 n] w fun e w'=>e= .returned (.bool false)∧w=w'):
 Calls Tryz.prog 80 #[v,.int .i64 n,c] w fun e w'=>e= .returned (DErr.bk.val σ)∧w=w':=by
 obtain⟨h,rfl,c3⟩:=c3
 have HH:=qh hh
 have g1:=hG.bk
 unfold errK at g1
 clear hh hG
 go_enter Tryz.func80,Tryz.ntmps80
 go_wp2_with fail
 refine(told_any _ h c3).mono ?_
 rintro e w' ⟨rfl,rfl⟩
 go_wp2_with fail
 refine HH.out.mono ?_
 rintro e w' ⟨rfl,rfl⟩
 go_wp2_with fail
 go_ret
 exact⟨rfl,rfl⟩
theorem hurts_small {hu tu cr:Nat} {M:List MCell} {ws:List (Nat × List Int)} {left:Int} {dn:Bool} (L:DevL D hu tu cr M ws left dn) (hM:M.length≤4096):hu≤4096:=by
 rw [L.hu,L.cells,hurts_cells];exact Nat.le_trans (mHurts_le M) hM
theorem wipe_any (k:DevAt w T dk D) (hG:GlD σ w) (hS:GlS σ w) (hT: ∀b,σ.blk b→ ¬T b) (hTS: ∀b,σ.blkS b→ ¬T b) (n:Int):
 Calls Tryz.prog 37 #[.pointer (some ⟨dk,0,none⟩),.int .i64 n] w fun e w'=>e= .returned (.int .i64 (D.wipe n).1)∧Dev w T dk (D.wipe n).2 w':=by
 obtain⟨C,wv,hu,tu,cr,M,ws,left,dn,R,L⟩:=k
 by_cases hn:D.has n
 · have hw0:D.wipe n=D.hurt n.toNat zero256:=by unfold DM.wipe;rw [if_pos hn];rfl
   unfold DM.has at hn
   obtain⟨m,rfl⟩:=Int.eq_ofNat_of_zero_le hn.1
   have hm:m < M.length:=by have:=L.len;omega
   rw [Int.toNat_natCast]at hw0
   have hl:=spoil_link L hm zero256
   have hB0:=BlockIs.made w 119 (u8s (M.getD m default).bs).toArray
   have hbm:BlkOk (M.getD m default).bs:=by rw [getD_at hm];exact R.mb _ (List.getElem_mem hm)
   have HS:=qh (spoil_wipe σ hG hS hT hTS R (hurts_small L R.many) m hm zero256 nought_ok #[] rfl (wipe1_any w.heap.size _ hbm hB0))
   have HL:=qh hl
   have Hw:=qh hw0
   have HG:=qh (And.intro hG (And.intro hS (And.intro hT hTS)))
   have Hf:=qh R.foot
   clear R L hn hl hB0 hbm hw0 hG hS hT hTS
   go_enter Tryz.func37,Tryz.ntmps37
   go_wp2_with fail
   refine HS.out.mono ?_
   rintro e w4 ⟨he,hd4,hc4⟩
   have H4:=qh (And.intro hd4 hc4)
   have hG4:=HG.out.1.keep (fun b hb=>hc4.block b (HG.out.1.lt hb) (HG.out.2.2.1 b hb))
   have hS4:=HG.out.2.1.keep (fun b hb=>hc4.block b (HG.out.2.1.lt hb) (HG.out.2.2.2 b hb))
   have HE:=qh (errno_any σ w4 hG4 (spoilE (M.getD m default) zero256) (fun _=>hS4))
   obtain⟨v,hv⟩: ∃v,(spoilE (M.getD m default) zero256).val σ=v:=⟨_,rfl⟩
   obtain⟨c,hc⟩: ∃c,(spoilE (M.getD m default) zero256).code=c:=⟨_,rfl⟩
   rw [hv]at he HE
   rw [hc]at HE HL
   subst he
   clear hd4 hc4 hG4 hS4 hv hc
   go_wp2_with fail
   refine HE.out.mono ?_
   rintro e w5 ⟨rfl,hb5⟩
   have HB5:=qh hb5
   clear hb5
   go_wp2_with fail
   go_ret
   rw [Hw.out]
   exact⟨by rw [← HL.out.1];rfl,(Dev.of H4.out.1 HL.out.2 H4.out.2).on HB5.out Hf.out⟩
 · have hw0:D.wipe n=(2,D):=by unfold DM.wipe;rw [if_neg hn]
   have hB:hasB M n=false:=by rw [L.hasB];exact decide_eq_false hn
   have hh:=has_any R n
   rw [hB]at hh
   have HS:=qh (spoil_none σ hG (.pointer (some ⟨dk,0,none⟩)) (.func (.func 81) #[] #[]) n ⟨dk,rfl,R.cell8.2.2.2.1⟩ hh)
   have HE:=qh (errno_any σ _ hG .bk (fun e=>by cases e))
   have HR:=qh (And.intro (Dev.of (R.mono (fun _ hj=> .inl hj) (grow_lt R.foot (Nat.le_refl _))) L (Chg.refl _ _)) R.foot)
   have Hw:=qh hw0
   clear R L hn hh hw0 hG hS hT hTS
   unfold DErr.val errK at *
   go_enter Tryz.func37,Tryz.ntmps37
   go_wp2_with fail
   refine HS.out.mono ?_
   rintro e w4 ⟨rfl,rfl⟩
   go_wp2_with fail
   refine HE.out.mono ?_
   rintro e w5 ⟨rfl,hb5⟩
   have HB5:=qh hb5
   clear hb5
   go_wp2_with fail
   go_ret
   rw [Hw.out]
   exact⟨rfl,HR.out.1.on HB5.out HR.out.2⟩
theorem boxes2 (w:World) (x y:Value) (tx ty:TypeId):((w.alloc (.cells #[x] tx)).alloc (.cells #[y] ty)).cell? ⟨w.heap.size,0,none⟩=some x∧((w.alloc (.cells #[x] tx)).alloc (.cells #[y] ty)).cell? ⟨w.heap.size+1,0,none⟩=some y:=by
 have h1:=BlockIs.made w tx #[x]
 have h2:=BlockIs.made (w.alloc (.cells #[x] tx)) ty #[y]
 have k1:=h1.below (below_new (w.alloc (.cells #[x] tx)) (.cells #[y] ty)) h1.lt
 rw [size1]at h2
 exact⟨k1.cell 0,h2.cell 0⟩
theorem rot_any (k:DevAt w T dk D) (hG:GlD σ w) (hS:GlS σ w) (hT: ∀b,σ.blk b→ ¬T b) (hTS: ∀b,σ.blkS b→ ¬T b) (n bit:Int) (mask:Nat) (hmask:mask < 4294967296):
 Calls Tryz.prog 38 #[.pointer (some ⟨dk,0,none⟩),.int .i64 n,.int .i64 bit,.int .u32 (mask:Int)] w fun e w'=>e= .returned (.int .i64 (D.rot n bit mask).1)∧Dev w T dk (D.rot n bit mask).2 w':=by
 obtain⟨C,wv,hu,tu,cr,M,ws,left,dn,R,L⟩:=k
 have hb1:=below_new w (.cells #[.int .i64 bit] 3)
 have hb2:=hb1.alloc hb1.size (.cells #[.int .u32 (mask:Int)] 77)
 obtain⟨b1,b2⟩:=boxes2 w (.int .i64 bit) (.int .u32 (mask:Int)) 3 77
 have R2:=R.below hb2
 have hG2:=hG.below hb2
 have hS2:=hS.below hb2
 have Hb2:=qh hb2
 have HB1:=qh (And.intro b1 b2)
 clear b1 b2 hb1 hb2
 by_cases hn:D.has n
 · have hw1:D.rot n bit mask=D.hurt n.toNat (rotB (D.stored n.toNat) bit mask):=by
    unfold DM.rot rotB
    by_cases hbit:0≤bit∧bit < 2048
    · rw [if_pos ⟨hn,hbit⟩,if_pos hbit]
    · rw [if_neg (fun e=>hbit e.2),if_neg hbit];unfold DM.hurt;rw [if_pos rfl]
   unfold DM.has at hn
   obtain⟨m,rfl⟩:=Int.eq_ofNat_of_zero_le hn.1
   have hm:m < M.length:=by have:=L.len;omega
   rw [Int.toNat_natCast]at hw1
   have hst:D.stored m=(M.getD m default).bs:=by
    rw [getD_at hm];unfold DM.stored;rw [List.getD_eq_getElem?_getD,(L.mm m _ (List.getElem?_eq_getElem hm)).1];rfl
   have hw0:=hw1
   rw [hst]at hw0
   have hbm:BlkOk (M.getD m default).bs:=by rw [getD_at hm];exact R.mb _ (List.getElem_mem hm)
   have hbr:=rotB_ok hbm bit mask
   have hl:=spoil_link L hm (rotB (M.getD m default).bs bit mask)
   have hB0:=BlockIs.made ((w.alloc (.cells #[.int .i64 bit] 3)).alloc (.cells #[.int .u32 (mask:Int)] 77)) 119 (u8s (M.getD m default).bs).toArray
   have hn3:=below_new ((w.alloc (.cells #[.int .i64 bit] 3)).alloc (.cells #[.int .u32 (mask:Int)] 77)) (.cells (u8s (M.getD m default).bs).toArray 119)
   have HS:=qh (spoil_rot σ hG2 hS2 hT hTS R2 (hurts_small L R.many) m hm (rotB (M.getD m default).bs bit mask) hbr #[.pointer (some ⟨w.heap.size,0,none⟩),.pointer (some ⟨w.heap.size+1,0,none⟩)] _ _ rfl
    (rot1_any _ _ hbm hB0 bit mask hmask w.heap.size (w.heap.size+1) (cell_below HB1.out.1 hn3) (cell_below HB1.out.2 hn3)))
   obtain⟨br,hbre⟩: ∃br,rotB (M.getD m default).bs bit mask=br:=⟨_,rfl⟩
   rw [hbre]at HS hl hw0
   have H2:=qh (And.intro hG2 hS2)
   clear hn3 hbr hst hw1 hG2 hS2 R2 hbre HB1
   have HL:=qh hl
   have Hw:=qh hw0
   have HG:=qh (And.intro hG (And.intro hS (And.intro hT hTS)))
   have Hf:=qh R.foot
   clear R L hn hl hB0 hbm hw0 hG hS hT hTS
   go_enter Tryz.func38,Tryz.ntmps38
   go_wp2_with fail
   generalize ((w.alloc (.cells #[.int .i64 bit] 3)).alloc (.cells #[.int .u32 (mask:Int)] 77))=w2 at *
   refine HS.out.mono ?_
   rintro e w4 ⟨he,hd4,hc4⟩
   have H4:=qh (And.intro hd4 hc4)
   have hG4:=H2.out.1.keep (fun b hb=>hc4.block b (H2.out.1.lt hb) (HG.out.2.2.1 b hb))
   have hS4:=H2.out.2.keep (fun b hb=>hc4.block b (H2.out.2.lt hb) (HG.out.2.2.2 b hb))
   have HE:=qh (errno_any σ w4 hG4 (spoilE (M.getD m default) br) (fun _=>hS4))
   obtain⟨v,hv⟩: ∃v,(spoilE (M.getD m default) br).val σ=v:=⟨_,rfl⟩
   obtain⟨c,hc⟩: ∃c,(spoilE (M.getD m default) br).code=c:=⟨_,rfl⟩
   rw [hv]at he HE
   rw [hc]at HE HL
   subst he
   clear hd4 hc4 hG4 hS4 hv hc
   go_wp2_with fail
   refine HE.out.mono ?_
   rintro e w5 ⟨rfl,hb5⟩
   have HB5:=qh hb5
   clear hb5
   go_wp2_with fail
   go_ret
   rw [Hw.out]
   exact⟨by rw [← HL.out.1];rfl,(Dev.after Hb2.out (Dev.of H4.out.1 HL.out.2 H4.out.2) Hf.out).on HB5.out Hf.out⟩
 · have hw0:D.rot n bit mask=(2,D):=by unfold DM.rot;rw [if_neg (fun e=>hn e.1)]
   have hB:hasB M n=false:=by rw [L.hasB];exact decide_eq_false hn
   have hh:=has_any R2 n
   rw [hB]at hh
   have HS:=qh (spoil_none σ hG2 (.pointer (some ⟨dk,0,none⟩)) (.func (.func 82) #[] #[.pointer (some ⟨w.heap.size,0,none⟩),.pointer (some ⟨w.heap.size+1,0,none⟩)]) n ⟨dk,rfl,R2.cell8.2.2.2.1⟩ hh)
   have HE:=qh (errno_any σ _ hG2 .bk (fun e=>by cases e))
   have HR:=qh (And.intro (Dev.below ⟨C,wv,hu,tu,cr,M,ws,left,dn,R,L⟩ Hb2.out) R.foot)
   have Hw:=qh hw0
   clear R L hn hh hw0 hG hS hT hTS R2 hG2 hS2
   unfold DErr.val errK at *
   go_enter Tryz.func38,Tryz.ntmps38
   go_wp2_with fail
   refine HS.out.mono ?_
   rintro e w4 ⟨rfl,rfl⟩
   go_wp2_with fail
   refine HE.out.mono ?_
   rintro e w5 ⟨rfl,hb5⟩
   have HB5:=qh hb5
   clear hb5
   go_wp2_with fail
   go_ret
   rw [Hw.out]
   exact⟨rfl,HR.out.1.on HB5.out HR.out.2⟩
end
end Go.Proofs.YtpaikolnampcfaaGreatDoor
