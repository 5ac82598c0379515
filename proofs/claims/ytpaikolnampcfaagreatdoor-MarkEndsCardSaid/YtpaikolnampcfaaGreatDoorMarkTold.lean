/- A mark's body, read field by field: plain mathematics. -/
import Derived.Test.YtpaikolnampcfaaGreatDoorMarkV
import Derived.Test.YtpaikolnampcfaaGreatDoorReadField
import Derived.Test.YtpaikolnampcfaaGreatDoorMarkPlace
import Derived.Test.YtpaikolnampcfaaGreatDoorMarkRight
import Derived.Test.YtpaikolnampcfaaGreatDoorUnitOpens
import Derived.Test.YtpaikolnampcfaaGreatDoorUnitErr
namespace Go.Proofs.YtpaikolnampcfaaGreatDoor
set_option maxRecDepth 100000
set_option maxHeartbeats 8000000
open Mx
theorem field_cases (bs:List Int) (w:Int) (k:Nat) (hw:w=1∨w=6):(fieldR bs w (.ok k)=(0,.bad k false)∧((bs.length:Int) < k+w∨top w < unle ((bs.drop k).take w.toNat)))∨
 (fieldR bs w (.ok k)=(unle ((bs.drop k).take w.toNat),.ok (k+w.toNat))∧(k:Int)+w≤bs.length∧unle ((bs.drop k).take w.toNat)≤top w):=by
 have ht: ¬top w < 0:=by rcases hw with rfl | rfl<;>decide
 by_cases h1:w > (bs.length:Int) - k
 · refine .inl ⟨?_,.inl (by omega)⟩
   simp only [fieldR]
   rw [if_pos (.inr h1)]
 · by_cases h2:unle ((bs.drop k).take w.toNat) > top w
   · refine .inl ⟨?_,.inr h2⟩
     simp only [fieldR]
     rw [if_neg (by rintro(h | h);exact ht h;exact h1 h),if_pos h2]
   · refine .inr ⟨?_,by omega,by omega⟩
     simp only [fieldR]
     rw [if_neg (by rintro(h | h);exact ht h;exact h1 h),if_neg h2]
theorem mark_cases (ver:Int) (bs:List Int):
 (∃r1 r2 r3 r4:RSt,∃n1 n2 n3 n4:Int,∃p:Nat,fieldR bs 6 (.ok 0)=(n1,r1)∧fieldR bs 6 r1=(n2,r2)∧fieldR bs 1 r2=(n3,r3)∧fieldR bs 6 r3=(n4,r4)∧r4= .bad p false∧partedK ver bs=(noMark,4))∨
 (fieldR bs 6 (.ok 0)=((bodyK ver bs).idx,.ok 6)∧fieldR bs 6 (.ok 6)=((bodyK ver bs).term,.ok 12)∧fieldR bs 1 (.ok 12)=((bodyK ver bs).kind,.ok 13)∧fieldR bs 6 (.ok 13)=((bodyK ver bs).void,.ok 19)∧19≤bs.length):=by
 have t6:top 6=1099511627776:=rfl
 have t1:top 1=255:=rfl
 have no_len:bs.length < 19→partedK ver bs=(noMark,4):=fun h=>by
  unfold partedK
  rw [if_neg (by rintro⟨h1,_⟩;omega)]
 have no_val: ¬(bodyK ver bs).right→partedK ver bs=(noMark,4):=fun h=>by
  unfold partedK
  rw [if_neg (by rintro⟨_,h1⟩;exact h h1)]
 have e1:(bs.drop 0).take 6=bs.take 6:=by rw [List.drop_zero]
 rcases field_cases bs 6 0 (.inr rfl)with⟨f1,c1⟩ | ⟨f1,l1,b1⟩
 · refine .inl ⟨_,.bad 0 false,.bad 0 false,.bad 0 false,_,0,0,0,0,f1,rfl,rfl,rfl,rfl,?_⟩
   rcases c1 with c1 | c1
   · exact no_len (by omega)
   · refine no_val fun h=> ?_
     have h2:unle (bs.take 6)≤1099511627776:=(known_bd h.2.2).1.2
     rw [t6,show(6:Int).toNat=6 from rfl,e1]at c1
     omega
 · rw [show (6:Int).toNat=6 from rfl,e1]at f1
   rcases field_cases bs 6 6 (.inr rfl)with⟨f2,c2⟩ | ⟨f2,l2,b2⟩
   · refine .inl ⟨.ok 6,.bad 6 false,.bad 6 false,.bad 6 false,_,0,0,0,6,f1,f2,rfl,rfl,rfl,?_⟩
     rcases c2 with c2 | c2
     · exact no_len (by omega)
     · refine no_val fun h=> ?_
       have h2:unle ((bs.drop 6).take 6)≤1099511627776:=(known_bd h.2.2).2.1.2
       rw [t6,show(6:Int).toNat=6 from rfl]at c2
       omega
   · rw [show (6:Int).toNat=6 from rfl]at f2
     rcases field_cases bs 1 12 (.inl rfl)with⟨f3,c3⟩ | ⟨f3,l3,b3⟩
     · refine .inl ⟨.ok 6,.ok 12,.bad 12 false,.bad 12 false,_,_,0,0,12,f1,f2,f3,rfl,rfl,?_⟩
       rcases c3 with c3 | c3
       · exact no_len (by omega)
       · refine no_val fun h=> ?_
         have h2:unle ((bs.drop 12).take 1)≤3:=(known_bd h.2.2).2.2.2
         rw [t1,show(1:Int).toNat=1 from rfl]at c3
         omega
     · rw [show (1:Int).toNat=1 from rfl]at f3
       rcases field_cases bs 6 13 (.inr rfl)with⟨f4,c4⟩ | ⟨f4,l4,b4⟩
       · refine .inl ⟨.ok 6,.ok 12,.ok 13,.bad 13 false,_,_,_,0,13,f1,f2,f3,f4,rfl,?_⟩
         rcases c4 with c4 | c4
         · exact no_len (by omega)
         · refine no_val fun h=> ?_
           have h2:unle ((bs.drop 13).take 6)≤1099511627776:=h.2.1.2
           rw [t6,show(6:Int).toNat=6 from rfl]at c4
           omega
       · rw [show (6:Int).toNat=6 from rfl]at f4
         exact .inr ⟨f1,f2,f3,f4,by omega⟩
open Go.RowKit
theorem rleft_any (σ:Sen) (w:World) (g:Nat) (bs:List Int) (s:RSt) (h:RdAt σ w g bs s):
 Calls Tryz.prog 124 #[.pointer (some ⟨g,0,none⟩)] w fun e w'=>e= .returned (.int .i64 (leftR bs s))∧ ∃n,w'=w.drewN n:=by
 cases s with
 | bad p l=>
   go_enter Tryz.func124,Tryz.ntmps124
   go_wp2_with fail
   refine(going_is σ w g bs _ h).mono ?_
   rintro e w' ⟨rfl,rfl⟩
   unfold isOk
   go_wp2_with fail
   go_ret
   exact⟨rfl,0,rfl⟩
 | ok j=>
   go_enter Tryz.func124,Tryz.ntmps124
   go_wp2_with fail
   refine(going_is σ w g bs _ h).mono ?_
   rintro e w' ⟨rfl,rfl⟩
   unfold isOk
   go_wp2_with fail
   refine(left_is σ w g bs j h).mono ?_
   rintro e w2 ⟨rfl,n,rfl⟩
   go_wp2_with fail
   go_ret
   exact⟨rfl,n,rfl⟩
open Go.RowKit
structure PIn (σ:Sen) (w w1:World) (g q:Nat) (bs:List Int) (s:RSt) (ms:Array Value):Prop where
 rd:RdAt σ w1 g bs s
 res:BlockIs w1 w.heap.size 26 #[.int .i64 0,.int .i64 0,.int .i64 0,.int .i64 0,.int .i64 0]
 blk:BlockIs w1 q 26 ms
 bl:Below w.heap.size w w1
 lg:w.heap.size < g
 gq:g < q
section
variable {σ : Sen} {w w1 w2 : World} {g q : Nat} {bs : List Int} {s s2 : RSt} {ms : Array Value}
theorem PIn.env (k:PIn σ w w1 g q bs s ms) (hC:GlAt σ w):Env σ w g w1:=⟨hC,k.bl,Nat.le_of_lt k.lg⟩
theorem PIn.got (k:PIn σ w w1 g q bs s ms) (hG:Got σ w1 g bs s2 w2):PIn σ w w2 g q bs s2 ms:=
 ⟨hG.rd,k.res.kept hG.fr (fun e=>by have:=Option.some.inj e;have:=k.lg;omega),k.blk.kept hG.fr (fun e=>by have:=Option.some.inj e;have:=k.gq;omega),below_grown k.bl hG.fr k.bl.size (Nat.le_of_lt k.lg),k.lg,k.gq⟩
theorem PIn.below (k:PIn σ w w1 g q bs s ms) (hb:Below w1.heap.size w1 w2):PIn σ w w2 g q bs s ms:=
 ⟨k.rd.below hb,k.res.below hb k.res.lt,k.blk.below hb k.blk.lt,k.bl.trans (hb.mono k.bl.size),k.lg,k.gq⟩
theorem PIn.set (k:PIn σ w w1 g q bs s ms) (i:Nat) (v:Value):PIn σ w (w1.setCell ⟨q,i,none⟩ v) g q bs s (ms.setIfInBounds i v):=
 have hg:=grown_at (World.grownBy.refl w1 (some q)) i v
 ⟨k.rd.newer hg (fun b e=>by have:=Option.some.inj e;have:=k.gq;omega),k.res.kept hg (fun e=>by have:=Option.some.inj e;have:=k.gq;have:=k.lg;omega),k.blk.set1 i v,
  k.bl.setCell (p:=⟨q,i,none⟩) (Nat.le_of_lt (Nat.lt_trans k.lg k.gq)) v,k.lg,k.gq⟩
theorem PIn.drewN (k:PIn σ w w1 g q bs s ms) (n:Nat):PIn σ w (w1.drewN n) g q bs s ms:=k.below (drewN_below (Below.refl _ _) n)
end
theorem kparted_any (σ:Sen) (κ:SenK) (w:World) (hC:GlAt σ w) (hM:GlK κ w) (ver:Int) (bs:List Int) (A:Option Addr) (c:Nat) (hz:BytesAt w A bs) (hl:bs.length≤239) (hA:A=none→c=0):
 Calls Tryz.prog 90 #[.int .i64 ver,.slice A bs.length c] w fun e w'=> ∃v,e= .returned (.tuple #[(partedK ver bs).1.val,v])∧KErr κ (partedK ver bs).2 v∧Below w.heap.size w w':=by
 have hb0:=below_new w (.cells #[.int .i64 0,.int .i64 0,.int .i64 0,.int .i64 0,.int .i64 0] 26)
 have HR0:=qh (BlockIs.made w 26 #[.int .i64 0,.int .i64 0,.int .i64 0,.int .i64 0,.int .i64 0])
 have HRd:=qh (cread_any σ _ bs A c (hz.below hb0) (by omega) hA)
 have Hb0:=qh hb0
 have HC:=qh hC
 have HM:=qh hM
 have HF:=qh (fun w1 g q s ms wd (h:PIn σ w w1 g q bs s ms)=>rfield_any σ w w1 g bs s wd h.rd (h.env hC).f (by omega))
 have HE:=qh (fun w1 g q s ms (h:PIn σ w w1 g q bs s ms)=>rerr_any σ w w1 g bs s h.rd (h.env hC))
 have HL:=qh (fun w1 g s (h:RdAt σ w1 g bs s)=>rleft_any σ w1 g bs s h)
 have Hcs:=qh (mark_cases ver bs)
 clear hz hC hM hl hb0
 rcases Hcs.out with⟨r1,r2,r3,r4,n1,n2,n3,n4,p,e1,e2,e3,e4,e5,e6⟩ | ⟨e1,e2,e3,e4,e5⟩
 · rw [e6]
   have E1:=qh e1
   have E2:=qh e2
   have E3:=qh e3
   have E4:=qh e4
   subst e5
   clear e1 e2 e3 e4 e6
   go_enter Tryz.func90,Tryz.ntmps90
   go_wp2_with fail
   refine HRd.out.mono ?_
   rintro e w1 ⟨g,rfl,hg,hr,hb1⟩
   have hbn:=below_new w1 (.cells #[.int .i64 ver,.int .i64 0,.int .i64 0,.int .i64 0,.int .i64 0] 26)
   have I2:Hid (PIn σ w (w1.alloc (.cells #[.int .i64 ver,.int .i64 0,.int .i64 0,.int .i64 0,.int .i64 0] 26)) g w1.heap.size bs (.ok 0) #[.int .i64 ver,.int .i64 0,.int .i64 0,.int .i64 0,.int .i64 0]):=qh (by
    have hs:=hr
    obtain⟨x,cap,kk,ev,hI⟩:=hs
    exact⟨hr.below hbn,(HR0.out.below hb1 HR0.out.lt).below hbn (Nat.lt_of_lt_of_le HR0.out.lt hb1.size),BlockIs.made _ _ _,(Hb0.out.trans (hb1.mono Hb0.out.size)).trans (hbn.mono (Nat.le_trans Hb0.out.size hb1.size)),Nat.lt_of_lt_of_le HR0.out.lt hg,hI.blk.lt⟩)
   have F1:=HF.out _ _ _ _ _ 6 I2.out
   clear hg hr hb1 hbn HRd
   rw [E1.out]at F1
   have HF1:=qh F1
   clear F1
   go_wp2_with fail
   refine HF1.out.mono ?_
   rintro e w3 ⟨rfl,hG⟩
   have I3:=qh (I2.out.got hG)
   have F2:=HF.out _ _ _ _ _ 6 I3.out
   rw [E2.out]at F2
   have HF2:=qh F2
   clear hG F2 HF1
   go_wp2_with fail
   refine HF2.out.mono ?_
   rintro e w4 ⟨rfl,hG⟩
   have I4:=qh (I3.out.got hG)
   obtain⟨⟨y0,y1,y2,y3,y4⟩,f0,f1,f2,f3,f4⟩:=cells_five I4.out.blk
   have I5:Hid (PIn σ w ((w4.setCell ⟨w1.heap.size,1,none⟩ (.int .i64 n1)).setCell ⟨w1.heap.size,2,none⟩ (.int .i64 n2)) g w1.heap.size bs r2 #[.int .i64 ver,.int .i64 n1,.int .i64 n2,.int .i64 0,.int .i64 0]):=qh ((I4.out.set 1 (.int .i64 n1)).set 2 (.int .i64 n2))
   have F3:=HF.out _ _ _ _ _ 1 I5.out
   rw [E3.out]at F3
   have HF3:=qh F3
   clear hG F3 HF2
   go_wp2_with fail
   refine HF3.out.mono ?_
   rintro e w5 ⟨rfl,hG⟩
   have I6:=qh (I5.out.got hG)
   clear y0 y1 y2 y3 y4 f0 f1 f2 f3 f4
   obtain⟨⟨y0,y1,y2,y3,y4⟩,f0,f1,f2,f3,f4⟩:=cells_five I6.out.blk
   have I7:Hid (PIn σ w (w5.setCell ⟨w1.heap.size,3,none⟩ (.int .i64 n3)) g w1.heap.size bs r3 #[.int .i64 ver,.int .i64 n1,.int .i64 n2,.int .i64 n3,.int .i64 0]):=qh (I6.out.set 3 (.int .i64 n3))
   have F4:=HF.out _ _ _ _ _ 6 I7.out
   rw [E4.out]at F4
   have HF4:=qh F4
   clear hG F4 HF3
   go_wp2_with fail
   refine HF4.out.mono ?_
   rintro e w6 ⟨rfl,hG⟩
   have I8:=qh (I7.out.got hG)
   clear y0 y1 y2 y3 y4 f0 f1 f2 f3 f4
   obtain⟨⟨y0,y1,y2,y3,y4⟩,f0,f1,f2,f3,f4⟩:=cells_five I8.out.blk
   have I9:Hid (PIn σ w (w6.setCell ⟨w1.heap.size,4,none⟩ (.int .i64 n4)) g w1.heap.size bs (.bad p false) #[.int .i64 ver,.int .i64 n1,.int .i64 n2,.int .i64 n3,.int .i64 n4]):=qh (I8.out.set 4 (.int .i64 n4))
   have F5:=HE.out _ _ _ _ _ I9.out
   rw [show errPos (.bad p false)=p from rfl,show errNo (.bad p false)=4 from rfl]at F5
   have HF5:=qh F5
   clear hG F5 HF4
   go_wp2_with fail
   refine HF5.out.mono ?_
   rintro e w7 ⟨rfl,hb7⟩
   have J7:=qh (I9.out.below hb7)
   clear hb7 y0 y1 y2 y3 y4 f0 f1 f2 f3 f4 HF5
   obtain⟨⟨y0,y1,y2,y3,y4⟩,f0,f1,f2,f3,f4⟩:=cells_five J7.out.res
   have gn:=(HM.out.below J7.out.bl).bd
   unfold errK at gn
   have gz:=(grown_at (World.grownBy.refl w7 (some w.heap.size)) 0 (.int .i64 0)).cell gn (fun e=>by have:=Option.some.inj e;have:=World.block_lt_of_cell? _ _ HM.out.bd;simp only at *;omega)
   go_wp2_with fail
   go_region
   all_goals
    have RZ:=qh (set_five J7.out.res (.int .i64 0) (.int .i64 0) (.int .i64 0) (.int .i64 0) (.int .i64 0))
    have BZ:=qh (below_five J7.out.bl (Nat.le_refl _) (.int .i64 0) (.int .i64 0) (.int .i64 0) (.int .i64 0) (.int .i64 0))
    unfold put5 at RZ BZ
    clear y0 y1 y2 y3 y4 f0 f1 f2 f3 f4 gn gz
    generalize ((((w7.setCell ⟨w.heap.size,0,none⟩ (.int .i64 0)).setCell ⟨w.heap.size,1,none⟩ (.int .i64 0)).setCell ⟨w.heap.size,2,none⟩ (.int .i64 0)).setCell ⟨w.heap.size,3,none⟩ (.int .i64 0)).setCell ⟨w.heap.size,4,none⟩ (.int .i64 0)=wz at *
    obtain⟨⟨z0,z1,z2,z3,z4⟩,_⟩:=cells_five RZ.out
    go_wp2_with fail
    exact bodyPost_ret (v:= .tuple #[.agg #[.int .i64 0,.int .i64 0,.int .i64 0,.int .i64 0,.int .i64 0],errK κ.bd]) (by simp [results,Tryz.results90,go_sem,z0,z1,z2,z3,z4]) rfl ⟨_,rfl,.inr (.inr (.inr (.inl ⟨rfl,rfl⟩))),⟨BZ.out.os,BZ.out.tape,BZ.out.output,BZ.out.size,BZ.out.block⟩⟩
 · obtain⟨mm,hmm⟩: ∃mm,bodyK ver bs=mm:=⟨_,rfl⟩
   have Hp:Hid (partedK ver bs=if bs.length=19∧mm.right then(mm,0)else(noMark,4)):=qh (by unfold partedK;rw [hmm])
   have hv:mm.ver=ver:=by rw [← hmm];rfl
   rw [hmm]at e1 e2 e3 e4
   have HRt:=qh (fun w=>kright_any w mm)
   rw [Hp.out]
   obtain⟨v0,i0,t0,k0,o0⟩:=mm
   simp only at e1 e2 e3 e4
   unfold MarkV.val at HRt
   simp only at HRt
   obtain rfl:v0=ver:=hv
   have E1:=qh e1
   have E2:=qh e2
   have E3:=qh e3
   have E4:=qh e4
   have E5:=qh e5
   clear e1 e2 e3 e4 e5 hmm
   by_cases hn:bs.length=19
   · have Hlf:Hid (leftR bs (.ok 19)=0):=qh (by show(bs.length:Int) - (19:Nat)=0;omega)
     have Hn:=qh hn
     clear hn
     by_cases hr:(⟨v0,i0,t0,k0,o0⟩:MarkV).right
     · rw [decide_eq_true hr]at HRt
       rw [if_pos ⟨Hn.out,hr⟩]
       clear hr
       go_enter Tryz.func90,Tryz.ntmps90
       go_wp2_with fail
       refine HRd.out.mono ?_
       rintro e w1 ⟨g,rfl,hg,hr,hb1⟩
       have hbn:=below_new w1 (.cells #[.int .i64 v0,.int .i64 0,.int .i64 0,.int .i64 0,.int .i64 0] 26)
       have I2:Hid (PIn σ w (w1.alloc (.cells #[.int .i64 v0,.int .i64 0,.int .i64 0,.int .i64 0,.int .i64 0] 26)) g w1.heap.size bs (.ok 0) #[.int .i64 v0,.int .i64 0,.int .i64 0,.int .i64 0,.int .i64 0]):=qh (by
        have hs:=hr
        obtain⟨x,cap,kk,ev,hI⟩:=hs
        exact⟨hr.below hbn,(HR0.out.below hb1 HR0.out.lt).below hbn (Nat.lt_of_lt_of_le HR0.out.lt hb1.size),BlockIs.made _ _ _,(Hb0.out.trans (hb1.mono Hb0.out.size)).trans (hbn.mono (Nat.le_trans Hb0.out.size hb1.size)),Nat.lt_of_lt_of_le HR0.out.lt hg,hI.blk.lt⟩)
       have F1:=HF.out _ _ _ _ _ 6 I2.out
       clear hg hr hb1 hbn HRd
       rw [E1.out]at F1
       have HF1:=qh F1
       clear F1
       go_wp2_with fail
       refine HF1.out.mono ?_
       rintro e w3 ⟨rfl,hG⟩
       have I3:=qh (I2.out.got hG)
       have F2:=HF.out _ _ _ _ _ 6 I3.out
       rw [E2.out]at F2
       have HF2:=qh F2
       clear hG F2 HF1
       go_wp2_with fail
       refine HF2.out.mono ?_
       rintro e w4 ⟨rfl,hG⟩
       have I4:=qh (I3.out.got hG)
       obtain⟨⟨y0,y1,y2,y3,y4⟩,f0,f1,f2,f3,f4⟩:=cells_five I4.out.blk
       have I5:Hid (PIn σ w ((w4.setCell ⟨w1.heap.size,1,none⟩ (.int .i64 i0)).setCell ⟨w1.heap.size,2,none⟩ (.int .i64 t0)) g w1.heap.size bs (.ok 12) #[.int .i64 v0,.int .i64 i0,.int .i64 t0,.int .i64 0,.int .i64 0]):=qh ((I4.out.set 1 (.int .i64 i0)).set 2 (.int .i64 t0))
       have F3:=HF.out _ _ _ _ _ 1 I5.out
       rw [E3.out]at F3
       have HF3:=qh F3
       clear hG F3 HF2
       go_wp2_with fail
       refine HF3.out.mono ?_
       rintro e w5 ⟨rfl,hG⟩
       have I6:=qh (I5.out.got hG)
       clear y0 y1 y2 y3 y4 f0 f1 f2 f3 f4
       obtain⟨⟨y0,y1,y2,y3,y4⟩,f0,f1,f2,f3,f4⟩:=cells_five I6.out.blk
       have I7:Hid (PIn σ w (w5.setCell ⟨w1.heap.size,3,none⟩ (.int .i64 k0)) g w1.heap.size bs (.ok 13) #[.int .i64 v0,.int .i64 i0,.int .i64 t0,.int .i64 k0,.int .i64 0]):=qh (I6.out.set 3 (.int .i64 k0))
       have F4:=HF.out _ _ _ _ _ 6 I7.out
       rw [E4.out]at F4
       have HF4:=qh F4
       clear hG F4 HF3
       go_wp2_with fail
       refine HF4.out.mono ?_
       rintro e w6 ⟨rfl,hG⟩
       have I8:=qh (I7.out.got hG)
       clear y0 y1 y2 y3 y4 f0 f1 f2 f3 f4
       obtain⟨⟨y0,y1,y2,y3,y4⟩,f0,f1,f2,f3,f4⟩:=cells_five I8.out.blk
       have I9:Hid (PIn σ w (w6.setCell ⟨w1.heap.size,4,none⟩ (.int .i64 o0)) g w1.heap.size bs (.ok 19) #[.int .i64 v0,.int .i64 i0,.int .i64 t0,.int .i64 k0,.int .i64 o0]):=qh (I8.out.set 4 (.int .i64 o0))
       have F5:=HE.out _ _ _ _ _ I9.out
       rw [show errPos (.ok 19)=0 from rfl,show errNo (.ok 19)=0 from rfl]at F5
       have HF5:=qh F5
       clear hG F5 HF4
       go_wp2_with fail
       refine HF5.out.mono ?_
       rintro e w7 ⟨rfl,hb7⟩
       have J7:=qh (I9.out.below hb7)
       have F6:=HL.out _ _ _ J7.out.rd
       rw [Hlf.out]at F6
       have HF6:=qh F6
       clear hb7 y0 y1 y2 y3 y4 f0 f1 f2 f3 f4 HF5 F6
       obtain⟨⟨y0,y1,y2,y3,y4⟩,f0,f1,f2,f3,f4⟩:=cells_five J7.out.blk
       go_wp2_with fail
       refine HF6.out.mono ?_
       rintro e w8 ⟨rfl,nd,hw8⟩
       have J8:Hid (PIn σ w w8 g w1.heap.size bs (.ok 19) #[.int .i64 v0,.int .i64 i0,.int .i64 t0,.int .i64 k0,.int .i64 o0]):=qh (by rw [hw8];exact J7.out.drewN nd)
       clear hw8 HF6
       clear y0 y1 y2 y3 y4 f0 f1 f2 f3 f4
       obtain⟨⟨y0,y1,y2,y3,y4⟩,f0,f1,f2,f3,f4⟩:=cells_five J8.out.blk
       go_wp2_with fail
       refine(HRt.out _).mono ?_
       rintro e wj ⟨rfl,hbj⟩
       have JJ:=qh (J8.out.below hbj)
       clear hbj
       clear y0 y1 y2 y3 y4 f0 f1 f2 f3 f4
       obtain⟨⟨q0,q1,q2,q3,q4⟩,_⟩:=cells_five JJ.out.blk
       obtain⟨⟨y0,y1,y2,y3,y4⟩,f0,f1,f2,f3,f4⟩:=cells_five JJ.out.res
       have RZ:=qh (set_five JJ.out.res (.int .i64 v0) (.int .i64 i0) (.int .i64 t0) (.int .i64 k0) (.int .i64 o0))
       have BZ:=qh (below_five JJ.out.bl (Nat.le_refl _) (.int .i64 v0) (.int .i64 i0) (.int .i64 t0) (.int .i64 k0) (.int .i64 o0))
       unfold put5 at RZ BZ
       go_wp2_with fail
       clear y0 y1 y2 y3 y4 f0 f1 f2 f3 f4 q0 q1 q2 q3 q4
       generalize ((((wj.setCell ⟨w.heap.size,0,none⟩ (.int .i64 v0)).setCell ⟨w.heap.size,1,none⟩ (.int .i64 i0)).setCell ⟨w.heap.size,2,none⟩ (.int .i64 t0)).setCell ⟨w.heap.size,3,none⟩ (.int .i64 k0)).setCell ⟨w.heap.size,4,none⟩ (.int .i64 o0)=wz at *
       obtain⟨⟨z0,z1,z2,z3,z4⟩,_⟩:=cells_five RZ.out
       exact bodyPost_ret (v:= .tuple #[.agg #[.int .i64 v0,.int .i64 i0,.int .i64 t0,.int .i64 k0,.int .i64 o0],.nilIface]) (by simp [results,Tryz.results90,go_sem,z0,z1,z2,z3,z4]) rfl ⟨_,rfl,.inl ⟨rfl,rfl⟩,BZ.out⟩
     · rw [decide_eq_false hr]at HRt
       rw [if_neg (fun h=>hr h.2)]
       clear hr
       go_enter Tryz.func90,Tryz.ntmps90
       go_wp2_with fail
       refine HRd.out.mono ?_
       rintro e w1 ⟨g,rfl,hg,hr,hb1⟩
       have hbn:=below_new w1 (.cells #[.int .i64 v0,.int .i64 0,.int .i64 0,.int .i64 0,.int .i64 0] 26)
       have I2:Hid (PIn σ w (w1.alloc (.cells #[.int .i64 v0,.int .i64 0,.int .i64 0,.int .i64 0,.int .i64 0] 26)) g w1.heap.size bs (.ok 0) #[.int .i64 v0,.int .i64 0,.int .i64 0,.int .i64 0,.int .i64 0]):=qh (by
        have hs:=hr
        obtain⟨x,cap,kk,ev,hI⟩:=hs
        exact⟨hr.below hbn,(HR0.out.below hb1 HR0.out.lt).below hbn (Nat.lt_of_lt_of_le HR0.out.lt hb1.size),BlockIs.made _ _ _,(Hb0.out.trans (hb1.mono Hb0.out.size)).trans (hbn.mono (Nat.le_trans Hb0.out.size hb1.size)),Nat.lt_of_lt_of_le HR0.out.lt hg,hI.blk.lt⟩)
       have F1:=HF.out _ _ _ _ _ 6 I2.out
       clear hg hr hb1 hbn HRd
       rw [E1.out]at F1
       have HF1:=qh F1
       clear F1
       go_wp2_with fail
       refine HF1.out.mono ?_
       rintro e w3 ⟨rfl,hG⟩
       have I3:=qh (I2.out.got hG)
       have F2:=HF.out _ _ _ _ _ 6 I3.out
       rw [E2.out]at F2
       have HF2:=qh F2
       clear hG F2 HF1
       go_wp2_with fail
       refine HF2.out.mono ?_
       rintro e w4 ⟨rfl,hG⟩
       have I4:=qh (I3.out.got hG)
       obtain⟨⟨y0,y1,y2,y3,y4⟩,f0,f1,f2,f3,f4⟩:=cells_five I4.out.blk
       have I5:Hid (PIn σ w ((w4.setCell ⟨w1.heap.size,1,none⟩ (.int .i64 i0)).setCell ⟨w1.heap.size,2,none⟩ (.int .i64 t0)) g w1.heap.size bs (.ok 12) #[.int .i64 v0,.int .i64 i0,.int .i64 t0,.int .i64 0,.int .i64 0]):=qh ((I4.out.set 1 (.int .i64 i0)).set 2 (.int .i64 t0))
       have F3:=HF.out _ _ _ _ _ 1 I5.out
       rw [E3.out]at F3
       have HF3:=qh F3
       clear hG F3 HF2
       go_wp2_with fail
       refine HF3.out.mono ?_
       rintro e w5 ⟨rfl,hG⟩
       have I6:=qh (I5.out.got hG)
       clear y0 y1 y2 y3 y4 f0 f1 f2 f3 f4
       obtain⟨⟨y0,y1,y2,y3,y4⟩,f0,f1,f2,f3,f4⟩:=cells_five I6.out.blk
       have I7:Hid (PIn σ w (w5.setCell ⟨w1.heap.size,3,none⟩ (.int .i64 k0)) g w1.heap.size bs (.ok 13) #[.int .i64 v0,.int .i64 i0,.int .i64 t0,.int .i64 k0,.int .i64 0]):=qh (I6.out.set 3 (.int .i64 k0))
       have F4:=HF.out _ _ _ _ _ 6 I7.out
       rw [E4.out]at F4
       have HF4:=qh F4
       clear hG F4 HF3
       go_wp2_with fail
       refine HF4.out.mono ?_
       rintro e w6 ⟨rfl,hG⟩
       have I8:=qh (I7.out.got hG)
       clear y0 y1 y2 y3 y4 f0 f1 f2 f3 f4
       obtain⟨⟨y0,y1,y2,y3,y4⟩,f0,f1,f2,f3,f4⟩:=cells_five I8.out.blk
       have I9:Hid (PIn σ w (w6.setCell ⟨w1.heap.size,4,none⟩ (.int .i64 o0)) g w1.heap.size bs (.ok 19) #[.int .i64 v0,.int .i64 i0,.int .i64 t0,.int .i64 k0,.int .i64 o0]):=qh (I8.out.set 4 (.int .i64 o0))
       have F5:=HE.out _ _ _ _ _ I9.out
       rw [show errPos (.ok 19)=0 from rfl,show errNo (.ok 19)=0 from rfl]at F5
       have HF5:=qh F5
       clear hG F5 HF4
       go_wp2_with fail
       refine HF5.out.mono ?_
       rintro e w7 ⟨rfl,hb7⟩
       have J7:=qh (I9.out.below hb7)
       have F6:=HL.out _ _ _ J7.out.rd
       rw [Hlf.out]at F6
       have HF6:=qh F6
       clear hb7 y0 y1 y2 y3 y4 f0 f1 f2 f3 f4 HF5 F6
       obtain⟨⟨y0,y1,y2,y3,y4⟩,f0,f1,f2,f3,f4⟩:=cells_five J7.out.blk
       go_wp2_with fail
       refine HF6.out.mono ?_
       rintro e w8 ⟨rfl,nd,hw8⟩
       have J8:Hid (PIn σ w w8 g w1.heap.size bs (.ok 19) #[.int .i64 v0,.int .i64 i0,.int .i64 t0,.int .i64 k0,.int .i64 o0]):=qh (by rw [hw8];exact J7.out.drewN nd)
       clear hw8 HF6
       clear y0 y1 y2 y3 y4 f0 f1 f2 f3 f4
       obtain⟨⟨y0,y1,y2,y3,y4⟩,f0,f1,f2,f3,f4⟩:=cells_five J8.out.blk
       go_wp2_with fail
       refine(HRt.out _).mono ?_
       rintro e wj ⟨rfl,hbj⟩
       have JJ:=qh (J8.out.below hbj)
       clear hbj
       clear y0 y1 y2 y3 y4 f0 f1 f2 f3 f4
       obtain⟨⟨y0,y1,y2,y3,y4⟩,f0,f1,f2,f3,f4⟩:=cells_five JJ.out.res
       have gn:=(HM.out.below JJ.out.bl).bd
       unfold errK at gn
       have gz:=(grown_at (World.grownBy.refl wj (some w.heap.size)) 0 (.int .i64 0)).cell gn (fun e=>by have:=Option.some.inj e;have:=World.block_lt_of_cell? _ _ HM.out.bd;simp only at *;omega)
       go_wp2_with fail
       go_region
       all_goals
        have RZ:=qh (set_five JJ.out.res (.int .i64 0) (.int .i64 0) (.int .i64 0) (.int .i64 0) (.int .i64 0))
        have BZ:=qh (below_five JJ.out.bl (Nat.le_refl _) (.int .i64 0) (.int .i64 0) (.int .i64 0) (.int .i64 0) (.int .i64 0))
        unfold put5 at RZ BZ
        clear y0 y1 y2 y3 y4 f0 f1 f2 f3 f4 gn gz
        generalize ((((wj.setCell ⟨w.heap.size,0,none⟩ (.int .i64 0)).setCell ⟨w.heap.size,1,none⟩ (.int .i64 0)).setCell ⟨w.heap.size,2,none⟩ (.int .i64 0)).setCell ⟨w.heap.size,3,none⟩ (.int .i64 0)).setCell ⟨w.heap.size,4,none⟩ (.int .i64 0)=wz at *
        obtain⟨⟨z0,z1,z2,z3,z4⟩,_⟩:=cells_five RZ.out
        go_wp2_with fail
        exact bodyPost_ret (v:= .tuple #[.agg #[.int .i64 0,.int .i64 0,.int .i64 0,.int .i64 0,.int .i64 0],errK κ.bd]) (by simp [results,Tryz.results90,go_sem,z0,z1,z2,z3,z4]) rfl ⟨_,rfl,.inr (.inr (.inr (.inl ⟨rfl,rfl⟩))),⟨BZ.out.os,BZ.out.tape,BZ.out.output,BZ.out.size,BZ.out.block⟩⟩
   · rw [if_neg (fun h=>hn h.1)]
     obtain⟨lf,hlf⟩: ∃lf,leftR bs (.ok 19)=lf:=⟨_,rfl⟩
     have h0:0 < lf:=by rw [← hlf];show 0 < (bs.length:Int) - (19:Nat);have:=E5.out;omega
     have Hlf:=qh hlf
     clear hn hlf
     go_enter Tryz.func90,Tryz.ntmps90
     go_wp2_with fail
     refine HRd.out.mono ?_
     rintro e w1 ⟨g,rfl,hg,hr,hb1⟩
     have hbn:=below_new w1 (.cells #[.int .i64 v0,.int .i64 0,.int .i64 0,.int .i64 0,.int .i64 0] 26)
     have I2:Hid (PIn σ w (w1.alloc (.cells #[.int .i64 v0,.int .i64 0,.int .i64 0,.int .i64 0,.int .i64 0] 26)) g w1.heap.size bs (.ok 0) #[.int .i64 v0,.int .i64 0,.int .i64 0,.int .i64 0,.int .i64 0]):=qh (by
      have hs:=hr
      obtain⟨x,cap,kk,ev,hI⟩:=hs
      exact⟨hr.below hbn,(HR0.out.below hb1 HR0.out.lt).below hbn (Nat.lt_of_lt_of_le HR0.out.lt hb1.size),BlockIs.made _ _ _,(Hb0.out.trans (hb1.mono Hb0.out.size)).trans (hbn.mono (Nat.le_trans Hb0.out.size hb1.size)),Nat.lt_of_lt_of_le HR0.out.lt hg,hI.blk.lt⟩)
     have F1:=HF.out _ _ _ _ _ 6 I2.out
     clear hg hr hb1 hbn HRd
     rw [E1.out]at F1
     have HF1:=qh F1
     clear F1
     go_wp2_with fail
     refine HF1.out.mono ?_
     rintro e w3 ⟨rfl,hG⟩
     have I3:=qh (I2.out.got hG)
     have F2:=HF.out _ _ _ _ _ 6 I3.out
     rw [E2.out]at F2
     have HF2:=qh F2
     clear hG F2 HF1
     go_wp2_with fail
     refine HF2.out.mono ?_
     rintro e w4 ⟨rfl,hG⟩
     have I4:=qh (I3.out.got hG)
     obtain⟨⟨y0,y1,y2,y3,y4⟩,f0,f1,f2,f3,f4⟩:=cells_five I4.out.blk
     have I5:Hid (PIn σ w ((w4.setCell ⟨w1.heap.size,1,none⟩ (.int .i64 i0)).setCell ⟨w1.heap.size,2,none⟩ (.int .i64 t0)) g w1.heap.size bs (.ok 12) #[.int .i64 v0,.int .i64 i0,.int .i64 t0,.int .i64 0,.int .i64 0]):=qh ((I4.out.set 1 (.int .i64 i0)).set 2 (.int .i64 t0))
     have F3:=HF.out _ _ _ _ _ 1 I5.out
     rw [E3.out]at F3
     have HF3:=qh F3
     clear hG F3 HF2
     go_wp2_with fail
     refine HF3.out.mono ?_
     rintro e w5 ⟨rfl,hG⟩
     have I6:=qh (I5.out.got hG)
     clear y0 y1 y2 y3 y4 f0 f1 f2 f3 f4
     obtain⟨⟨y0,y1,y2,y3,y4⟩,f0,f1,f2,f3,f4⟩:=cells_five I6.out.blk
     have I7:Hid (PIn σ w (w5.setCell ⟨w1.heap.size,3,none⟩ (.int .i64 k0)) g w1.heap.size bs (.ok 13) #[.int .i64 v0,.int .i64 i0,.int .i64 t0,.int .i64 k0,.int .i64 0]):=qh (I6.out.set 3 (.int .i64 k0))
     have F4:=HF.out _ _ _ _ _ 6 I7.out
     rw [E4.out]at F4
     have HF4:=qh F4
     clear hG F4 HF3
     go_wp2_with fail
     refine HF4.out.mono ?_
     rintro e w6 ⟨rfl,hG⟩
     have I8:=qh (I7.out.got hG)
     clear y0 y1 y2 y3 y4 f0 f1 f2 f3 f4
     obtain⟨⟨y0,y1,y2,y3,y4⟩,f0,f1,f2,f3,f4⟩:=cells_five I8.out.blk
     have I9:Hid (PIn σ w (w6.setCell ⟨w1.heap.size,4,none⟩ (.int .i64 o0)) g w1.heap.size bs (.ok 19) #[.int .i64 v0,.int .i64 i0,.int .i64 t0,.int .i64 k0,.int .i64 o0]):=qh (I8.out.set 4 (.int .i64 o0))
     have F5:=HE.out _ _ _ _ _ I9.out
     rw [show errPos (.ok 19)=0 from rfl,show errNo (.ok 19)=0 from rfl]at F5
     have HF5:=qh F5
     clear hG F5 HF4
     go_wp2_with fail
     refine HF5.out.mono ?_
     rintro e w7 ⟨rfl,hb7⟩
     have J7:=qh (I9.out.below hb7)
     have F6:=HL.out _ _ _ J7.out.rd
     rw [Hlf.out]at F6
     have HF6:=qh F6
     clear hb7 y0 y1 y2 y3 y4 f0 f1 f2 f3 f4 HF5 F6
     obtain⟨⟨y0,y1,y2,y3,y4⟩,f0,f1,f2,f3,f4⟩:=cells_five J7.out.blk
     go_wp2_with fail
     refine HF6.out.mono ?_
     rintro e w8 ⟨rfl,nd,hw8⟩
     have J8:Hid (PIn σ w w8 g w1.heap.size bs (.ok 19) #[.int .i64 v0,.int .i64 i0,.int .i64 t0,.int .i64 k0,.int .i64 o0]):=qh (by rw [hw8];exact J7.out.drewN nd)
     clear hw8 HF6
     clear y0 y1 y2 y3 y4 f0 f1 f2 f3 f4
     obtain⟨⟨y0,y1,y2,y3,y4⟩,f0,f1,f2,f3,f4⟩:=cells_five J8.out.res
     have gn:=(HM.out.below J8.out.bl).bd
     unfold errK at gn
     have gz:=(grown_at (World.grownBy.refl w8 (some w.heap.size)) 0 (.int .i64 0)).cell gn (fun e=>by have:=Option.some.inj e;have:=World.block_lt_of_cell? _ _ HM.out.bd;simp only at *;omega)
     go_wp2_with fail
     go_region
     all_goals
      have RZ:=qh (set_five J8.out.res (.int .i64 0) (.int .i64 0) (.int .i64 0) (.int .i64 0) (.int .i64 0))
      have BZ:=qh (below_five J8.out.bl (Nat.le_refl _) (.int .i64 0) (.int .i64 0) (.int .i64 0) (.int .i64 0) (.int .i64 0))
      unfold put5 at RZ BZ
      clear y0 y1 y2 y3 y4 f0 f1 f2 f3 f4 gn gz
      generalize ((((w8.setCell ⟨w.heap.size,0,none⟩ (.int .i64 0)).setCell ⟨w.heap.size,1,none⟩ (.int .i64 0)).setCell ⟨w.heap.size,2,none⟩ (.int .i64 0)).setCell ⟨w.heap.size,3,none⟩ (.int .i64 0)).setCell ⟨w.heap.size,4,none⟩ (.int .i64 0)=wz at *
      obtain⟨⟨z0,z1,z2,z3,z4⟩,_⟩:=cells_five RZ.out
      go_wp2_with fail
      exact bodyPost_ret (v:= .tuple #[.agg #[.int .i64 0,.int .i64 0,.int .i64 0,.int .i64 0,.int .i64 0],errK κ.bd]) (by simp [results,Tryz.results90,go_sem,z0,z1,z2,z3,z4]) rfl ⟨_,rfl,.inr (.inr (.inr (.inl ⟨rfl,rfl⟩))),⟨BZ.out.os,BZ.out.tape,BZ.out.output,BZ.out.size,BZ.out.block⟩⟩
open Mx
theorem open_facts {b:List Int} (hb: ∀z∈b,0≤z∧z < 256):(∀z∈(openB b).1.body,0≤z∧z < 256)∧(openB b).1.body.length≤239:=by
 by_cases h:(openB b).2=0
 · refine⟨fun z hz=> ?_,(open_some h).1.2.2⟩
   have h3:(openB b).1.body=(unitOf b).body:=by
    unfold openB at h ⊢
    split at h
    · exact absurd h (by decide)
    · next h5=>
      rw [if_neg h5]
      split at h
      · exact absurd h (by decide)
      · next h6=>
        rw [if_neg h6]
        split at h
        · next h7=>rw [if_pos h7]
        · exact absurd h (by decide)
   rw [h3]at hz
   have hz:=List.mem_of_mem_take hz
   rcases List.mem_append.1 hz with h | h
   · exact hb z (List.mem_of_mem_drop (List.mem_of_mem_take h))
   · exact hb z (List.mem_of_mem_drop (List.mem_of_mem_take h))
 · rw [open_else h]
   exact⟨(fun z hz=>by cases hz),Nat.zero_le _⟩
open Go.RowKit
theorem own_none {w:World} {B n cap:Nat} {e:TypeId} {X:Option Addr} {xs:List Value} (h:w.ownsRow B e 1 (.slice X n cap) n xs):X=none→cap=0:=by
 rintro rfl
 rcases h.2 with⟨h1,_⟩ | ⟨g,c,cur,h1,_⟩
 · cases h1;rfl
 · cases h1
theorem asB_one {b:List Int} (hb: ∀z∈b,0≤z∧z < 256) {k:Int} (h:(asB b k (-1)).2=0):(asB b k (-1)).1=(openB b).1.body∧(openB b).2=0∧(openB b).1.body.length≤239∧ ∀z∈(openB b).1.body,0≤z∧z < 256:=by
 unfold asB at h ⊢
 split at h
 · next h1=>exact absurd h h1
 · next h1=>
   split at h
   · exact absurd h (by decide)
   · next h2=>
     have h0:(openB b).2=0:=Classical.byContradiction h1
     rw [if_neg h1,if_neg h2]
     exact⟨rfl,h0,(open_facts hb).2,(open_facts hb).1⟩
theorem markB_sort {k:Int} {b:List Int} (hk:sortK k):markB k b=if(asB b k (-1)).2≠0 then(noMark,(asB b k (-1)).2)else partedK (openB b).1.num (asB b k (-1)).1:=by unfold markB;rw [if_neg (fun hn=>hn hk)]
theorem kof_any (σ:Sen) (τ:SenU) (κ:SenK) (w:World) (hC:GlAt σ w) (hU:GlU τ w) (hM:GlK κ w) (k:Int) (hk:sortK k) (A:Option Addr) (b:List Int) (c:Nat) (hb:BytesAt w A b) (hbc:b.length≤c) (hm:c≤9223372036854775807):
 Calls Tryz.prog 42 #[.int .i64 k,.slice A b.length c] w fun e w'=> ∃v,e= .returned (.tuple #[(markB k b).1.val,v])∧KErr κ (markB k b).2 v∧Below w.heap.size w w':=by
 have hb0:=below_new w (.cells #[.int .i64 0,.int .i64 0,.int .i64 0,.int .i64 0,.int .i64 0] 26)
 have HR0:=qh (BlockIs.made w 26 #[.int .i64 0,.int .i64 0,.int .i64 0,.int .i64 0,.int .i64 0])
 have HA:=qh (uas_any σ τ _ (hC.below hb0) (hU.below hb0) A b c (hb.below hb0) hbc hm k (-1))
 have HG:=qh (And.intro hC (And.intro hU (And.intro hM hb)))
 have Hb0:=qh hb0
 have Hbc:=qh (And.intro hbc hm)
 have Hm:=qh (markB_sort (b:=b) hk)
 rw [Hm.out]
 clear hC hU hM hb hbc hm hb0 hk
 by_cases ha:(asB b k (-1)).2=0
 · obtain⟨h1,h2,h3,h4⟩:=asB_one HG.out.2.2.2.1 ha
   have HO:=qh (fun W h=>uopen_any σ τ W (HG.out.1.below h) (HG.out.2.1.below h) A b c (HG.out.2.2.2.below h) Hbc.out.1 Hbc.out.2)
   rw [h2]at HO
   rw [ha,h1]at HA
   rw [if_neg (fun hn=>hn ha),h1]
   obtain⟨u,hu⟩: ∃u,(openB b).1=u:=⟨_,rfl⟩
   rw [hu]at h3 h4 HA HO ⊢
   obtain⟨uk,un,ub⟩:=u
   unfold UnitV.val at HO
   simp only at h3 h4 HA HO ⊢
   have H3:=qh h3
   have H4:=qh h4
   have HPf:=qh (fun W Y cy (h1:Below w.heap.size w W) (hz:BytesAt W Y ub) (h2:Y=none→cy=0)=>kparted_any σ κ W (HG.out.1.below h1) (HG.out.2.2.1.below h1) un ub Y cy hz H3.out h2)
   obtain⟨r,hr⟩: ∃r,partedK un ub=r:=⟨_,rfl⟩
   rw [hr]at HPf ⊢
   obtain⟨⟨v0,i0,t0,k0,o0⟩,en⟩:=r
   unfold MarkV.val at HPf ⊢
   simp only at HPf ⊢
   clear h1 h2 h3 h4 ha hu hr
   go_enter Tryz.func42,Tryz.ntmps42
   go_wp2_with fail
   refine HA.out.mono ?_
   rintro e w2 ⟨v,rfl,ho,hb2⟩
   obtain⟨Y,cy,rfl,hcy,_⟩:=own_slice ho
   have B2:=qh (Hb0.out.trans (hb2.mono Hb0.out.size))
   have R2:=qh (HR0.out.below hb2 HR0.out.lt)
   have Y2:=qh (And.intro (own_reads ho H4.out) (own_none ho))
   have HO2:=qh (HO.out w2 B2.out)
   clear ho hb2 hcy HA
   go_wp2_with fail
   refine HO2.out.mono ?_
   rintro e w3 ⟨X,kx,rfl,hx,hb3⟩
   have hb4:=hb3.trans ((below_new w3 (.cells #[.int .i64 uk,.int .i64 un,.slice X ub.length kx] 65)).mono hb3.size)
   have P4:=BlockIs.made w3 65 #[.int .i64 uk,.int .i64 un,.slice X ub.length kx]
   have B4:=qh (B2.out.trans (hb4.mono B2.out.size))
   have R4:=qh (R2.out.below hb4 R2.out.lt)
   have HP:=qh (HPf.out _ Y cy B4.out (Y2.out.1.below hb4) Y2.out.2)
   have u1:(w3.alloc (.cells #[.int .i64 uk,.int .i64 un,.slice X ub.length kx] 65)).cell? ⟨w3.heap.size,1,none⟩=some (.int .i64 un):=P4.cell 1
   obtain⟨w4,hw4⟩: ∃w4,w3.alloc (.cells #[.int .i64 uk,.int .i64 un,.slice X ub.length kx] 65)=w4:=⟨_,rfl⟩
   rw [hw4]at B4 R4 HP
   have Hw4:=qh hw4
   clear hx hb3 hb4 hw4 P4 HO2 HPf
   go_wp2_with fail
   rw [Hw4.out]
   refine HP.out.mono ?_
   rintro e w5 ⟨v,rfl,hv,hb5⟩
   have B5:=qh (B4.out.trans (hb5.mono B4.out.size))
   have R5:=qh (R4.out.below hb5 R4.out.lt)
   have Hv:=qh hv
   clear hv hb5 u1
   obtain⟨⟨y0,y1,y2,y3,y4⟩,f0,f1,f2,f3,f4⟩:=cells_five R5.out
   have RZ:=qh (set_five R5.out (.int .i64 v0) (.int .i64 i0) (.int .i64 t0) (.int .i64 k0) (.int .i64 o0))
   have BZ:=qh (below_five B5.out (Nat.le_refl _) (.int .i64 v0) (.int .i64 i0) (.int .i64 t0) (.int .i64 k0) (.int .i64 o0))
   unfold put5 at RZ BZ
   go_wp2_with fail
   clear y0 y1 y2 y3 y4 f0 f1 f2 f3 f4
   generalize ((((w5.setCell ⟨w.heap.size,0,none⟩ (.int .i64 v0)).setCell ⟨w.heap.size,1,none⟩ (.int .i64 i0)).setCell ⟨w.heap.size,2,none⟩ (.int .i64 t0)).setCell ⟨w.heap.size,3,none⟩ (.int .i64 k0)).setCell ⟨w.heap.size,4,none⟩ (.int .i64 o0)=wz at *
   obtain⟨⟨z0,z1,z2,z3,z4⟩,_⟩:=cells_five RZ.out
   exact bodyPost_ret (v:= .tuple #[.agg #[.int .i64 v0,.int .i64 i0,.int .i64 t0,.int .i64 k0,.int .i64 o0],v]) (by simp [results,Tryz.results42,go_sem,z0,z1,z2,z3,z4]) rfl ⟨_,rfl,Hv.out,BZ.out⟩
 · rw [if_pos ha]
   obtain⟨en,hen⟩: ∃en,(asB b k (-1)).2=en:=⟨_,rfl⟩
   rw [hen]at ha HA ⊢
   have hne:(en != 0)=true:=by simpa using ha
   have Ha:=qh ha
   clear hen ha
   have Hval:Hid (noMark.val= .agg #[.int .i64 0,.int .i64 0,.int .i64 0,.int .i64 0,.int .i64 0]):=qh rfl
   rw [Hval.out]
   go_enter Tryz.func42,Tryz.ntmps42
   go_wp2_with fail
   refine HA.out.mono ?_
   rintro e w2 ⟨v,rfl,_,hb2⟩
   have B2:=qh (Hb0.out.trans (hb2.mono Hb0.out.size))
   have R2:=qh (HR0.out.below hb2 HR0.out.lt)
   clear hb2 HA
   obtain⟨⟨y0,y1,y2,y3,y4⟩,f0,f1,f2,f3,f4⟩:=cells_five R2.out
   have RZ:=qh (set_five R2.out (.int .i64 0) (.int .i64 0) (.int .i64 0) (.int .i64 0) (.int .i64 0))
   have BZ:=qh (below_five B2.out (Nat.le_refl _) (.int .i64 0) (.int .i64 0) (.int .i64 0) (.int .i64 0) (.int .i64 0))
   unfold put5 at RZ BZ
   go_wp2_with fail
   clear y0 y1 y2 y3 y4 f0 f1 f2 f3 f4
   generalize ((((w2.setCell ⟨w.heap.size,0,none⟩ (.int .i64 0)).setCell ⟨w.heap.size,1,none⟩ (.int .i64 0)).setCell ⟨w.heap.size,2,none⟩ (.int .i64 0)).setCell ⟨w.heap.size,3,none⟩ (.int .i64 0)).setCell ⟨w.heap.size,4,none⟩ (.int .i64 0)=wz at *
   obtain⟨⟨z0,z1,z2,z3,z4⟩,_⟩:=cells_five RZ.out
   exact bodyPost_ret (v:= .tuple #[.agg #[.int .i64 0,.int .i64 0,.int .i64 0,.int .i64 0,.int .i64 0],ktoldV en]) (by simp [results,Tryz.results42,go_sem,z0,z1,z2,z3,z4]) rfl ⟨_,rfl,.inr (.inr (.inr (.inr (.inr (.inl ⟨Ha.out,rfl⟩))))),BZ.out⟩
end Go.Proofs.YtpaikolnampcfaaGreatDoor
