/- The page's own: what mark a block tells. -/
import Derived.Test.YtpaikolnampcfaaGreatDoorRef4Open
import Derived.Test.YtpaikolnampcfaaGreatDoorRefLeft
import Derived.Test.YtpaikolnampcfaaGreatDoorMarkTold
import Derived.Deep.RegionWith
namespace Go.Proofs.YtpaikolnampcfaaGreatDoor
set_option maxRecDepth 100000
set_option maxHeartbeats 4000000
open Go.RowKit
theorem rplace_any (w:World) (k:Int):Calls Tryz.prog 43 #[.int .i64 k] w fun e w'=>e= .returned (.int .i64 (if sortK k then(placeK k:Int)else -1))∧w'=w:=by
 by_cases h2:k=2
 · subst h2
   go_enter Tryz.func43,Tryz.ntmps43
   go_wp2_with fail
   go_ret
   exact⟨rfl,rfl⟩
 · by_cases h3:k=3
   · subst h3
     go_enter Tryz.func43,Tryz.ntmps43
     go_wp2_with fail
     go_ret
     exact⟨rfl,rfl⟩
   · have e2:(k==2)=false:=beq_eq_false_iff_ne.2 h2
     have e3:(k==3)=false:=beq_eq_false_iff_ne.2 h3
     have HS:=qh (show ¬sortK k by unfold sortK;omega)
     clear h2 h3
     go_enter Tryz.func43,Tryz.ntmps43
     go_wp2_with fail
     go_ret
     exact⟨rfl,rfl⟩
theorem rr_make (w:World) (A:Option Addr) (b:List Int) (c:Nat) (hb:BytesAt w A b) (hc:b.length≤c) (hm:c≤9223372036854775807) (hA:A=none→c=0):
 RrAt w.heap.size (w.alloc (.cells #[.slice A b.length c,.int .i64 0,.int .i64 0,.int .i64 0] 96)) w.heap.size b (.ok 0):=by
 refine⟨A,c,0,0,0,BlockIs.made w _ _,hb.below (below_new w _),⟨hc,hm⟩,fun hne a e=> ?_,Nat.le_refl _,hA,rfl,rfl,rfl,Nat.zero_le _⟩
 subst e
 obtain⟨b0,off,e,hcl⟩:=hb.2 hne
 obtain rfl:=Option.some.inj e
 exact World.block_lt_of_cell? _ _ (hcl 0 (List.length_pos_iff.2 hne))
structure QIn (lo:Nat) (w w1:World) (g q:Nat) (bs:List Int) (s:RSt) (ms:Array Value):Prop where
 rd:RrAt lo w1 g bs s
 res:BlockIs w1 w.heap.size 26 #[.int .i64 0,.int .i64 0,.int .i64 0,.int .i64 0,.int .i64 0]
 blk:BlockIs w1 q 26 ms
 bl:Below w.heap.size w w1
 lg:w.heap.size < g
 gq:g < q
section
variable {lo : Nat} {w w1 w2 : World} {g q : Nat} {bs : List Int} {s s2 : RSt} {ms : Array Value}
theorem QIn.got (k:QIn lo w w1 g q bs s ms) (hG:RGot lo w1 g bs s2 w2):QIn lo w w2 g q bs s2 ms:=
 ⟨hG.rd,k.res.kept hG.fr (fun e=>by have:=Option.some.inj e;have:=k.lg;omega),k.blk.kept hG.fr (fun e=>by have:=Option.some.inj e;have:=k.gq;omega),below_grown k.bl hG.fr k.bl.size (Nat.le_of_lt k.lg),k.lg,k.gq⟩
theorem QIn.below (k:QIn lo w w1 g q bs s ms) (hb:Below w1.heap.size w1 w2):QIn lo w w2 g q bs s ms:=
 ⟨k.rd.below hb,k.res.below hb k.res.lt,k.blk.below hb k.blk.lt,k.bl.trans (hb.mono k.bl.size),k.lg,k.gq⟩
theorem QIn.set (k:QIn lo w w1 g q bs s ms) (i:Nat) (v:Value):QIn lo w (w1.setCell ⟨q,i,none⟩ v) g q bs s (ms.setIfInBounds i v):=
 have hg:=grown_at (World.grownBy.refl w1 (some q)) i v
 ⟨k.rd.kept hg (fun b e=>by have:=Option.some.inj e;have:=k.gq;have:=k.rd.low;omega),k.res.kept hg (fun e=>by have:=Option.some.inj e;have:=k.gq;have:=k.lg;omega),k.blk.set1 i v,
  k.bl.setCell (p:=⟨q,i,none⟩) (Nat.le_of_lt (Nat.lt_trans k.lg k.gq)) v,k.lg,k.gq⟩
theorem QIn.err (k:QIn lo w w1 g q bs s ms):w1.cell? ⟨g,2,none⟩=some (.int .i64 (errNo s)):=by
 obtain⟨x,cap,kk,e,b,h⟩:=k.rd
 have h2:=h.cells.2.2.1
 rw [h2]
 cases s with
 | ok j=>rw [h.st.2.1];rfl
 | bad p l=>rw [h.st.1];rfl
end
theorem rOf_any (w:World) (k:Int) (A:Option Addr) (b:List Int) (c:Nat) (hb:BytesAt w A b) (hbc:b.length≤c) (hm:c≤9223372036854775807):
 Calls Tryz.prog 11 #[.int .i64 k,.slice A b.length c] w fun e w'=>e= .returned (.tuple #[(markB k b).1.val,.int .i64 (markB k b).2])∧Below w.heap.size w w':=by
 have hb0:=below_new w (.cells #[.int .i64 0,.int .i64 0,.int .i64 0,.int .i64 0,.int .i64 0] 26)
 have HR0:=qh (BlockIs.made w 26 #[.int .i64 0,.int .i64 0,.int .i64 0,.int .i64 0,.int .i64 0])
 have hP:=rplace_any (w.alloc (.cells #[.int .i64 0,.int .i64 0,.int .i64 0,.int .i64 0,.int .i64 0] 26)) k
 have Hb0:=qh hb0
 by_cases hk:sortK k
 · have Hm:=qh (markB_sort (b:=b) hk)
   have HA:=qh (ras_any _ A b c (hb.below hb0) hbc hm k (-1))
   rw [if_pos hk]at hP
   have HP:=qh hP
   clear hP
   have hp0: ¬(placeK k:Int) < 0:=by omega
   obtain⟨p,hp⟩: ∃p:Int,(placeK k:Int)=p:=⟨_,rfl⟩
   rw [hp]at HP hp0
   rw [Hm.out]
   by_cases ha:(asB b k (-1)).2=0
   · obtain⟨h1,h2,h3,h4⟩:=asB_one hb.1 ha
     have HO:=qh (fun W (h:Below w.heap.size w W)=>ropen_any W A b c (hb.below h) hbc hm)
     rw [h2]at HO
     rw [ha,h1]at HA
     rw [if_neg (fun hn=>hn ha),h1]
     obtain⟨u,hu⟩: ∃u,(openB b).1=u:=⟨_,rfl⟩
     rw [hu]at h3 h4 HA HO ⊢
     obtain⟨uk,un,bs⟩:=u
     unfold UnitV.val at HO
     simp only at h3 h4 HA HO ⊢
     have H3:=qh h3
     have H4:=qh h4
     have Hcs:=qh (mark_cases un bs)
     have HF:=qh (fun lo w1 g q s ms wd hw (h:QIn lo w w1 g q bs s ms)=>rrField_any w1 g bs s wd h.rd (by have:=H3.out;omega) hw)
     have HL:=qh (fun lo w1 g q s ms (h:QIn lo w w1 g q bs s ms)=>rleft_ref w1 g bs s h.rd (by have:=H3.out;omega))
     clear h1 h2 h3 h4 ha hu hp hk hb hbc hm hb0
     rcases Hcs.out with⟨r1,r2,r3,r4,n1,n2,n3,n4,p',e1,e2,e3,e4,e5,e6⟩ | ⟨e1,e2,e3,e4,e5⟩
     · have E1:=qh e1
       have E2:=qh e2
       have E3:=qh e3
       have E4:=qh e4
       subst e5
       rw [e6]
       have Hval:Hid (noMark.val= .agg #[.int .i64 0,.int .i64 0,.int .i64 0,.int .i64 0,.int .i64 0]):=qh rfl
       simp only
       rw [Hval.out]
       clear e1 e2 e3 e4 e6
       go_enter Tryz.func11,Tryz.ntmps11
       go_wp2_with fail
       refine HP.out.mono ?_
       rintro e w1 ⟨rfl,hw1⟩
       subst hw1
       clear HP
       go_wp2_with fail
       refine HA.out.mono ?_
       rintro e w2 ⟨v,rfl,ho,hb2⟩
       have ho:w2.ownsRow _ 5 1 v bs.length (u8s bs):=ho
       obtain⟨Y,cy,rfl,hcy,hcm⟩:=own_slice ho
       have B2:=qh (Hb0.out.trans (hb2.mono Hb0.out.size))
       have R2:=qh (HR0.out.below hb2 HR0.out.lt)
       have Y2:=qh (And.intro (own_reads ho H4.out) (And.intro (own_none ho) (And.intro hcy hcm)))
       have HO2:=qh (HO.out w2 B2.out)
       clear ho hb2 hcy hcm HA HO
       go_wp2_with fail
       refine HO2.out.mono ?_
       rintro e w3 ⟨X,kx,rfl,hx,hb3⟩
       have hu:=below_new w3 (.cells #[.int .i64 uk,.int .i64 un,.slice X bs.length kx] 65)
       have u1:=(BlockIs.made w3 65 #[.int .i64 uk,.int .i64 un,.slice X bs.length kx]).cell 1
       have hbr:=below_new (w3.alloc (.cells #[.int .i64 uk,.int .i64 un,.slice X bs.length kx] 65)) (.cells #[.slice Y bs.length cy,.int .i64 0,.int .i64 0,.int .i64 0] 96)
       have hbm:=below_new ((w3.alloc (.cells #[.int .i64 uk,.int .i64 un,.slice X bs.length kx] 65)).alloc (.cells #[.slice Y bs.length cy,.int .i64 0,.int .i64 0,.int .i64 0] 96)) (.cells #[.int .i64 un,.int .i64 0,.int .i64 0,.int .i64 0,.int .i64 0] 26)
       have hrr:=rr_make (w3.alloc (.cells #[.int .i64 uk,.int .i64 un,.slice X bs.length kx] 65)) Y bs cy ((Y2.out.1.below hb3).below hu) Y2.out.2.2.1 Y2.out.2.2.2 Y2.out.2.1
       have hmb:=BlockIs.made ((w3.alloc (.cells #[.int .i64 uk,.int .i64 un,.slice X bs.length kx] 65)).alloc (.cells #[.slice Y bs.length cy,.int .i64 0,.int .i64 0,.int .i64 0] 96)) 26 #[.int .i64 un,.int .i64 0,.int .i64 0,.int .i64 0,.int .i64 0]
       have hb4:=hb3.trans ((hu.trans ((hbr.trans (hbm.mono hbr.size)).mono hu.size)).mono hb3.size)
       have u2:=cell_below u1 hbr
       rw [World.size_alloc,World.size_alloc]at hmb
       rw [World.size_alloc]at hrr
       have hrm:=hrr.below hbm
       have I2:Hid (QIn (w3.heap.size+1) w (((w3.alloc (.cells #[.int .i64 uk,.int .i64 un,.slice X bs.length kx] 65)).alloc (.cells #[.slice Y bs.length cy,.int .i64 0,.int .i64 0,.int .i64 0] 96)).alloc (.cells #[.int .i64 un,.int .i64 0,.int .i64 0,.int .i64 0,.int .i64 0] 26)) (w3.heap.size+1) (w3.heap.size+1+1) bs (.ok 0) #[.int .i64 un,.int .i64 0,.int .i64 0,.int .i64 0,.int .i64 0]):=qh ⟨hrm,R2.out.below hb4 R2.out.lt,hmb,B2.out.trans (hb4.mono B2.out.size),by have:=R2.out.lt;have:=hb3.size;omega,by omega⟩
       have F1:=HF.out _ _ _ _ _ _ 6 (by decide) I2.out
       rw [E1.out]at F1
       have HF1:=qh F1
       obtain⟨g,hg⟩: ∃g,w3.heap.size+1=g:=⟨_,rfl⟩
       obtain⟨w4,hw4⟩: ∃w4,((w3.alloc (.cells #[.int .i64 uk,.int .i64 un,.slice X bs.length kx] 65)).alloc (.cells #[.slice Y bs.length cy,.int .i64 0,.int .i64 0,.int .i64 0] 96)).alloc (.cells #[.int .i64 un,.int .i64 0,.int .i64 0,.int .i64 0,.int .i64 0] 26)=w4:=⟨_,rfl⟩
       rw [hw4]at I2 HF1
       have Hw4:=qh hw4
       clear hx hb3 hu hbr hbm hrr hmb hb4 hrm F1 HO2 hw4 hg
       go_wp2_with fail
       rw [Hw4.out]
       refine HF1.out.mono ?_
       rintro e w5 ⟨rfl,hG⟩
       have I5:=qh (I2.out.got hG)
       clear u1 u2
       obtain⟨⟨y0,y1,y2,y3,y4⟩,f0,f1,f2,f3,f4⟩:=cells_five I5.out.blk
       have J5:Hid (QIn (w3.heap.size+1) w (w5.setCell ⟨w3.heap.size+1+1,1,none⟩ (.int .i64 n1)) (w3.heap.size+1) (w3.heap.size+1+1) bs r1 #[.int .i64 un,.int .i64 n1,.int .i64 0,.int .i64 0,.int .i64 0]):=qh (I5.out.set 1 (.int .i64 n1))
       have F2:=HF.out _ _ _ _ _ _ 6 (by decide) J5.out
       rw [E2.out]at F2
       have HF2:=qh F2
       clear hG F2 HF1
       go_wp2_with fail
       refine HF2.out.mono ?_
       rintro e w6 ⟨rfl,hG⟩
       have I6:=qh (J5.out.got hG)
       clear y0 y1 y2 y3 y4 f0 f1 f2 f3 f4
       obtain⟨⟨y0,y1,y2,y3,y4⟩,f0,f1,f2,f3,f4⟩:=cells_five I6.out.blk
       have J6:Hid (QIn (w3.heap.size+1) w (w6.setCell ⟨w3.heap.size+1+1,2,none⟩ (.int .i64 n2)) (w3.heap.size+1) (w3.heap.size+1+1) bs r2 #[.int .i64 un,.int .i64 n1,.int .i64 n2,.int .i64 0,.int .i64 0]):=qh (I6.out.set 2 (.int .i64 n2))
       have F3:=HF.out _ _ _ _ _ _ 1 (by decide) J6.out
       rw [E3.out]at F3
       have HF3:=qh F3
       clear hG F3 HF2
       go_wp2_with fail
       refine HF3.out.mono ?_
       rintro e w7 ⟨rfl,hG⟩
       have I7:=qh (J6.out.got hG)
       clear y0 y1 y2 y3 y4 f0 f1 f2 f3 f4
       obtain⟨⟨y0,y1,y2,y3,y4⟩,f0,f1,f2,f3,f4⟩:=cells_five I7.out.blk
       have J7:Hid (QIn (w3.heap.size+1) w (w7.setCell ⟨w3.heap.size+1+1,3,none⟩ (.int .i64 n3)) (w3.heap.size+1) (w3.heap.size+1+1) bs r3 #[.int .i64 un,.int .i64 n1,.int .i64 n2,.int .i64 n3,.int .i64 0]):=qh (I7.out.set 3 (.int .i64 n3))
       have F4:=HF.out _ _ _ _ _ _ 6 (by decide) J7.out
       rw [E4.out]at F4
       have HF4:=qh F4
       clear hG F4 HF3
       go_wp2_with fail
       refine HF4.out.mono ?_
       rintro e w8 ⟨rfl,hG⟩
       have I8:=qh (J7.out.got hG)
       clear y0 y1 y2 y3 y4 f0 f1 f2 f3 f4
       obtain⟨⟨y0,y1,y2,y3,y4⟩,f0,f1,f2,f3,f4⟩:=cells_five I8.out.blk
       have J8:Hid (QIn (w3.heap.size+1) w (w8.setCell ⟨w3.heap.size+1+1,4,none⟩ (.int .i64 n4)) (w3.heap.size+1) (w3.heap.size+1+1) bs (.bad p' false) #[.int .i64 un,.int .i64 n1,.int .i64 n2,.int .i64 n3,.int .i64 n4]):=qh (I8.out.set 4 (.int .i64 n4))
       have er:=J8.out.err
       clear hG HF4
       rw [show errNo (.bad p' false)=4 from rfl]at er
       obtain⟨⟨d0,d1,d2,d3,d4⟩,h0,h1,h2,h3,h4⟩:=cells_five J8.out.res
       have RZ:=qh (set_five J8.out.res (.int .i64 0) (.int .i64 0) (.int .i64 0) (.int .i64 0) (.int .i64 0))
       have BZ:=qh (below_five J8.out.bl (Nat.le_refl _) (.int .i64 0) (.int .i64 0) (.int .i64 0) (.int .i64 0) (.int .i64 0))
       unfold put5 at RZ BZ
       go_wp2_with fail
       clear d0 d1 d2 d3 d4 h0 h1 h2 h3 h4
       generalize (((((w8.setCell ⟨w3.heap.size+1+1,4,none⟩ (.int .i64 n4)).setCell ⟨w.heap.size,0,none⟩ (.int .i64 0)).setCell ⟨w.heap.size,1,none⟩ (.int .i64 0)).setCell ⟨w.heap.size,2,none⟩ (.int .i64 0)).setCell ⟨w.heap.size,3,none⟩ (.int .i64 0)).setCell ⟨w.heap.size,4,none⟩ (.int .i64 0)=wz at *
       obtain⟨⟨z0,z1,z2,z3,z4⟩,_⟩:=cells_five RZ.out
       exact bodyPost_ret (v:= .tuple #[.agg #[.int .i64 0,.int .i64 0,.int .i64 0,.int .i64 0,.int .i64 0],.int .i64 4]) (by simp [results,Tryz.results11,go_sem,z0,z1,z2,z3,z4]) rfl ⟨rfl,BZ.out⟩
     · obtain⟨mm,hmm⟩: ∃mm,bodyK un bs=mm:=⟨_,rfl⟩
       have Hp:Hid (partedK un bs=if bs.length=19∧mm.right then(mm,0)else(noMark,4)):=qh (by unfold partedK;rw [hmm])
       have hv:mm.ver=un:=by rw [← hmm];rfl
       rw [hmm]at e1 e2 e3 e4
       have HRt:=qh (fun w=>rkright_any w mm)
       rw [Hp.out]
       obtain⟨v0,i0,t0,k0,o0⟩:=mm
       simp only at e1 e2 e3 e4
       unfold MarkV.val at HRt
       simp only at HRt
       obtain rfl:v0=un:=hv
       have E1:=qh e1
       have E2:=qh e2
       have E3:=qh e3
       have E4:=qh e4
       have E5:=qh e5
       have Hval:Hid (noMark.val= .agg #[.int .i64 0,.int .i64 0,.int .i64 0,.int .i64 0,.int .i64 0]):=qh rfl
       clear e1 e2 e3 e4 e5 hmm
       by_cases hn:bs.length=19
       · have Hlf:Hid (leftR bs (.ok 19)=0):=qh (by show(bs.length:Int) - (19:Nat)=0;omega)
         have Hn:=qh hn
         clear hn
         by_cases hr:(⟨v0,i0,t0,k0,o0⟩:MarkV).right
         · rw [decide_eq_true hr]at HRt
           rw [if_pos ⟨Hn.out,hr⟩]
           clear hr
           unfold MarkV.val
           simp only
           go_enter Tryz.func11,Tryz.ntmps11
           go_wp2_with fail
           refine HP.out.mono ?_
           rintro e w1 ⟨rfl,hw1⟩
           subst hw1
           clear HP
           go_wp2_with fail
           refine HA.out.mono ?_
           rintro e w2 ⟨v,rfl,ho,hb2⟩
           have ho:w2.ownsRow _ 5 1 v bs.length (u8s bs):=ho
           obtain⟨Y,cy,rfl,hcy,hcm⟩:=own_slice ho
           have B2:=qh (Hb0.out.trans (hb2.mono Hb0.out.size))
           have R2:=qh (HR0.out.below hb2 HR0.out.lt)
           have Y2:=qh (And.intro (own_reads ho H4.out) (And.intro (own_none ho) (And.intro hcy hcm)))
           have HO2:=qh (HO.out w2 B2.out)
           clear ho hb2 hcy hcm HA HO
           go_wp2_with fail
           refine HO2.out.mono ?_
           rintro e w3 ⟨X,kx,rfl,hx,hb3⟩
           have hu:=below_new w3 (.cells #[.int .i64 uk,.int .i64 v0,.slice X bs.length kx] 65)
           have u1:=(BlockIs.made w3 65 #[.int .i64 uk,.int .i64 v0,.slice X bs.length kx]).cell 1
           have hbr:=below_new (w3.alloc (.cells #[.int .i64 uk,.int .i64 v0,.slice X bs.length kx] 65)) (.cells #[.slice Y bs.length cy,.int .i64 0,.int .i64 0,.int .i64 0] 96)
           have hbm:=below_new ((w3.alloc (.cells #[.int .i64 uk,.int .i64 v0,.slice X bs.length kx] 65)).alloc (.cells #[.slice Y bs.length cy,.int .i64 0,.int .i64 0,.int .i64 0] 96)) (.cells #[.int .i64 v0,.int .i64 0,.int .i64 0,.int .i64 0,.int .i64 0] 26)
           have hrr:=rr_make (w3.alloc (.cells #[.int .i64 uk,.int .i64 v0,.slice X bs.length kx] 65)) Y bs cy ((Y2.out.1.below hb3).below hu) Y2.out.2.2.1 Y2.out.2.2.2 Y2.out.2.1
           have hmb:=BlockIs.made ((w3.alloc (.cells #[.int .i64 uk,.int .i64 v0,.slice X bs.length kx] 65)).alloc (.cells #[.slice Y bs.length cy,.int .i64 0,.int .i64 0,.int .i64 0] 96)) 26 #[.int .i64 v0,.int .i64 0,.int .i64 0,.int .i64 0,.int .i64 0]
           have hb4:=hb3.trans ((hu.trans ((hbr.trans (hbm.mono hbr.size)).mono hu.size)).mono hb3.size)
           have u2:=cell_below u1 hbr
           rw [World.size_alloc,World.size_alloc]at hmb
           rw [World.size_alloc]at hrr
           have hrm:=hrr.below hbm
           have I2:Hid (QIn (w3.heap.size+1) w (((w3.alloc (.cells #[.int .i64 uk,.int .i64 v0,.slice X bs.length kx] 65)).alloc (.cells #[.slice Y bs.length cy,.int .i64 0,.int .i64 0,.int .i64 0] 96)).alloc (.cells #[.int .i64 v0,.int .i64 0,.int .i64 0,.int .i64 0,.int .i64 0] 26)) (w3.heap.size+1) (w3.heap.size+1+1) bs (.ok 0) #[.int .i64 v0,.int .i64 0,.int .i64 0,.int .i64 0,.int .i64 0]):=qh ⟨hrm,R2.out.below hb4 R2.out.lt,hmb,B2.out.trans (hb4.mono B2.out.size),by have:=R2.out.lt;have:=hb3.size;omega,by omega⟩
           have F1:=HF.out _ _ _ _ _ _ 6 (by decide) I2.out
           rw [E1.out]at F1
           have HF1:=qh F1
           obtain⟨g,hg⟩: ∃g,w3.heap.size+1=g:=⟨_,rfl⟩
           obtain⟨w4,hw4⟩: ∃w4,((w3.alloc (.cells #[.int .i64 uk,.int .i64 v0,.slice X bs.length kx] 65)).alloc (.cells #[.slice Y bs.length cy,.int .i64 0,.int .i64 0,.int .i64 0] 96)).alloc (.cells #[.int .i64 v0,.int .i64 0,.int .i64 0,.int .i64 0,.int .i64 0] 26)=w4:=⟨_,rfl⟩
           rw [hw4]at I2 HF1
           have Hw4:=qh hw4
           clear hx hb3 hu hbr hbm hrr hmb hb4 hrm F1 HO2 hw4 hg
           go_wp2_with fail
           rw [Hw4.out]
           refine HF1.out.mono ?_
           rintro e w5 ⟨rfl,hG⟩
           have I5:=qh (I2.out.got hG)
           clear u1 u2
           obtain⟨⟨y0,y1,y2,y3,y4⟩,f0,f1,f2,f3,f4⟩:=cells_five I5.out.blk
           have J5:Hid (QIn (w3.heap.size+1) w (w5.setCell ⟨w3.heap.size+1+1,1,none⟩ (.int .i64 i0)) (w3.heap.size+1) (w3.heap.size+1+1) bs (.ok 6) #[.int .i64 v0,.int .i64 i0,.int .i64 0,.int .i64 0,.int .i64 0]):=qh (I5.out.set 1 (.int .i64 i0))
           have F2:=HF.out _ _ _ _ _ _ 6 (by decide) J5.out
           rw [E2.out]at F2
           have HF2:=qh F2
           clear hG F2 HF1
           go_wp2_with fail
           refine HF2.out.mono ?_
           rintro e w6 ⟨rfl,hG⟩
           have I6:=qh (J5.out.got hG)
           clear y0 y1 y2 y3 y4 f0 f1 f2 f3 f4
           obtain⟨⟨y0,y1,y2,y3,y4⟩,f0,f1,f2,f3,f4⟩:=cells_five I6.out.blk
           have J6:Hid (QIn (w3.heap.size+1) w (w6.setCell ⟨w3.heap.size+1+1,2,none⟩ (.int .i64 t0)) (w3.heap.size+1) (w3.heap.size+1+1) bs (.ok 12) #[.int .i64 v0,.int .i64 i0,.int .i64 t0,.int .i64 0,.int .i64 0]):=qh (I6.out.set 2 (.int .i64 t0))
           have F3:=HF.out _ _ _ _ _ _ 1 (by decide) J6.out
           rw [E3.out]at F3
           have HF3:=qh F3
           clear hG F3 HF2
           go_wp2_with fail
           refine HF3.out.mono ?_
           rintro e w7 ⟨rfl,hG⟩
           have I7:=qh (J6.out.got hG)
           clear y0 y1 y2 y3 y4 f0 f1 f2 f3 f4
           obtain⟨⟨y0,y1,y2,y3,y4⟩,f0,f1,f2,f3,f4⟩:=cells_five I7.out.blk
           have J7:Hid (QIn (w3.heap.size+1) w (w7.setCell ⟨w3.heap.size+1+1,3,none⟩ (.int .i64 k0)) (w3.heap.size+1) (w3.heap.size+1+1) bs (.ok 13) #[.int .i64 v0,.int .i64 i0,.int .i64 t0,.int .i64 k0,.int .i64 0]):=qh (I7.out.set 3 (.int .i64 k0))
           have F4:=HF.out _ _ _ _ _ _ 6 (by decide) J7.out
           rw [E4.out]at F4
           have HF4:=qh F4
           clear hG F4 HF3
           go_wp2_with fail
           refine HF4.out.mono ?_
           rintro e w8 ⟨rfl,hG⟩
           have I8:=qh (J7.out.got hG)
           clear y0 y1 y2 y3 y4 f0 f1 f2 f3 f4
           obtain⟨⟨y0,y1,y2,y3,y4⟩,f0,f1,f2,f3,f4⟩:=cells_five I8.out.blk
           have J8:Hid (QIn (w3.heap.size+1) w (w8.setCell ⟨w3.heap.size+1+1,4,none⟩ (.int .i64 o0)) (w3.heap.size+1) (w3.heap.size+1+1) bs (.ok 19) #[.int .i64 v0,.int .i64 i0,.int .i64 t0,.int .i64 k0,.int .i64 o0]):=qh (I8.out.set 4 (.int .i64 o0))
           have er:=J8.out.err
           clear hG HF4
           rw [show errNo (.ok 19)=0 from rfl]at er
           have HL1:=qh (HL.out _ _ _ _ _ _ J8.out)
           rw [Hlf.out]at HL1
           go_wp2_with fail
           refine HL1.out.mono ?_
           rintro e w9 ⟨rfl,nq,hq⟩
           have J9:=qh (J8.out.below (w2:=w9) (by rw [hq];exact drewN_below (Below.refl _ _) nq))
           clear hq
           have B9:=qh J9.out.bl
           clear er HL1
           clear y0 y1 y2 y3 y4 f0 f1 f2 f3 f4
           obtain⟨⟨y0,y1,y2,y3,y4⟩,f0,f1,f2,f3,f4⟩:=cells_five J9.out.blk
           go_wp2_with fail
           refine(HRt.out _).mono ?_
           rintro e w10 ⟨rfl,hb10⟩
           have J10:=qh (J9.out.below hb10)
           have B10:=qh J10.out.bl
           clear hb10
           clear y0 y1 y2 y3 y4 f0 f1 f2 f3 f4
           obtain⟨⟨y0,y1,y2,y3,y4⟩,_⟩:=cells_five J10.out.blk
           obtain⟨⟨d0,d1,d2,d3,d4⟩,h0,h1,h2,h3,h4⟩:=cells_five J10.out.res
           have RZ:=qh (set_five J10.out.res (.int .i64 v0) (.int .i64 i0) (.int .i64 t0) (.int .i64 k0) (.int .i64 o0))
           have BZ:=qh (below_five J10.out.bl (Nat.le_refl _) (.int .i64 v0) (.int .i64 i0) (.int .i64 t0) (.int .i64 k0) (.int .i64 o0))
           unfold put5 at RZ BZ
           go_wp2_with fail
           clear d0 d1 d2 d3 d4 h0 h1 h2 h3 h4 y0 y1 y2 y3 y4
           generalize ((((w10.setCell ⟨w.heap.size,0,none⟩ (.int .i64 v0)).setCell ⟨w.heap.size,1,none⟩ (.int .i64 i0)).setCell ⟨w.heap.size,2,none⟩ (.int .i64 t0)).setCell ⟨w.heap.size,3,none⟩ (.int .i64 k0)).setCell ⟨w.heap.size,4,none⟩ (.int .i64 o0)=wz at *
           obtain⟨⟨z0,z1,z2,z3,z4⟩,_⟩:=cells_five RZ.out
           exact bodyPost_ret (v:= .tuple #[.agg #[.int .i64 v0,.int .i64 i0,.int .i64 t0,.int .i64 k0,.int .i64 o0],.int .i64 0]) (by simp [results,Tryz.results11,go_sem,z0,z1,z2,z3,z4]) rfl ⟨rfl,BZ.out⟩
         · rw [decide_eq_false hr]at HRt
           rw [if_neg (fun h=>hr h.2)]
           clear hr
           simp only
           rw [Hval.out]
           go_enter Tryz.func11,Tryz.ntmps11
           go_wp2_with fail
           refine HP.out.mono ?_
           rintro e w1 ⟨rfl,hw1⟩
           subst hw1
           clear HP
           go_wp2_with fail
           refine HA.out.mono ?_
           rintro e w2 ⟨v,rfl,ho,hb2⟩
           have ho:w2.ownsRow _ 5 1 v bs.length (u8s bs):=ho
           obtain⟨Y,cy,rfl,hcy,hcm⟩:=own_slice ho
           have B2:=qh (Hb0.out.trans (hb2.mono Hb0.out.size))
           have R2:=qh (HR0.out.below hb2 HR0.out.lt)
           have Y2:=qh (And.intro (own_reads ho H4.out) (And.intro (own_none ho) (And.intro hcy hcm)))
           have HO2:=qh (HO.out w2 B2.out)
           clear ho hb2 hcy hcm HA HO
           go_wp2_with fail
           refine HO2.out.mono ?_
           rintro e w3 ⟨X,kx,rfl,hx,hb3⟩
           have hu:=below_new w3 (.cells #[.int .i64 uk,.int .i64 v0,.slice X bs.length kx] 65)
           have u1:=(BlockIs.made w3 65 #[.int .i64 uk,.int .i64 v0,.slice X bs.length kx]).cell 1
           have hbr:=below_new (w3.alloc (.cells #[.int .i64 uk,.int .i64 v0,.slice X bs.length kx] 65)) (.cells #[.slice Y bs.length cy,.int .i64 0,.int .i64 0,.int .i64 0] 96)
           have hbm:=below_new ((w3.alloc (.cells #[.int .i64 uk,.int .i64 v0,.slice X bs.length kx] 65)).alloc (.cells #[.slice Y bs.length cy,.int .i64 0,.int .i64 0,.int .i64 0] 96)) (.cells #[.int .i64 v0,.int .i64 0,.int .i64 0,.int .i64 0,.int .i64 0] 26)
           have hrr:=rr_make (w3.alloc (.cells #[.int .i64 uk,.int .i64 v0,.slice X bs.length kx] 65)) Y bs cy ((Y2.out.1.below hb3).below hu) Y2.out.2.2.1 Y2.out.2.2.2 Y2.out.2.1
           have hmb:=BlockIs.made ((w3.alloc (.cells #[.int .i64 uk,.int .i64 v0,.slice X bs.length kx] 65)).alloc (.cells #[.slice Y bs.length cy,.int .i64 0,.int .i64 0,.int .i64 0] 96)) 26 #[.int .i64 v0,.int .i64 0,.int .i64 0,.int .i64 0,.int .i64 0]
           have hb4:=hb3.trans ((hu.trans ((hbr.trans (hbm.mono hbr.size)).mono hu.size)).mono hb3.size)
           have u2:=cell_below u1 hbr
           rw [World.size_alloc,World.size_alloc]at hmb
           rw [World.size_alloc]at hrr
           have hrm:=hrr.below hbm
           have I2:Hid (QIn (w3.heap.size+1) w (((w3.alloc (.cells #[.int .i64 uk,.int .i64 v0,.slice X bs.length kx] 65)).alloc (.cells #[.slice Y bs.length cy,.int .i64 0,.int .i64 0,.int .i64 0] 96)).alloc (.cells #[.int .i64 v0,.int .i64 0,.int .i64 0,.int .i64 0,.int .i64 0] 26)) (w3.heap.size+1) (w3.heap.size+1+1) bs (.ok 0) #[.int .i64 v0,.int .i64 0,.int .i64 0,.int .i64 0,.int .i64 0]):=qh ⟨hrm,R2.out.below hb4 R2.out.lt,hmb,B2.out.trans (hb4.mono B2.out.size),by have:=R2.out.lt;have:=hb3.size;omega,by omega⟩
           have F1:=HF.out _ _ _ _ _ _ 6 (by decide) I2.out
           rw [E1.out]at F1
           have HF1:=qh F1
           obtain⟨g,hg⟩: ∃g,w3.heap.size+1=g:=⟨_,rfl⟩
           obtain⟨w4,hw4⟩: ∃w4,((w3.alloc (.cells #[.int .i64 uk,.int .i64 v0,.slice X bs.length kx] 65)).alloc (.cells #[.slice Y bs.length cy,.int .i64 0,.int .i64 0,.int .i64 0] 96)).alloc (.cells #[.int .i64 v0,.int .i64 0,.int .i64 0,.int .i64 0,.int .i64 0] 26)=w4:=⟨_,rfl⟩
           rw [hw4]at I2 HF1
           have Hw4:=qh hw4
           clear hx hb3 hu hbr hbm hrr hmb hb4 hrm F1 HO2 hw4 hg
           go_wp2_with fail
           rw [Hw4.out]
           refine HF1.out.mono ?_
           rintro e w5 ⟨rfl,hG⟩
           have I5:=qh (I2.out.got hG)
           clear u1 u2
           obtain⟨⟨y0,y1,y2,y3,y4⟩,f0,f1,f2,f3,f4⟩:=cells_five I5.out.blk
           have J5:Hid (QIn (w3.heap.size+1) w (w5.setCell ⟨w3.heap.size+1+1,1,none⟩ (.int .i64 i0)) (w3.heap.size+1) (w3.heap.size+1+1) bs (.ok 6) #[.int .i64 v0,.int .i64 i0,.int .i64 0,.int .i64 0,.int .i64 0]):=qh (I5.out.set 1 (.int .i64 i0))
           have F2:=HF.out _ _ _ _ _ _ 6 (by decide) J5.out
           rw [E2.out]at F2
           have HF2:=qh F2
           clear hG F2 HF1
           go_wp2_with fail
           refine HF2.out.mono ?_
           rintro e w6 ⟨rfl,hG⟩
           have I6:=qh (J5.out.got hG)
           clear y0 y1 y2 y3 y4 f0 f1 f2 f3 f4
           obtain⟨⟨y0,y1,y2,y3,y4⟩,f0,f1,f2,f3,f4⟩:=cells_five I6.out.blk
           have J6:Hid (QIn (w3.heap.size+1) w (w6.setCell ⟨w3.heap.size+1+1,2,none⟩ (.int .i64 t0)) (w3.heap.size+1) (w3.heap.size+1+1) bs (.ok 12) #[.int .i64 v0,.int .i64 i0,.int .i64 t0,.int .i64 0,.int .i64 0]):=qh (I6.out.set 2 (.int .i64 t0))
           have F3:=HF.out _ _ _ _ _ _ 1 (by decide) J6.out
           rw [E3.out]at F3
           have HF3:=qh F3
           clear hG F3 HF2
           go_wp2_with fail
           refine HF3.out.mono ?_
           rintro e w7 ⟨rfl,hG⟩
           have I7:=qh (J6.out.got hG)
           clear y0 y1 y2 y3 y4 f0 f1 f2 f3 f4
           obtain⟨⟨y0,y1,y2,y3,y4⟩,f0,f1,f2,f3,f4⟩:=cells_five I7.out.blk
           have J7:Hid (QIn (w3.heap.size+1) w (w7.setCell ⟨w3.heap.size+1+1,3,none⟩ (.int .i64 k0)) (w3.heap.size+1) (w3.heap.size+1+1) bs (.ok 13) #[.int .i64 v0,.int .i64 i0,.int .i64 t0,.int .i64 k0,.int .i64 0]):=qh (I7.out.set 3 (.int .i64 k0))
           have F4:=HF.out _ _ _ _ _ _ 6 (by decide) J7.out
           rw [E4.out]at F4
           have HF4:=qh F4
           clear hG F4 HF3
           go_wp2_with fail
           refine HF4.out.mono ?_
           rintro e w8 ⟨rfl,hG⟩
           have I8:=qh (J7.out.got hG)
           clear y0 y1 y2 y3 y4 f0 f1 f2 f3 f4
           obtain⟨⟨y0,y1,y2,y3,y4⟩,f0,f1,f2,f3,f4⟩:=cells_five I8.out.blk
           have J8:Hid (QIn (w3.heap.size+1) w (w8.setCell ⟨w3.heap.size+1+1,4,none⟩ (.int .i64 o0)) (w3.heap.size+1) (w3.heap.size+1+1) bs (.ok 19) #[.int .i64 v0,.int .i64 i0,.int .i64 t0,.int .i64 k0,.int .i64 o0]):=qh (I8.out.set 4 (.int .i64 o0))
           have er:=J8.out.err
           clear hG HF4
           rw [show errNo (.ok 19)=0 from rfl]at er
           have HL1:=qh (HL.out _ _ _ _ _ _ J8.out)
           rw [Hlf.out]at HL1
           go_wp2_with fail
           refine HL1.out.mono ?_
           rintro e w9 ⟨rfl,nq,hq⟩
           have J9:=qh (J8.out.below (w2:=w9) (by rw [hq];exact drewN_below (Below.refl _ _) nq))
           clear hq
           have B9:=qh J9.out.bl
           clear er HL1
           clear y0 y1 y2 y3 y4 f0 f1 f2 f3 f4
           obtain⟨⟨y0,y1,y2,y3,y4⟩,f0,f1,f2,f3,f4⟩:=cells_five J9.out.blk
           go_wp2_with fail
           refine(HRt.out _).mono ?_
           rintro e w10 ⟨rfl,hb10⟩
           have J10:=qh (J9.out.below hb10)
           have B10:=qh J10.out.bl
           clear hb10
           clear y0 y1 y2 y3 y4 f0 f1 f2 f3 f4
           obtain⟨⟨d0,d1,d2,d3,d4⟩,h0,h1,h2,h3,h4⟩:=cells_five J10.out.res
           have RZ:=qh (set_five J10.out.res (.int .i64 0) (.int .i64 0) (.int .i64 0) (.int .i64 0) (.int .i64 0))
           have BZ:=qh (below_five J10.out.bl (Nat.le_refl _) (.int .i64 0) (.int .i64 0) (.int .i64 0) (.int .i64 0) (.int .i64 0))
           unfold put5 at RZ BZ
           go_wp2_with fail
           clear d0 d1 d2 d3 d4 h0 h1 h2 h3 h4
           generalize ((((w10.setCell ⟨w.heap.size,0,none⟩ (.int .i64 0)).setCell ⟨w.heap.size,1,none⟩ (.int .i64 0)).setCell ⟨w.heap.size,2,none⟩ (.int .i64 0)).setCell ⟨w.heap.size,3,none⟩ (.int .i64 0)).setCell ⟨w.heap.size,4,none⟩ (.int .i64 0)=wz at *
           obtain⟨⟨z0,z1,z2,z3,z4⟩,_⟩:=cells_five RZ.out
           exact bodyPost_ret (v:= .tuple #[.agg #[.int .i64 0,.int .i64 0,.int .i64 0,.int .i64 0,.int .i64 0],.int .i64 4]) (by simp [results,Tryz.results11,go_sem,z0,z1,z2,z3,z4]) rfl ⟨rfl,BZ.out⟩
       · obtain⟨lf,hlf⟩: ∃lf,leftR bs (.ok 19)=lf:=⟨_,rfl⟩
         have hlp:lf > 0:=by rw [← hlf];show(bs.length:Int) - (19:Nat) > 0;have:=E5.out;omega
         have Hlf:=qh hlf
         rw [if_neg (fun h=>hn h.1)]
         clear hn hlf
         simp only
         rw [Hval.out]
         go_enter Tryz.func11,Tryz.ntmps11
         go_wp2_with fail
         refine HP.out.mono ?_
         rintro e w1 ⟨rfl,hw1⟩
         subst hw1
         clear HP
         go_wp2_with fail
         refine HA.out.mono ?_
         rintro e w2 ⟨v,rfl,ho,hb2⟩
         have ho:w2.ownsRow _ 5 1 v bs.length (u8s bs):=ho
         obtain⟨Y,cy,rfl,hcy,hcm⟩:=own_slice ho
         have B2:=qh (Hb0.out.trans (hb2.mono Hb0.out.size))
         have R2:=qh (HR0.out.below hb2 HR0.out.lt)
         have Y2:=qh (And.intro (own_reads ho H4.out) (And.intro (own_none ho) (And.intro hcy hcm)))
         have HO2:=qh (HO.out w2 B2.out)
         clear ho hb2 hcy hcm HA HO
         go_wp2_with fail
         refine HO2.out.mono ?_
         rintro e w3 ⟨X,kx,rfl,hx,hb3⟩
         have hu:=below_new w3 (.cells #[.int .i64 uk,.int .i64 v0,.slice X bs.length kx] 65)
         have u1:=(BlockIs.made w3 65 #[.int .i64 uk,.int .i64 v0,.slice X bs.length kx]).cell 1
         have hbr:=below_new (w3.alloc (.cells #[.int .i64 uk,.int .i64 v0,.slice X bs.length kx] 65)) (.cells #[.slice Y bs.length cy,.int .i64 0,.int .i64 0,.int .i64 0] 96)
         have hbm:=below_new ((w3.alloc (.cells #[.int .i64 uk,.int .i64 v0,.slice X bs.length kx] 65)).alloc (.cells #[.slice Y bs.length cy,.int .i64 0,.int .i64 0,.int .i64 0] 96)) (.cells #[.int .i64 v0,.int .i64 0,.int .i64 0,.int .i64 0,.int .i64 0] 26)
         have hrr:=rr_make (w3.alloc (.cells #[.int .i64 uk,.int .i64 v0,.slice X bs.length kx] 65)) Y bs cy ((Y2.out.1.below hb3).below hu) Y2.out.2.2.1 Y2.out.2.2.2 Y2.out.2.1
         have hmb:=BlockIs.made ((w3.alloc (.cells #[.int .i64 uk,.int .i64 v0,.slice X bs.length kx] 65)).alloc (.cells #[.slice Y bs.length cy,.int .i64 0,.int .i64 0,.int .i64 0] 96)) 26 #[.int .i64 v0,.int .i64 0,.int .i64 0,.int .i64 0,.int .i64 0]
         have hb4:=hb3.trans ((hu.trans ((hbr.trans (hbm.mono hbr.size)).mono hu.size)).mono hb3.size)
         have u2:=cell_below u1 hbr
         rw [World.size_alloc,World.size_alloc]at hmb
         rw [World.size_alloc]at hrr
         have hrm:=hrr.below hbm
         have I2:Hid (QIn (w3.heap.size+1) w (((w3.alloc (.cells #[.int .i64 uk,.int .i64 v0,.slice X bs.length kx] 65)).alloc (.cells #[.slice Y bs.length cy,.int .i64 0,.int .i64 0,.int .i64 0] 96)).alloc (.cells #[.int .i64 v0,.int .i64 0,.int .i64 0,.int .i64 0,.int .i64 0] 26)) (w3.heap.size+1) (w3.heap.size+1+1) bs (.ok 0) #[.int .i64 v0,.int .i64 0,.int .i64 0,.int .i64 0,.int .i64 0]):=qh ⟨hrm,R2.out.below hb4 R2.out.lt,hmb,B2.out.trans (hb4.mono B2.out.size),by have:=R2.out.lt;have:=hb3.size;omega,by omega⟩
         have F1:=HF.out _ _ _ _ _ _ 6 (by decide) I2.out
         rw [E1.out]at F1
         have HF1:=qh F1
         obtain⟨g,hg⟩: ∃g,w3.heap.size+1=g:=⟨_,rfl⟩
         obtain⟨w4,hw4⟩: ∃w4,((w3.alloc (.cells #[.int .i64 uk,.int .i64 v0,.slice X bs.length kx] 65)).alloc (.cells #[.slice Y bs.length cy,.int .i64 0,.int .i64 0,.int .i64 0] 96)).alloc (.cells #[.int .i64 v0,.int .i64 0,.int .i64 0,.int .i64 0,.int .i64 0] 26)=w4:=⟨_,rfl⟩
         rw [hw4]at I2 HF1
         have Hw4:=qh hw4
         clear hx hb3 hu hbr hbm hrr hmb hb4 hrm F1 HO2 hw4 hg
         go_wp2_with fail
         rw [Hw4.out]
         refine HF1.out.mono ?_
         rintro e w5 ⟨rfl,hG⟩
         have I5:=qh (I2.out.got hG)
         clear u1 u2
         obtain⟨⟨y0,y1,y2,y3,y4⟩,f0,f1,f2,f3,f4⟩:=cells_five I5.out.blk
         have J5:Hid (QIn (w3.heap.size+1) w (w5.setCell ⟨w3.heap.size+1+1,1,none⟩ (.int .i64 i0)) (w3.heap.size+1) (w3.heap.size+1+1) bs (.ok 6) #[.int .i64 v0,.int .i64 i0,.int .i64 0,.int .i64 0,.int .i64 0]):=qh (I5.out.set 1 (.int .i64 i0))
         have F2:=HF.out _ _ _ _ _ _ 6 (by decide) J5.out
         rw [E2.out]at F2
         have HF2:=qh F2
         clear hG F2 HF1
         go_wp2_with fail
         refine HF2.out.mono ?_
         rintro e w6 ⟨rfl,hG⟩
         have I6:=qh (J5.out.got hG)
         clear y0 y1 y2 y3 y4 f0 f1 f2 f3 f4
         obtain⟨⟨y0,y1,y2,y3,y4⟩,f0,f1,f2,f3,f4⟩:=cells_five I6.out.blk
         have J6:Hid (QIn (w3.heap.size+1) w (w6.setCell ⟨w3.heap.size+1+1,2,none⟩ (.int .i64 t0)) (w3.heap.size+1) (w3.heap.size+1+1) bs (.ok 12) #[.int .i64 v0,.int .i64 i0,.int .i64 t0,.int .i64 0,.int .i64 0]):=qh (I6.out.set 2 (.int .i64 t0))
         have F3:=HF.out _ _ _ _ _ _ 1 (by decide) J6.out
         rw [E3.out]at F3
         have HF3:=qh F3
         clear hG F3 HF2
         go_wp2_with fail
         refine HF3.out.mono ?_
         rintro e w7 ⟨rfl,hG⟩
         have I7:=qh (J6.out.got hG)
         clear y0 y1 y2 y3 y4 f0 f1 f2 f3 f4
         obtain⟨⟨y0,y1,y2,y3,y4⟩,f0,f1,f2,f3,f4⟩:=cells_five I7.out.blk
         have J7:Hid (QIn (w3.heap.size+1) w (w7.setCell ⟨w3.heap.size+1+1,3,none⟩ (.int .i64 k0)) (w3.heap.size+1) (w3.heap.size+1+1) bs (.ok 13) #[.int .i64 v0,.int .i64 i0,.int .i64 t0,.int .i64 k0,.int .i64 0]):=qh (I7.out.set 3 (.int .i64 k0))
         have F4:=HF.out _ _ _ _ _ _ 6 (by decide) J7.out
         rw [E4.out]at F4
         have HF4:=qh F4
         clear hG F4 HF3
         go_wp2_with fail
         refine HF4.out.mono ?_
         rintro e w8 ⟨rfl,hG⟩
         have I8:=qh (J7.out.got hG)
         clear y0 y1 y2 y3 y4 f0 f1 f2 f3 f4
         obtain⟨⟨y0,y1,y2,y3,y4⟩,f0,f1,f2,f3,f4⟩:=cells_five I8.out.blk
         have J8:Hid (QIn (w3.heap.size+1) w (w8.setCell ⟨w3.heap.size+1+1,4,none⟩ (.int .i64 o0)) (w3.heap.size+1) (w3.heap.size+1+1) bs (.ok 19) #[.int .i64 v0,.int .i64 i0,.int .i64 t0,.int .i64 k0,.int .i64 o0]):=qh (I8.out.set 4 (.int .i64 o0))
         have er:=J8.out.err
         clear hG HF4
         rw [show errNo (.ok 19)=0 from rfl]at er
         have HL1:=qh (HL.out _ _ _ _ _ _ J8.out)
         rw [Hlf.out]at HL1
         go_wp2_with fail
         refine HL1.out.mono ?_
         rintro e w9 ⟨rfl,nq,hq⟩
         have J9:=qh (J8.out.below (w2:=w9) (by rw [hq];exact drewN_below (Below.refl _ _) nq))
         clear hq
         have B9:=qh J9.out.bl
         clear er HL1
         clear y0 y1 y2 y3 y4 f0 f1 f2 f3 f4
         obtain⟨⟨d0,d1,d2,d3,d4⟩,h0,h1,h2,h3,h4⟩:=cells_five J9.out.res
         have RZ:=qh (set_five J9.out.res (.int .i64 0) (.int .i64 0) (.int .i64 0) (.int .i64 0) (.int .i64 0))
         have BZ:=qh (below_five J9.out.bl (Nat.le_refl _) (.int .i64 0) (.int .i64 0) (.int .i64 0) (.int .i64 0) (.int .i64 0))
         unfold put5 at RZ BZ
         go_wp2_with fail
         clear d0 d1 d2 d3 d4 h0 h1 h2 h3 h4
         generalize ((((w9.setCell ⟨w.heap.size,0,none⟩ (.int .i64 0)).setCell ⟨w.heap.size,1,none⟩ (.int .i64 0)).setCell ⟨w.heap.size,2,none⟩ (.int .i64 0)).setCell ⟨w.heap.size,3,none⟩ (.int .i64 0)).setCell ⟨w.heap.size,4,none⟩ (.int .i64 0)=wz at *
         obtain⟨⟨z0,z1,z2,z3,z4⟩,_⟩:=cells_five RZ.out
         exact bodyPost_ret (v:= .tuple #[.agg #[.int .i64 0,.int .i64 0,.int .i64 0,.int .i64 0,.int .i64 0],.int .i64 4]) (by simp [results,Tryz.results11,go_sem,z0,z1,z2,z3,z4]) rfl ⟨rfl,BZ.out⟩
   · rw [if_pos ha]
     obtain⟨en,hen⟩: ∃en,(asB b k (-1)).2=en:=⟨_,rfl⟩
     rw [hen]at ha HA ⊢
     have hne:(en != 0)=true:=by simpa using ha
     have Hval:Hid (noMark.val= .agg #[.int .i64 0,.int .i64 0,.int .i64 0,.int .i64 0,.int .i64 0]):=qh rfl
     simp only
     rw [Hval.out]
     clear hen ha hp hk hb hbc hm hb0
     go_enter Tryz.func11,Tryz.ntmps11
     go_wp2_with fail
     refine HP.out.mono ?_
     rintro e w1 ⟨rfl,hw1⟩
     subst hw1
     go_wp2_with fail
     refine HA.out.mono ?_
     rintro e w2 ⟨v,rfl,_,hb2⟩
     have B2:=qh (Hb0.out.trans (hb2.mono Hb0.out.size))
     have R2:=qh (HR0.out.below hb2 HR0.out.lt)
     clear hb2
     obtain⟨⟨d0,d1,d2,d3,d4⟩,h0,h1,h2,h3,h4⟩:=cells_five R2.out
     have RZ:=qh (set_five R2.out (.int .i64 0) (.int .i64 0) (.int .i64 0) (.int .i64 0) (.int .i64 0))
     have BZ:=qh (below_five B2.out (Nat.le_refl _) (.int .i64 0) (.int .i64 0) (.int .i64 0) (.int .i64 0) (.int .i64 0))
     unfold put5 at RZ BZ
     go_wp2_with fail
     clear d0 d1 d2 d3 d4 h0 h1 h2 h3 h4
     generalize ((((w2.setCell ⟨w.heap.size,0,none⟩ (.int .i64 0)).setCell ⟨w.heap.size,1,none⟩ (.int .i64 0)).setCell ⟨w.heap.size,2,none⟩ (.int .i64 0)).setCell ⟨w.heap.size,3,none⟩ (.int .i64 0)).setCell ⟨w.heap.size,4,none⟩ (.int .i64 0)=wz at *
     obtain⟨⟨z0,z1,z2,z3,z4⟩,_⟩:=cells_five RZ.out
     exact bodyPost_ret (v:= .tuple #[.agg #[.int .i64 0,.int .i64 0,.int .i64 0,.int .i64 0,.int .i64 0],.int .i64 en]) (by simp [results,Tryz.results11,go_sem,z0,z1,z2,z3,z4]) rfl ⟨rfl,BZ.out⟩
 · rw [if_neg hk]at hP
   have HP:=qh hP
   clear hP
   have Hmb:Hid (markB k b=(noMark,2)):=qh (by unfold markB;rw [if_pos hk])
   rw [Hmb.out]
   have Hval:Hid (noMark.val= .agg #[.int .i64 0,.int .i64 0,.int .i64 0,.int .i64 0,.int .i64 0]):=qh rfl
   simp only
   rw [Hval.out]
   clear hk hb hbc hm hb0
   go_enter Tryz.func11,Tryz.ntmps11
   go_wp2_with fail
   refine HP.out.mono ?_
   rintro e w2 ⟨rfl,hw1⟩
   have B2:Hid (Below w.heap.size w w2):=qh (by rw [hw1];exact Hb0.out)
   have R2:Hid (BlockIs w2 w.heap.size 26 #[.int .i64 0,.int .i64 0,.int .i64 0,.int .i64 0,.int .i64 0]):=qh (by rw [hw1];exact HR0.out)
   clear hw1
   obtain⟨⟨d0,d1,d2,d3,d4⟩,h0,h1,h2,h3,h4⟩:=cells_five R2.out
   have RZ:=qh (set_five R2.out (.int .i64 0) (.int .i64 0) (.int .i64 0) (.int .i64 0) (.int .i64 0))
   have BZ:=qh (below_five B2.out (Nat.le_refl _) (.int .i64 0) (.int .i64 0) (.int .i64 0) (.int .i64 0) (.int .i64 0))
   unfold put5 at RZ BZ
   go_wp2_with fail
   clear d0 d1 d2 d3 d4 h0 h1 h2 h3 h4
   generalize ((((w2.setCell ⟨w.heap.size,0,none⟩ (.int .i64 0)).setCell ⟨w.heap.size,1,none⟩ (.int .i64 0)).setCell ⟨w.heap.size,2,none⟩ (.int .i64 0)).setCell ⟨w.heap.size,3,none⟩ (.int .i64 0)).setCell ⟨w.heap.size,4,none⟩ (.int .i64 0)=wz at *
   obtain⟨⟨z0,z1,z2,z3,z4⟩,_⟩:=cells_five RZ.out
   exact bodyPost_ret (v:= .tuple #[.agg #[.int .i64 0,.int .i64 0,.int .i64 0,.int .i64 0,.int .i64 0],.int .i64 2]) (by simp [results,Tryz.results11,go_sem,z0,z1,z2,z3,z4]) rfl ⟨rfl,BZ.out⟩
open Go.RowKit
theorem kOf_any (σ:Sen) (τ:SenU) (κ:SenK) (w:World) (hC:GlAt σ w) (hU:GlU τ w) (hM:GlK κ w) (k:Int) (hwf:wfK k) (A:Option Addr) (b:List Int) (c:Nat) (hb:BytesAt w A b) (hbc:b.length≤c) (hm:c≤9223372036854775807):
 Calls Tryz.prog 10 #[.int .i64 k,.slice A b.length c] w fun e w'=>e= .returned (.tuple #[(markB k b).1.val,.int .i64 (markB k b).2])∧Below w.heap.size w w':=by
 have hb0:=below_new w (.cells #[.int .i64 0,.int .i64 0,.int .i64 0,.int .i64 0,.int .i64 0] 26)
 have HR0:=qh (BlockIs.made w 26 #[.int .i64 0,.int .i64 0,.int .i64 0,.int .i64 0,.int .i64 0])
 have hP:=placed_any κ _ (hM.below hb0) k hwf
 have HG:=qh (And.intro hC (And.intro hU (And.intro hM hb)))
 have Hb0:=qh hb0
 have Hbc:=qh (And.intro hbc hm)
 by_cases hk:sortK k
 · rw [if_pos hk,show placeV k= .agg #[.int .i64 (placeK k:Int),.int .i64 ((placeK k:Int)+1)] by unfold placeV;rw [if_pos hk]]at hP
   have HP:=qh hP
   have HO:=qh (fun W (h:Below w.heap.size w W)=>kof_any σ τ κ W (HG.out.1.below h) (HG.out.2.1.below h) (HG.out.2.2.1.below h) k hk A b c (HG.out.2.2.2.below h) Hbc.out.1 Hbc.out.2)
   obtain⟨r,hr⟩: ∃r,markB k b=r:=⟨_,rfl⟩
   rw [hr]at HO ⊢
   obtain⟨⟨v0,i0,t0,k0,o0⟩,en⟩:=r
   unfold MarkV.val at HO ⊢
   simp only at HO ⊢
   obtain⟨p,hp⟩: ∃p:Int,(placeK k:Int)=p:=⟨_,rfl⟩
   rw [hp]at HP
   clear hC hU hM hb hbc hm hb0 hk hr hP hp hwf
   go_enter Tryz.func10,Tryz.ntmps10
   go_wp2_with fail
   refine HP.out.mono ?_
   rintro e w2 ⟨v,rfl,hv,hb2⟩
   obtain rfl:=hv.zero
   have hb3:=hb2.trans ((below_new w2 (.cells #[.int .i64 p,.int .i64 (p+1)] 82)).mono hb2.size)
   have B3:=qh (Hb0.out.trans (hb3.mono Hb0.out.size))
   have R3:=qh (HR0.out.below hb3 HR0.out.lt)
   have HO2:=qh (HO.out _ B3.out)
   obtain⟨w3,hw3⟩: ∃w3,w2.alloc (.cells #[.int .i64 p,.int .i64 (p+1)] 82)=w3:=⟨_,rfl⟩
   rw [hw3]at B3 R3 HO2
   have Hw3:=qh hw3
   clear hv hb2 hb3 hw3 HP HO
   go_wp2_with fail
   rw [Hw3.out]
   refine HO2.out.mono ?_
   rintro e w4 ⟨v,rfl,hv,hb4⟩
   have Hv:=qh hv
   have hb5:=hb4.trans ((below_new w4 (.cells #[.int .i64 v0,.int .i64 i0,.int .i64 t0,.int .i64 k0,.int .i64 o0] 26)).mono hb4.size)
   have B5:=qh (B3.out.trans (hb5.mono B3.out.size))
   have R5:=qh (R3.out.below hb5 R3.out.lt)
   have M5:=qh (BlockIs.made w4 26 #[.int .i64 v0,.int .i64 i0,.int .i64 t0,.int .i64 k0,.int .i64 o0])
   have HNQ:=qh (show w4.heap.size≠w.heap.size by have:=R3.out.lt;have:=hb4.size;omega)
   clear hv hb4 hb5 HO2
   go_wp2_with fail
   generalize (w4.alloc (.cells #[.int .i64 v0,.int .i64 i0,.int .i64 t0,.int .i64 k0,.int .i64 o0] 26))=w5 at *
   generalize w4.heap.size=gm at *
   obtain⟨⟨q0,q1,q2,q3,q4⟩,_⟩:=cells_five M5.out
   obtain⟨⟨y0,y1,y2,y3,y4⟩,f0,f1,f2,f3,f4⟩:=cells_five R5.out
   have HEr:=qh (kerrno_any κ w5 (HG.out.2.2.1.below B5.out) _ v Hv.out)
   have HEd:=qh (kerrno_any κ w5.drew ((HG.out.2.2.1.below B5.out).below (Below.refl _ _).drew) _ v Hv.out)
   go_region_with (first
    | (go_at_call 41;(first | (with_reducible refine HEr.out.mono ?_) | (with_reducible refine HEd.out.mono ?_));rintro e wx ⟨rfl,hbx⟩;have hbx':Below w5.heap.size w5 wx:=(by first | exact hbx | exact undrew hbx);have MX:=qh (M5.out.below hbx' M5.out.lt);have RX:=qh (R5.out.below hbx' R5.out.lt);have BX:=qh (B5.out.trans (hbx'.mono B5.out.size));obtain⟨⟨q0',q1',q2',q3',q4'⟩,_⟩:=cells_five MX.out;obtain⟨⟨y0',y1',y2',y3',y4'⟩,g0,g1,g2,g3,g4⟩:=cells_five RX.out;clear hbx hbx')
    | fail)
   all_goals
    have RZ:=qh (set_five RX.out (.int .i64 v0) (.int .i64 i0) (.int .i64 t0) (.int .i64 k0) (.int .i64 o0))
    have BZ:=qh (below_five BX.out (Nat.le_refl _) (.int .i64 v0) (.int .i64 i0) (.int .i64 t0) (.int .i64 k0) (.int .i64 o0))
    unfold put5 at RZ BZ
    clear y0 y1 y2 y3 y4 f0 f1 f2 f3 f4 y0' y1' y2' y3' y4' g0 g1 g2 g3 g4 q0 q1 q2 q3 q4 q0' q1' q2' q3' q4'
    generalize ((((wx.setCell ⟨w.heap.size,0,none⟩ (.int .i64 v0)).setCell ⟨w.heap.size,1,none⟩ (.int .i64 i0)).setCell ⟨w.heap.size,2,none⟩ (.int .i64 t0)).setCell ⟨w.heap.size,3,none⟩ (.int .i64 k0)).setCell ⟨w.heap.size,4,none⟩ (.int .i64 o0)=wz at *
    obtain⟨⟨z0,z1,z2,z3,z4⟩,_⟩:=cells_five RZ.out
    go_wp2_with fail
    exact bodyPost_ret (v:= .tuple #[.agg #[.int .i64 v0,.int .i64 i0,.int .i64 t0,.int .i64 k0,.int .i64 o0],.int .i64 en]) (by simp [results,Tryz.results10,go_sem,z0,z1,z2,z3,z4]) rfl ⟨rfl,by first | exact BZ.out | exact⟨BZ.out.os,BZ.out.tape,BZ.out.output,BZ.out.size,BZ.out.block⟩⟩
 · rw [if_neg hk,show placeV k= .agg #[.int .i64 0,.int .i64 0] by unfold placeV;rw [if_neg hk]]at hP
   have HP:=qh hP
   have Hmb:Hid (markB k b=(noMark,2)):=qh (by unfold markB;rw [if_pos hk])
   rw [Hmb.out]
   have Hval:Hid (noMark.val= .agg #[.int .i64 0,.int .i64 0,.int .i64 0,.int .i64 0,.int .i64 0]):=qh rfl
   simp only
   rw [Hval.out]
   clear hC hU hM hb hbc hm hb0 hk hP hwf
   go_enter Tryz.func10,Tryz.ntmps10
   go_wp2_with fail
   refine HP.out.mono ?_
   rintro e w2 ⟨v,rfl,hv,hb2⟩
   obtain⟨tv,xv,rfl⟩:=hv.some (by decide)
   have Hv:=qh hv
   have hb3:=hb2.trans ((below_new w2 (.cells #[.int .i64 0,.int .i64 0] 82)).mono hb2.size)
   have B3:=qh (Hb0.out.trans (hb3.mono Hb0.out.size))
   have R3:=qh (HR0.out.below hb3 HR0.out.lt)
   have HE:=qh (kerrno_any κ _ (HG.out.2.2.1.below B3.out) _ _ Hv.out)
   obtain⟨w3,hw3⟩: ∃w3,w2.alloc (.cells #[.int .i64 0,.int .i64 0] 82)=w3:=⟨_,rfl⟩
   rw [hw3]at B3 R3 HE
   have Hw3:=qh hw3
   clear hv hb2 hb3 hw3 HP
   go_wp2_with fail
   rw [Hw3.out]
   refine HE.out.mono ?_
   rintro e w4 ⟨rfl,hb4⟩
   have B4:=qh (B3.out.trans (hb4.mono B3.out.size))
   have R4:=qh (R3.out.below hb4 R3.out.lt)
   clear hb4
   obtain⟨⟨y0,y1,y2,y3,y4⟩,f0,f1,f2,f3,f4⟩:=cells_five R4.out
   have RZ:=qh (set_five R4.out (.int .i64 0) (.int .i64 0) (.int .i64 0) (.int .i64 0) (.int .i64 0))
   have BZ:=qh (below_five B4.out (Nat.le_refl _) (.int .i64 0) (.int .i64 0) (.int .i64 0) (.int .i64 0) (.int .i64 0))
   unfold put5 at RZ BZ
   go_wp2_with fail
   clear y0 y1 y2 y3 y4 f0 f1 f2 f3 f4
   generalize ((((w4.setCell ⟨w.heap.size,0,none⟩ (.int .i64 0)).setCell ⟨w.heap.size,1,none⟩ (.int .i64 0)).setCell ⟨w.heap.size,2,none⟩ (.int .i64 0)).setCell ⟨w.heap.size,3,none⟩ (.int .i64 0)).setCell ⟨w.heap.size,4,none⟩ (.int .i64 0)=wz at *
   obtain⟨⟨z0,z1,z2,z3,z4⟩,_⟩:=cells_five RZ.out
   exact bodyPost_ret (v:= .tuple #[.agg #[.int .i64 0,.int .i64 0,.int .i64 0,.int .i64 0,.int .i64 0],.int .i64 2]) (by simp [results,Tryz.results10,go_sem,z0,z1,z2,z3,z4]) rfl ⟨rfl,BZ.out⟩
end Go.Proofs.YtpaikolnampcfaaGreatDoor
