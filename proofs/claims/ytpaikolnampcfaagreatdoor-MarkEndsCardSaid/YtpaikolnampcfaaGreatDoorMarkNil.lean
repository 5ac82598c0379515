/- Of nil: what the package tells. -/
import Derived.Test.YtpaikolnampcfaaGreatDoorLaw06Base
import Derived.Test.YtpaikolnampcfaaGreatDoorMarkOpen
import Derived.Test.YtpaikolnampcfaaGreatDoorDevNil
namespace Go.Proofs.YtpaikolnampcfaaGreatDoor
set_option maxRecDepth 100000
set_option maxHeartbeats 4000000
open Go.RowKit
section
variable {δ : SenD} {w : World}
theorem kseen_nil (κ:SenK) (hD:GlD δ w) (kk:Int) (p:Nat) (g:Nat) (hB:BlockIs w g 3 #[.int .i64 (p:Int),.int .i64 ((p:Int)+1)]):
 Calls Tryz.prog 127 #[.pointer none,.int .i64 kk,.slice (some ⟨g,0,none⟩) 2 2] w fun e w'=> ∃t x,e= .returned (.tuple #[.slice none 0 0,.iface t x])∧KErr κ 1 (.iface t x)∧Below w.heap.size w w':=by
 have c0:w.cell? ⟨g,0,none⟩=some (.int .i64 (p:Int)):=hB.cell 0
 have HR:=qh (read_nil δ hD (p:Int))
 have HE:=qh (fun W=>kfailed_any κ W (p:Int) 1)
 clear hB hD
 go_enter Tryz.func127,Tryz.ntmps127
 go_wp2_with fail
 refine wp_loop_rounds 3 ?_
 rw [rounds_succ]
 go_wp2_with fail
 refine HR.out.mono ?_
 rintro e w1 ⟨rfl,hw⟩
 subst hw
 go_wp2_with fail
 refine(HE.out _).mono ?_
 rintro e w2 ⟨v,rfl,hv,hb2⟩
 obtain⟨tv,xv,rfl⟩:=hv.some (by decide)
 have Hv:=qh (And.intro hv hb2)
 clear hv hb2 c0
 go_wp2_with fail
 go_ret2
 exact⟨_,_,rfl,Hv.out.1,Hv.out.2⟩
theorem klook_nil (κ:SenK) (hD:GlD δ w) (hM:GlK κ w) (kk:Int) (hk:sortK kk):
 Calls Tryz.prog 105 #[.pointer none,.int .i64 kk] w fun e w'=> ∃t x,e= .returned (.tuple #[.slice none 0 0,.iface t x])∧KErr κ 1 (.iface t x)∧Below w.heap.size w w':=by
 have hwf:wfK kk:=by rcases hk with rfl | rfl<;>(unfold wfK;decide)
 have hP:=placed_any κ _ hM kk hwf
 rw [if_pos hk,show placeV kk= .agg #[.int .i64 (placeK kk:Int),.int .i64 ((placeK kk:Int)+1)] by unfold placeV;rw [if_pos hk]]at hP
 have HP:=qh hP
 have HS:=qh (fun W (hb:Below w.heap.size w W) g hB=>kseen_nil (w:=W) κ (hD.below hb) kk (placeK kk) g hB)
 obtain⟨p,hp⟩: ∃p,placeK kk=p:=⟨_,rfl⟩
 rw [hp]at HP HS
 clear hD hM hk hwf hP hp
 go_enter Tryz.func105,Tryz.ntmps105
 go_wp2_with fail
 refine HP.out.mono ?_
 rintro e w2 ⟨v,rfl,hv,hb2⟩
 obtain rfl:=hv.zero
 have hb3:=hb2.trans ((below_new w2 (.cells #[.int .i64 (p:Int),.int .i64 ((p:Int)+1)] 82)).mono hb2.size)
 have hb4:=hb3.trans ((below_new _ (.cells #[.int .i64 (p:Int),.int .i64 ((p:Int)+1)] 3)).mono hb3.size)
 have hB:=BlockIs.made (w2.alloc (.cells #[.int .i64 (p:Int),.int .i64 ((p:Int)+1)] 82)) 3 #[.int .i64 (p:Int),.int .i64 ((p:Int)+1)]
 have hs:=HS.out _ hb4 _ hB
 rw [World.size_alloc]at hs
 have HS2:=qh hs
 have B4:=qh hb4
 clear hv hb2 hb3 hb4 hB hs HP
 go_wp2_with fail
 refine HS2.out.mono ?_
 rintro e w5 ⟨tv,xv,rfl,hS,hb5⟩
 have S5:=qh (And.intro hS (B4.out.trans (hb5.mono B4.out.size)))
 clear hS hb5
 go_wp2_with fail
 go_ret2
 exact⟨_,_,rfl,S5.out.1,S5.out.2⟩
theorem kget_nil (κ:SenK) (hD:GlD δ w) (hM:GlK κ w) (kk:Int) (hk:sortK kk):
 Calls Tryz.prog 70 #[.pointer none,.int .i64 kk] w fun e w'=> ∃t x,e= .returned (.tuple #[noMark.val,.iface t x])∧KErr κ 1 (.iface t x)∧Below w.heap.size w w':=by
 have hb0:=below_new w (.cells #[.int .i64 0,.int .i64 0,.int .i64 0,.int .i64 0,.int .i64 0] 26)
 have HR0:=qh (BlockIs.made w 26 #[.int .i64 0,.int .i64 0,.int .i64 0,.int .i64 0,.int .i64 0])
 have HL:=qh (klook_nil κ (hD.below hb0) (hM.below hb0) kk hk)
 have Hb0:=qh hb0
 have Hval:Hid (noMark.val= .agg #[.int .i64 0,.int .i64 0,.int .i64 0,.int .i64 0,.int .i64 0]):=qh rfl
 rw [Hval.out]
 clear hb0 hD hM hk
 go_enter Tryz.func70,Tryz.ntmps70
 go_wp2_with fail
 refine HL.out.mono ?_
 rintro e w2 ⟨tv,xv,rfl,hv,hb2⟩
 have Hv:=qh hv
 have B2:=qh (Hb0.out.trans (hb2.mono Hb0.out.size))
 have R2:=qh (HR0.out.below hb2 HR0.out.lt)
 clear hv hb2 HL
 obtain⟨⟨y0,y1,y2,y3,y4⟩,f0,f1,f2,f3,f4⟩:=cells_five R2.out
 have RZ:=qh (set_five R2.out (.int .i64 0) (.int .i64 0) (.int .i64 0) (.int .i64 0) (.int .i64 0))
 have BZ:=qh (below_five B2.out (Nat.le_refl _) (.int .i64 0) (.int .i64 0) (.int .i64 0) (.int .i64 0) (.int .i64 0))
 unfold put5 at RZ BZ
 go_wp2_with fail
 clear y0 y1 y2 y3 y4 f0 f1 f2 f3 f4
 generalize (((((w2).setCell ⟨w.heap.size,0,none⟩ (.int .i64 0)).setCell ⟨w.heap.size,1,none⟩ (.int .i64 0)).setCell ⟨w.heap.size,2,none⟩ (.int .i64 0)).setCell ⟨w.heap.size,3,none⟩ (.int .i64 0)).setCell ⟨w.heap.size,4,none⟩ (.int .i64 0)=wz at *
 obtain⟨⟨z0,z1,z2,z3,z4⟩,_⟩:=cells_five RZ.out
 exact bodyPost_ret (v:= .tuple #[.agg #[.int .i64 0,.int .i64 0,.int .i64 0,.int .i64 0,.int .i64 0],.iface tv xv]) (by simp [results,Tryz.results70,go_sem,z0,z1,z2,z3,z4]) rfl ⟨_,_,rfl,Hv.out,BZ.out⟩
theorem kopen_nil (κ:SenK) (hD:GlD δ w) (hM:GlK κ w) (kk:Int) (hk:sortK kk):
 Calls Tryz.prog 71 #[.pointer none,.int .i64 kk] w fun e w'=> ∃t x,e= .returned (.tuple #[noMark.val,.iface t x])∧KErr κ 1 (.iface t x)∧Below w.heap.size w w':=by
 have hb0:=below_new w (.cells #[.int .i64 0,.int .i64 0,.int .i64 0,.int .i64 0,.int .i64 0] 26)
 have HR0:=qh (BlockIs.made w 26 #[.int .i64 0,.int .i64 0,.int .i64 0,.int .i64 0,.int .i64 0])
 have HL:=qh (klook_nil κ (hD.below hb0) (hM.below hb0) kk hk)
 have Hb0:=qh hb0
 have Hval:Hid (noMark.val= .agg #[.int .i64 0,.int .i64 0,.int .i64 0,.int .i64 0,.int .i64 0]):=qh rfl
 rw [Hval.out]
 clear hb0 hD hM hk
 go_enter Tryz.func71,Tryz.ntmps71
 go_wp2_with fail
 refine HL.out.mono ?_
 rintro e w2 ⟨tv,xv,rfl,hv,hb2⟩
 have Hv:=qh hv
 have B2:=qh (Hb0.out.trans (hb2.mono Hb0.out.size))
 have R2:=qh (HR0.out.below hb2 HR0.out.lt)
 clear hv hb2 HL
 obtain⟨⟨y0,y1,y2,y3,y4⟩,f0,f1,f2,f3,f4⟩:=cells_five R2.out
 have RZ:=qh (set_five R2.out (.int .i64 0) (.int .i64 0) (.int .i64 0) (.int .i64 0) (.int .i64 0))
 have BZ:=qh (below_five B2.out (Nat.le_refl _) (.int .i64 0) (.int .i64 0) (.int .i64 0) (.int .i64 0) (.int .i64 0))
 unfold put5 at RZ BZ
 go_wp2_with fail
 clear y0 y1 y2 y3 y4 f0 f1 f2 f3 f4
 generalize (((((w2).setCell ⟨w.heap.size,0,none⟩ (.int .i64 0)).setCell ⟨w.heap.size,1,none⟩ (.int .i64 0)).setCell ⟨w.heap.size,2,none⟩ (.int .i64 0)).setCell ⟨w.heap.size,3,none⟩ (.int .i64 0)).setCell ⟨w.heap.size,4,none⟩ (.int .i64 0)=wz at *
 obtain⟨⟨z0,z1,z2,z3,z4⟩,_⟩:=cells_five RZ.out
 exact bodyPost_ret (v:= .tuple #[.agg #[.int .i64 0,.int .i64 0,.int .i64 0,.int .i64 0,.int .i64 0],.iface tv xv]) (by simp [results,Tryz.results71,go_sem,z0,z1,z2,z3,z4]) rfl ⟨_,_,rfl,Hv.out,BZ.out⟩
theorem kGet_nil (κ:SenK) (hD:GlD δ w) (hM:GlK κ w) (kk:Int) (hk:sortK kk):
 Calls Tryz.prog 29 #[.pointer none,.int .i64 kk] w fun e w'=>e= .returned (.tuple #[noMark.val,.int .i64 1])∧Below w.heap.size w w':=by
 have hb0:=below_new w (.cells #[.int .i64 0,.int .i64 0,.int .i64 0,.int .i64 0,.int .i64 0] 26)
 have HR0:=qh (BlockIs.made w 26 #[.int .i64 0,.int .i64 0,.int .i64 0,.int .i64 0,.int .i64 0])
 have HL:=qh (kget_nil κ (hD.below hb0) (hM.below hb0) kk hk)
 have Hb0:=qh hb0
 have HM:=qh hM
 rw [show noMark.val= .agg #[.int .i64 0,.int .i64 0,.int .i64 0,.int .i64 0,.int .i64 0]from rfl]at HL ⊢
 clear hb0 hD hM hk
 go_enter Tryz.func29,Tryz.ntmps29
 go_wp2_with fail
 refine HL.out.mono ?_
 rintro e w4 ⟨tv,xv,rfl,hv,hb4⟩
 have Hv:=qh hv
 have hb5:=hb4.trans ((below_new w4 (.cells #[.int .i64 0,.int .i64 0,.int .i64 0,.int .i64 0,.int .i64 0] 26)).mono hb4.size)
 have B5:=qh (Hb0.out.trans (hb5.mono Hb0.out.size))
 have R5:=qh (HR0.out.below hb5 HR0.out.lt)
 have M5:=qh (BlockIs.made w4 26 #[.int .i64 0,.int .i64 0,.int .i64 0,.int .i64 0,.int .i64 0])
 clear hv hb4 hb5 HL
 go_wp2_with fail
 generalize (w4.alloc (.cells #[.int .i64 0,.int .i64 0,.int .i64 0,.int .i64 0,.int .i64 0] 26))=w5 at *
 generalize w4.heap.size=gm at *
 obtain⟨⟨q0,q1,q2,q3,q4⟩,_⟩:=cells_five M5.out
 obtain⟨⟨y0,y1,y2,y3,y4⟩,f0,f1,f2,f3,f4⟩:=cells_five R5.out
 have HEr:=qh (kerrno_any κ w5 (HM.out.below B5.out) _ _ Hv.out)
 have HEd:=qh (kerrno_any κ w5.drew ((HM.out.below B5.out).below (Below.refl _ _).drew) _ _ Hv.out)
 go_region_with (first
  | (go_at_call 41;(first | (with_reducible refine HEr.out.mono ?_) | (with_reducible refine HEd.out.mono ?_));rintro e wx ⟨rfl,hbx⟩;have hbx':Below w5.heap.size w5 wx:=(by first | exact hbx | exact undrew hbx);have MX:=qh (M5.out.below hbx' M5.out.lt);have RX:=qh (R5.out.below hbx' R5.out.lt);have BX:=qh (B5.out.trans (hbx'.mono B5.out.size));obtain⟨⟨q0',q1',q2',q3',q4'⟩,_⟩:=cells_five MX.out;obtain⟨⟨y0',y1',y2',y3',y4'⟩,g0,g1,g2,g3,g4⟩:=cells_five RX.out;clear hbx hbx')
  | fail)
 all_goals
  have RZ:=qh (set_five RX.out (.int .i64 0) (.int .i64 0) (.int .i64 0) (.int .i64 0) (.int .i64 0))
  have BZ:=qh (below_five BX.out (Nat.le_refl _) (.int .i64 0) (.int .i64 0) (.int .i64 0) (.int .i64 0) (.int .i64 0))
  unfold put5 at RZ BZ
  clear y0 y1 y2 y3 y4 f0 f1 f2 f3 f4 y0' y1' y2' y3' y4' g0 g1 g2 g3 g4 q0 q1 q2 q3 q4 q0' q1' q2' q3' q4'
  generalize ((((wx.setCell ⟨w.heap.size,0,none⟩ (.int .i64 0)).setCell ⟨w.heap.size,1,none⟩ (.int .i64 0)).setCell ⟨w.heap.size,2,none⟩ (.int .i64 0)).setCell ⟨w.heap.size,3,none⟩ (.int .i64 0)).setCell ⟨w.heap.size,4,none⟩ (.int .i64 0)=wz at *
  obtain⟨⟨z0,z1,z2,z3,z4⟩,_⟩:=cells_five RZ.out
  go_wp2_with fail
  exact bodyPost_ret (v:= .tuple #[.agg #[.int .i64 0,.int .i64 0,.int .i64 0,.int .i64 0,.int .i64 0],.int .i64 1]) (by simp [results,Tryz.results29,go_sem,z0,z1,z2,z3,z4]) rfl ⟨rfl,by first | exact BZ.out | exact⟨BZ.out.os,BZ.out.tape,BZ.out.output,BZ.out.size,BZ.out.block⟩⟩
theorem kOpen_nil (κ:SenK) (hD:GlD δ w) (hM:GlK κ w) (kk:Int) (hk:sortK kk):
 Calls Tryz.prog 30 #[.pointer none,.int .i64 kk] w fun e w'=>e= .returned (.tuple #[noMark.val,.int .i64 1])∧Below w.heap.size w w':=by
 have hb0:=below_new w (.cells #[.int .i64 0,.int .i64 0,.int .i64 0,.int .i64 0,.int .i64 0] 26)
 have HR0:=qh (BlockIs.made w 26 #[.int .i64 0,.int .i64 0,.int .i64 0,.int .i64 0,.int .i64 0])
 have HL:=qh (kopen_nil κ (hD.below hb0) (hM.below hb0) kk hk)
 have Hb0:=qh hb0
 have HM:=qh hM
 rw [show noMark.val= .agg #[.int .i64 0,.int .i64 0,.int .i64 0,.int .i64 0,.int .i64 0]from rfl]at HL ⊢
 clear hb0 hD hM hk
 go_enter Tryz.func30,Tryz.ntmps30
 go_wp2_with fail
 refine HL.out.mono ?_
 rintro e w4 ⟨tv,xv,rfl,hv,hb4⟩
 have Hv:=qh hv
 have hb5:=hb4.trans ((below_new w4 (.cells #[.int .i64 0,.int .i64 0,.int .i64 0,.int .i64 0,.int .i64 0] 26)).mono hb4.size)
 have B5:=qh (Hb0.out.trans (hb5.mono Hb0.out.size))
 have R5:=qh (HR0.out.below hb5 HR0.out.lt)
 have M5:=qh (BlockIs.made w4 26 #[.int .i64 0,.int .i64 0,.int .i64 0,.int .i64 0,.int .i64 0])
 clear hv hb4 hb5 HL
 go_wp2_with fail
 generalize (w4.alloc (.cells #[.int .i64 0,.int .i64 0,.int .i64 0,.int .i64 0,.int .i64 0] 26))=w5 at *
 generalize w4.heap.size=gm at *
 obtain⟨⟨q0,q1,q2,q3,q4⟩,_⟩:=cells_five M5.out
 obtain⟨⟨y0,y1,y2,y3,y4⟩,f0,f1,f2,f3,f4⟩:=cells_five R5.out
 have HEr:=qh (kerrno_any κ w5 (HM.out.below B5.out) _ _ Hv.out)
 have HEd:=qh (kerrno_any κ w5.drew ((HM.out.below B5.out).below (Below.refl _ _).drew) _ _ Hv.out)
 go_region_with (first
  | (go_at_call 41;(first | (with_reducible refine HEr.out.mono ?_) | (with_reducible refine HEd.out.mono ?_));rintro e wx ⟨rfl,hbx⟩;have hbx':Below w5.heap.size w5 wx:=(by first | exact hbx | exact undrew hbx);have MX:=qh (M5.out.below hbx' M5.out.lt);have RX:=qh (R5.out.below hbx' R5.out.lt);have BX:=qh (B5.out.trans (hbx'.mono B5.out.size));obtain⟨⟨q0',q1',q2',q3',q4'⟩,_⟩:=cells_five MX.out;obtain⟨⟨y0',y1',y2',y3',y4'⟩,g0,g1,g2,g3,g4⟩:=cells_five RX.out;clear hbx hbx')
  | fail)
 all_goals
  have RZ:=qh (set_five RX.out (.int .i64 0) (.int .i64 0) (.int .i64 0) (.int .i64 0) (.int .i64 0))
  have BZ:=qh (below_five BX.out (Nat.le_refl _) (.int .i64 0) (.int .i64 0) (.int .i64 0) (.int .i64 0) (.int .i64 0))
  unfold put5 at RZ BZ
  clear y0 y1 y2 y3 y4 f0 f1 f2 f3 f4 y0' y1' y2' y3' y4' g0 g1 g2 g3 g4 q0 q1 q2 q3 q4 q0' q1' q2' q3' q4'
  generalize ((((wx.setCell ⟨w.heap.size,0,none⟩ (.int .i64 0)).setCell ⟨w.heap.size,1,none⟩ (.int .i64 0)).setCell ⟨w.heap.size,2,none⟩ (.int .i64 0)).setCell ⟨w.heap.size,3,none⟩ (.int .i64 0)).setCell ⟨w.heap.size,4,none⟩ (.int .i64 0)=wz at *
  obtain⟨⟨z0,z1,z2,z3,z4⟩,_⟩:=cells_five RZ.out
  go_wp2_with fail
  exact bodyPost_ret (v:= .tuple #[.agg #[.int .i64 0,.int .i64 0,.int .i64 0,.int .i64 0,.int .i64 0],.int .i64 1]) (by simp [results,Tryz.results30,go_sem,z0,z1,z2,z3,z4]) rfl ⟨rfl,by first | exact BZ.out | exact⟨BZ.out.os,BZ.out.tape,BZ.out.output,BZ.out.size,BZ.out.block⟩⟩
theorem kstore_nil (κ:SenK) (hD:GlD δ w) (p:Nat) (X:Option Addr) (m c:Nat) (g:Nat) (hB:BlockIs w g 3 #[.int .i64 (p:Int),.int .i64 ((p:Int)+1)]):
 Calls Tryz.prog 109 #[.pointer none,.slice X m c,.slice (some ⟨g,0,none⟩) 2 2] w fun e w'=> ∃t x,e= .returned (.iface t x)∧KErr κ 1 (.iface t x)∧Below w.heap.size w w':=by
 have c0:w.cell? ⟨g,0,none⟩=some (.int .i64 (p:Int)):=hB.cell 0
 have HR:=qh (write_nil δ hD (p:Int) X m c)
 have HE:=qh (fun W=>kfailed_any κ W (p:Int) 1)
 clear hB hD
 go_enter Tryz.func109,Tryz.ntmps109
 go_wp2_with fail
 refine wp_loop_rounds 3 ?_
 rw [rounds_succ]
 go_wp2_with fail
 refine HR.out.mono ?_
 rintro e w1 ⟨rfl,hb1⟩
 have B1:=qh hb1
 clear hb1
 go_wp2_with fail
 refine(HE.out _).mono ?_
 rintro e w2 ⟨v,rfl,hv,hb2⟩
 obtain⟨tv,xv,rfl⟩:=hv.some (by decide)
 have Hv:=qh (And.intro hv (B1.out.trans (hb2.mono B1.out.size)))
 clear hv hb2 c0
 go_wp2_with fail
 go_ret
 exact⟨_,_,rfl,Hv.out.1,Hv.out.2⟩
end
end Go.Proofs.YtpaikolnampcfaaGreatDoor
