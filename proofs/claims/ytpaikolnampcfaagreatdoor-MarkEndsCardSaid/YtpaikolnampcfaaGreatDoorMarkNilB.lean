/- Of nil: what the package lays, and Damaged. -/
import Derived.Test.YtpaikolnampcfaaGreatDoorMarkNil
import Derived.Test.YtpaikolnampcfaaGreatDoorMarkLay
namespace Go.Proofs.YtpaikolnampcfaaGreatDoor
set_option maxRecDepth 100000
set_option maxHeartbeats 4000000
open Go.RowKit
section
variable {δ : SenD} {w W : World}
theorem cells7 {w':World} {g1 g2:Nat} {a0 a1 a2 a3 a4 b0 b1:Value} (hb:Below W.heap.size W w') (s:W.cell? ⟨g1,0,none⟩=some a0∧W.cell? ⟨g1,1,none⟩=some a1∧W.cell? ⟨g1,2,none⟩=some a2∧W.cell? ⟨g1,3,none⟩=some a3∧W.cell? ⟨g1,4,none⟩=some a4∧W.cell? ⟨g2,0,none⟩=some b0∧W.cell? ⟨g2,1,none⟩=some b1):
 w'.cell? ⟨g1,0,none⟩=some a0∧w'.cell? ⟨g1,1,none⟩=some a1∧w'.cell? ⟨g1,2,none⟩=some a2∧w'.cell? ⟨g1,3,none⟩=some a3∧w'.cell? ⟨g1,4,none⟩=some a4∧w'.cell? ⟨g2,0,none⟩=some b0∧w'.cell? ⟨g2,1,none⟩=some b1:=
 ⟨cell_below s.1 hb,cell_below s.2.1 hb,cell_below s.2.2.1 hb,cell_below s.2.2.2.1 hb,cell_below s.2.2.2.2.1 hb,cell_below s.2.2.2.2.2.1 hb,cell_below s.2.2.2.2.2.2 hb⟩
theorem klay_nil (κ:SenK) (hD:GlD δ w) (hG:GlK κ w) (kk:Int) (hk:sortK kk) (m:MarkV) (hm:m.right):
 Calls Tryz.prog 73 #[.pointer none,.int .i64 kk,m.val] w fun e w2=> ∃t x,e= .returned (.iface t x)∧KErr κ 1 (.iface t x)∧Below w.heap.size w w2:=by
 have hbx:=below_new w (.cells #[.int .i64 m.ver,.int .i64 m.idx,.int .i64 m.term,.int .i64 m.kind,.int .i64 m.void] 26)
 have hB:=BlockIs.made w 26 #[.int .i64 m.ver,.int .i64 m.idx,.int .i64 m.term,.int .i64 m.kind,.int .i64 m.void]
 have HBX:=qh (And.intro hB hbx)
 have hwf:wfK kk:=by rcases hk with rfl | rfl<;>(unfold wfK;decide)
 have hP:=placed_any κ _ (hG.below hbx) kk hwf
 rw [if_pos hk,show placeV kk= .agg #[.int .i64 (placeK kk:Int),.int .i64 ((placeK kk:Int)+1)] by unfold placeV;rw [if_pos hk]]at hP
 have HP:=qh hP
 have HS:=qh (fun W=>sealed_at W kk m hm hk)
 have HSt:=qh (fun W g cap gs (l:LayW w W g gs (placeK kk) (sealB (m.unit kk)))=>(kstore_nil (w:=W) κ (hD.below l.bl) (placeK kk) (some ⟨g,0,none⟩) 256 cap gs l.row).mono fun e w' h=>show ∃t x,e= .returned (.iface t x)∧KErr κ 1 (.iface t x)∧Below W.heap.size W w'∧Below w.heap.size w w' from by
  obtain⟨tv,xv,h1,h2,h3⟩:=h
  exact⟨tv,xv,h1,h2,h3,l.bl.trans (h3.mono l.bl.size)⟩)
 obtain⟨sb,hsb⟩: ∃sb,sealB (m.unit kk)=sb:=⟨_,rfl⟩
 rw [hsb]at HSt HS
 obtain⟨p,hp⟩: ∃p,placeK kk=p:=⟨_,rfl⟩
 rw [hp]at HP HSt
 unfold MarkV.val at *
 clear hbx hB hwf hP hsb hp hD hG hk hm
 go_enter Tryz.func73,Tryz.ntmps73
 go_wp2_with fail
 refine HP.out.mono ?_
 rintro e w2 ⟨v,rfl,hv,hb2⟩
 obtain rfl:=hv.zero
 have hb3:=hb2.trans ((below_new w2 (.cells #[.int .i64 (p:Int),.int .i64 ((p:Int)+1)] 82)).mono hb2.size)
 have B3:=qh (HBX.out.2.trans (hb3.mono HBX.out.2.size))
 have X3:=qh (HBX.out.1.below hb3 HBX.out.1.lt)
 have P3:=qh (BlockIs.made w2 82 #[.int .i64 (p:Int),.int .i64 ((p:Int)+1)])
 have Hg2:=qh (Nat.le_trans HBX.out.2.size hb2.size)
 clear hv hb2 hb3 HP
 go_wp2_with fail
 generalize (w2.alloc (.cells #[.int .i64 (p:Int),.int .i64 ((p:Int)+1)] 82))=w3 at *
 generalize w2.heap.size=g2 at *
 obtain⟨⟨x0,x1,x2,x3,x4⟩,_⟩:=cells_five X3.out
 obtain⟨p0,p1,_⟩:=cells_two P3.out
 have SX:=lay_cells x0 x1 x2 x3 x4 p0 p1 (below_new w3 (.cells #[.int .i64 (p:Int),.int .i64 ((p:Int)+1)] 3))
 go_region_held3 (fun w'=>w'.cell? ⟨w.heap.size,0,none⟩=some (.int .i64 m.ver)∧w'.cell? ⟨w.heap.size,1,none⟩=some (.int .i64 m.idx)∧w'.cell? ⟨w.heap.size,2,none⟩=some (.int .i64 m.term)∧w'.cell? ⟨w.heap.size,3,none⟩=some (.int .i64 m.kind)∧w'.cell? ⟨w.heap.size,4,none⟩=some (.int .i64 m.void)∧w'.cell? ⟨g2,0,none⟩=some (.int .i64 (p:Int))∧w'.cell? ⟨g2,1,none⟩=some (.int .i64 ((p:Int)+1))) (first | exact⟨x0,x1,x2,x3,x4,p0,p1⟩ | exact SX | exact S4 | exact S5 | exact S6) (first
  | (go_at_call 110;(first | (with_reducible refine(HS.out w3).mono ?_) | (with_reducible refine(HS.out w3.drew).mono ?_));rintro e w4 ⟨g,cap,rfl,hz,hg,hgl,hb4⟩;have hb4':Below w3.heap.size w3 w4:=(by first | exact hb4 | exact undrew hb4);have S4:=lay_cells x0 x1 x2 x3 x4 p0 p1 hb4';have S5:=lay_cells x0 x1 x2 x3 x4 p0 p1 (hb4'.trans ((below_new w4 (.cells #[.int .i64 (p:Int),.int .i64 ((p:Int)+1)] 3)).mono hb4'.size));have LA:=qh (lay_a (p:=p) B3.out hz hg hgl hb4');clear hz hg hgl hb4 hb4')
  | (go_at_call 110;(first | (with_reducible refine(HS.out (w3.alloc (.cells #[.int .i64 (p:Int),.int .i64 ((p:Int)+1)] 3))).mono ?_) | (with_reducible refine(HS.out (w3.alloc (.cells #[.int .i64 (p:Int),.int .i64 ((p:Int)+1)] 3)).drew).mono ?_));rintro e w4 ⟨g,cap,rfl,hz,hg,hgl,hb4⟩;have hb4':Below (w3.alloc (.cells #[.int .i64 (p:Int),.int .i64 ((p:Int)+1)] 3)).heap.size (w3.alloc (.cells #[.int .i64 (p:Int),.int .i64 ((p:Int)+1)] 3)) w4:=(by first | exact hb4 | exact undrew hb4);have S4:=lay_cells x0 x1 x2 x3 x4 p0 p1 ((below_new w3 (.cells #[.int .i64 (p:Int),.int .i64 ((p:Int)+1)] 3)).trans (hb4'.mono (below_new w3 (.cells #[.int .i64 (p:Int),.int .i64 ((p:Int)+1)] 3)).size));have LB:=qh (lay_b (p:=p) B3.out hz hg hgl hb4');clear hz hg hgl hb4 hb4')
  | (go_at_call 109;(first | (with_reducible refine(HSt.out _ g cap _ LA.out).mono ?_) | (with_reducible refine(HSt.out _ g cap _ LA.out.drew).mono ?_) | (with_reducible refine(HSt.out _ g cap _ LB.out).mono ?_) | (with_reducible refine(HSt.out _ g cap _ LB.out.drew).mono ?_));rintro e w5 ⟨tv,xv,rfl,hv,hb5,hbl⟩;have SF:=qh (And.intro hv hbl);have S6:=(by first | exact cells7 hb5 S5 | exact cells7 hb5 S4);clear hv hb5 hbl)
  | fail)
 all_goals
  go_wp2_with fail
  go_ret
  exact⟨tv,xv,rfl,SF.out.1,by first | exact SF.out.2 | exact SF.out.2.drew⟩
theorem klayFrom_nil (κ:SenK) (hD:GlD δ w) (hG:GlK κ w):
 Calls Tryz.prog 72 #[.pointer none,.int .i64 2,noMark.val] w fun e w2=> ∃t x,e= .returned (.iface t x)∧KErr κ 1 (.iface t x)∧Below w.heap.size w w2:=by
 have hbx:=below_new w (.cells #[.int .i64 0,.int .i64 0,.int .i64 0,.int .i64 0,.int .i64 0] 26)
 have hB:=BlockIs.made w 26 #[.int .i64 0,.int .i64 0,.int .i64 0,.int .i64 0,.int .i64 0]
 obtain⟨w1,hw1⟩: ∃w1,w.alloc (.cells #[.int .i64 0,.int .i64 0,.int .i64 0,.int .i64 0,.int .i64 0] 26)=w1:=⟨_,rfl⟩
 rw [hw1]at hbx hB
 have HL1:=qh (klay_nil κ (hD.below hbx) (hG.below hbx) 2 (.inl rfl) noMark noMark_right)
 rw [show noMark.val= .agg #[.int .i64 0,.int .i64 0,.int .i64 0,.int .i64 0,.int .i64 0]from rfl]at HL1 ⊢
 have Hbx:=qh hbx
 have Hw1:=qh hw1
 obtain⟨⟨c0,c1,c2,c3,c4⟩,_⟩:=cells_five hB
 clear hbx hB hw1 hD hG
 go_enter Tryz.func72,Tryz.ntmps72
 rw [← Hw1.out]at c0 c1 c2 c3 c4
 go_wp2_with fail
 rw [Hw1.out]
 refine HL1.out.mono ?_
 rintro e w2 ⟨tv,xv,rfl,hv,hb⟩
 have S2:=qh (And.intro hv (Hbx.out.trans (hb.mono Hbx.out.size)))
 clear hv hb HL1 c0 c1 c2 c3 c4
 go_wp2_with fail
 go_ret
 exact⟨_,_,rfl,S2.out.1,S2.out.2⟩
theorem kformat_nil (κ:SenK) (hD:GlD δ w) (hG:GlK κ w):
 Calls Tryz.prog 31 #[.pointer none] w fun e w2=>e= .returned (.int .i64 1)∧Below w.heap.size w w2:=by
 have HL:=qh (klayFrom_nil κ hD hG)
 have HG:=qh hG
 rw [show noMark.val= .agg #[.int .i64 0,.int .i64 0,.int .i64 0,.int .i64 0,.int .i64 0]from rfl]at HL
 clear hD hG
 go_enter Tryz.func31,Tryz.ntmps31
 go_wp2_with fail
 refine HL.out.mono ?_
 rintro e w2 ⟨tv,xv,rfl,hv,hb⟩
 have HE:=qh (kerrno_any κ w2 (HG.out.below hb) _ _ hv)
 have B2:=qh hb
 clear hv hb HL
 go_wp2_with fail
 refine HE.out.mono ?_
 rintro e w3 ⟨rfl,hb3⟩
 have B3:=qh (B2.out.trans (hb3.mono B2.out.size))
 clear hb3
 go_wp2_with fail
 go_ret
 exact⟨rfl,B3.out⟩
theorem kput_nil (κ:SenK) (hD:GlD δ w) (hG:GlK κ w):
 Calls Tryz.prog 32 #[.pointer none,.int .i64 2,noMark.val] w fun e w2=>e= .returned (.int .i64 1)∧Below w.heap.size w w2:=by
 have hbx:=below_new w (.cells #[.int .i64 0,.int .i64 0,.int .i64 0,.int .i64 0,.int .i64 0] 26)
 have HB:=qh (BlockIs.made w 26 #[.int .i64 0,.int .i64 0,.int .i64 0,.int .i64 0,.int .i64 0])
 have HR:=qh (fun w=>kright_any w noMark)
 rw [decide_eq_true noMark_right]at HR
 have HL:=qh (fun W (hb:Below w.heap.size w W)=>klay_nil κ (hD.below hb) (hG.below hb) 2 (.inl rfl) noMark noMark_right)
 have HG:=qh hG
 have Hbx:=qh hbx
 rw [show noMark.val= .agg #[.int .i64 0,.int .i64 0,.int .i64 0,.int .i64 0,.int .i64 0]from rfl]at HR HL ⊢
 clear hbx hD hG
 go_enter Tryz.func32,Tryz.ntmps32
 go_wp2_with fail
 refine(HR.out _).mono ?_
 rintro e w2 ⟨rfl,hb2⟩
 have B2:=qh (Hbx.out.trans (hb2.mono Hbx.out.size))
 obtain⟨⟨c0,c1,c2,c3,c4⟩,_⟩:=cells_five (HB.out.below hb2 HB.out.lt)
 have HL2:=qh (HL.out w2 B2.out)
 clear hb2 HL
 go_wp2_with fail
 refine HL2.out.mono ?_
 rintro e w3 ⟨tv,xv,rfl,hv,hb⟩
 have B3:=qh (B2.out.trans (hb.mono B2.out.size))
 have HE:=qh (kerrno_any κ w3 (HG.out.below B3.out) _ _ hv)
 clear hv hb HL2 c0 c1 c2 c3 c4
 go_wp2_with fail
 refine HE.out.mono ?_
 rintro e w4 ⟨rfl,hb4⟩
 have B4:=qh (B3.out.trans (hb4.mono B3.out.size))
 clear hb4
 go_wp2_with fail
 go_ret
 exact⟨rfl,B4.out⟩
theorem kdamaged_nil (κ:SenK) (hD:GlD δ w) (hG:GlK κ w) (g:Nat) (hB:BlockIs w g 27 #[.int .i64 2,.int .i64 3]):
 Calls Tryz.prog 63 #[.pointer none,.slice (some ⟨g,0,none⟩) 2 2] w fun e w'=>e= .returned (.slice none 0 0)∧Below w.heap.size w w':=by
 have HL:=qh (klook_nil κ hD hG 2 (.inl rfl))
 have c0:w.cell? ⟨g,0,none⟩=some (.int .i64 2):=hB.cell 0
 clear hD hG hB
 go_enter Tryz.func63,Tryz.ntmps63
 go_wp2_with fail
 refine wp_loop_rounds 3 ?_
 rw [rounds_succ]
 go_wp2_with fail
 refine HL.out.mono ?_
 rintro e w2 ⟨tv,xv,rfl,hv,hb⟩
 have B2:=qh hb
 clear hv hb HL c0
 go_wp2_with fail
 go_ret
 exact⟨rfl,B2.out⟩
theorem kDamaged_nil (κ:SenK) (hD:GlD δ w) (hG:GlK κ w):
 Calls Tryz.prog 22 #[.pointer none] w fun e w'=>e= .returned (.slice none 0 0)∧Below w.heap.size w w':=by
 have hb:=below_new w (.cells #[.int .i64 2,.int .i64 3] 27)
 have HD:=qh (kdamaged_nil κ (hD.below hb) (hG.below hb) w.heap.size (BlockIs.made w 27 #[.int .i64 2,.int .i64 3]))
 have Hb:=qh hb
 clear hD hG hb
 go_enter Tryz.func22,Tryz.ntmps22
 go_wp2_with fail
 refine HD.out.mono ?_
 rintro e w2 ⟨rfl,hb2⟩
 have Ho:=qh (Hb.out.trans (hb2.mono Hb.out.size))
 clear hb2 HD
 go_wp2_with fail
 go_ret
 exact⟨rfl,Ho.out⟩
end
end Go.Proofs.YtpaikolnampcfaaGreatDoor
