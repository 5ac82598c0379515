/- MarkTells: the law's walk. -/
import Derived.Test.YtpaikolnampcfaaGreatDoorMarkOfs
import Derived.Test.YtpaikolnampcfaaGreatDoorLaw06Base
import Derived.Test.YtpaikolnampcfaaGreatDoorRefLeft
import Derived.Deep.RegionHeld3
namespace Go.Proofs.YtpaikolnampcfaaGreatDoor
set_option maxRecDepth 100000
set_option maxHeartbeats 4000000
open Go.RowKit
theorem lent_to6 {w w':World} {v:Value} {zs:List Int} (h:LentAt w v zs) (hb:Below w.heap.size w w'):LentAt w' v zs:=by
 obtain⟨g,cap,cs,rfl,h1,h2,h3,h4,h5⟩:=h
 exact⟨g,cap,cs,rfl,h1,h2,(hb.block g (Array.getElem?_eq_some_iff.1 h3).1).trans h3,h4,h5⟩
theorem lent_reads6 {w:World} {g cap:Nat} {zs:List Int} (h:LentAt w (.slice (some ⟨g,0,none⟩) zs.length cap) zs):BytesAt w (some ⟨g,0,none⟩) zs:=by
 obtain⟨g',cap',cs,e,h1,h2,h3,h4,h5⟩:=h
 obtain⟨rfl,rfl⟩:g=g'∧cap=cap':=by simpa using e
 refine bytesAt_cells h5 (fun i hi=> ?_)
 rw [cell_of_row _ _ _ _ _ _ h3,Nat.zero_add]
 have h6:(cs.toList.take (zs.length+12))[i]? =cs[i]? :=by
  rw [List.getElem?_take_of_lt (by omega)];simp
 rw [← h6,h4]
 unfold u8s
 rw [List.getElem?_map,List.getElem?_append_left hi,List.getD_eq_getElem?_getD,List.getElem?_eq_getElem hi];rfl
structure Tri (w2:World) (a b c:Nat) (ms xs:Array Value) (W:World):Prop where
 v:Below w2.heap.size w2 W
 m:BlockIs W a 26 ms
 x:BlockIs W b 26 xs
 y:BlockIs W c 26 xs
theorem Tri.below {w2 W W':World} {a b c:Nat} {ms xs:Array Value} (h:Tri w2 a b c ms xs W) (hb:Below W.heap.size W W'):Tri w2 a b c ms xs W':=
 ⟨h.v.trans (hb.mono h.v.size),h.m.below hb h.m.lt,h.x.below hb h.x.lt,h.y.below hb h.y.lt⟩
theorem Tri.drew {w2 W:World} {a b c:Nat} {ms xs:Array Value} (h:Tri w2 a b c ms xs W):Tri w2 a b c ms xs W.drew:=h.below (Below.refl _ _).drew
theorem markTells_any (σ:Sen) (τ:SenU) (δ:SenD) (κ:SenK) (w:World) (hC:GlAt σ w) (hU:GlU τ w) (hD:GlD δ w) (hS:GlS δ w) (hK:GlK κ w) (m:MarkV) (k:Int) (hw:wfK k) (A:Option Addr) (b:List Int) (c:Nat) (hb:BytesAt w A b) (hbc:b.length≤c) (hm:c≤9223372036854775807) (hA0:A=none→c=0):
 Calls Tryz.prog 3 #[m.val,.int .i64 k,.slice A b.length c] w fun e w'=>e= .returned (.bool true)∧Below w.heap.size w w':=by
 have HRk:=qh (fun W=>kright_any W m)
 have HRr:=qh (fun W=>rkright_any W m)
 have HKk:=qh (fun W=>known_any W m.idx m.term m.kind)
 have HKr:=qh (fun W=>rknown_any W m.idx m.term m.kind)
 obtain⟨rb,hrb⟩: ∃rb,decide m.right=rb:=⟨_,rfl⟩
 obtain⟨kb,hkb⟩: ∃kb,decide (knownI m.idx m.term m.kind)=kb:=⟨_,rfl⟩
 rw [hrb]at HRk HRr
 rw [hkb]at HKk HKr
 clear hrb hkb
 obtain⟨v1,i1,t1,k1,o1⟩:=m
 unfold MarkV.val at *
 unfold identV at *
 simp only at HRk HRr HKk HKr ⊢
 have hbn:=below_new w (.cells #[.int .i64 v1,.int .i64 i1,.int .i64 t1,.int .i64 k1,.int .i64 o1] 26)
 have hM0:=BlockIs.made w 26 #[.int .i64 v1,.int .i64 i1,.int .i64 t1,.int .i64 k1,.int .i64 o1]
 have hG0:Gls σ τ δ κ w:=⟨hC,hU,hD,hS,hK⟩
 have HG:=qh (hG0.below hbn)
 have HB:=qh (hb.below hbn)
 have HM0:=qh hM0
 have HB0:=qh hbn
 obtain⟨w1,hw1⟩: ∃w1,w.alloc (.cells #[.int .i64 v1,.int .i64 i1,.int .i64 t1,.int .i64 k1,.int .i64 o1] 26)=w1:=⟨_,rfl⟩
 rw [hw1]at HG HB HM0 HB0
 have Hw1:=qh hw1
 clear hC hU hD hS hK hb hbn hM0 hG0 hw1
 by_cases hlen:5000 < b.length
 · have hli:(5000:Int) < (b.length:Int):=by omega
   have HA:=qh (awake_any σ τ δ κ _ HG.out)
   clear hlen
   go_enter Tryz.func3,Tryz.ntmps3
   go_wp2_with fail
   rw [Hw1.out]
   refine HA.out.mono ?_
   rintro e w2 ⟨rfl,hb2⟩
   have B2:=qh (HB0.out.trans (hb2.mono HB0.out.size))
   clear hb2
   go_wp2_with fail
   go_ret
   exact⟨rfl,B2.out⟩
 · have hli: ¬(5000:Int) < (b.length:Int):=by omega
   have HLn:=qh (lentBytes_any b A c w1 HB.out (by omega) hA0)
   have HO:=qh (fun W A c hb hbc hm (hG:Gls σ τ δ κ W)=>kOf_any σ τ κ W hG.c hG.u hG.k k hw A b c hb hbc hm)
   have HR:=qh (fun W (h:Below w1.heap.size w1 W)=>rOf_any W k A b c (HB.out.below h) hbc (by omega))
   have Hc:=qh (show b.length≤c∧c≤9223372036854775807∧b.length≤5000 from⟨hbc,by omega,by omega⟩)
   obtain⟨r,hr⟩: ∃r,markB k b=r:=⟨_,rfl⟩
   rw [hr]at HO HR
   obtain⟨⟨v0,i0,t0,k0,o0⟩,en⟩:=r
   unfold MarkV.val at *
   simp only at HO HR
   have HAw:=qh (fun W (h:Below w1.heap.size w1 W)=>awake_any σ τ δ κ W (HG.out.below h))
   clear hbc hm hA0 hr hlen hw
   go_enter Tryz.func3,Tryz.ntmps3
   go_wp2_with fail
   rw [Hw1.out]
   refine HLn.out.mono ?_
   rintro e w2 ⟨v,rfl,hL,hb2⟩
   obtain⟨g,cap,cs,rfl,x1,x2,x3,x4,x5⟩:=hL
   have HL:=qh (show LentAt w2 (.slice (some ⟨g,0,none⟩) b.length cap) b from⟨g,cap,cs,rfl,x1,x2,x3,x4,x5⟩)
   have HZ:=lent_reads6 HL.out
   have HO2:=qh (HO.out w2 _ cap HZ (by omega) (by omega) (HG.out.below hb2))
   have HKp:=qh (fun W (hv:Below w2.heap.size w2 W)=>keptBytes_any b _ A c W (lent_to6 HL.out hv) (HB.out.below (hb2.trans (hv.mono hb2.size))) (by have:=Hc.out;omega))
   have B2:=qh hb2
   have M2:=qh (HM0.out.below hb2 HM0.out.lt)
   clear HLn HO HM0 hb2 x1 x2 x3 x4 x5 HZ
   go_wp2_with fail
   refine HO2.out.mono ?_
   rintro e w3 ⟨rfl,hb3⟩
   have hb4:=hb3.trans ((below_new w3 (.cells #[.int .i64 v0,.int .i64 i0,.int .i64 t0,.int .i64 k0,.int .i64 o0] 26)).mono hb3.size)
   have V4:=qh hb4
   have M4:=qh (M2.out.below hb4 M2.out.lt)
   have X4:=qh (BlockIs.made w3 26 #[.int .i64 v0,.int .i64 i0,.int .i64 t0,.int .i64 k0,.int .i64 o0])
   have HR4:=qh (HR.out _ (B2.out.trans (hb4.mono B2.out.size)))
   obtain⟨w4,hw4⟩: ∃w4,w3.alloc (.cells #[.int .i64 v0,.int .i64 i0,.int .i64 t0,.int .i64 k0,.int .i64 o0] 26)=w4:=⟨_,rfl⟩
   rw [hw4]at V4 M4 X4 HR4
   have Hw4:=qh hw4
   clear hb3 hb4 hw4 HO2 HR M2
   go_wp2_with fail
   rw [Hw4.out]
   refine HR4.out.mono ?_
   rintro e w5 ⟨rfl,hb5⟩
   have hb6:=hb5.trans ((below_new w5 (.cells #[.int .i64 v0,.int .i64 i0,.int .i64 t0,.int .i64 k0,.int .i64 o0] 26)).mono hb5.size)
   have V6:=qh (V4.out.trans (hb6.mono V4.out.size))
   have M6:=qh (M4.out.below hb6 M4.out.lt)
   have X6:=qh (X4.out.below hb6 X4.out.lt)
   have Y6:=qh (BlockIs.made w5 26 #[.int .i64 v0,.int .i64 i0,.int .i64 t0,.int .i64 k0,.int .i64 o0])
   obtain⟨w6,hw6⟩: ∃w6,w5.alloc (.cells #[.int .i64 v0,.int .i64 i0,.int .i64 t0,.int .i64 k0,.int .i64 o0] 26)=w6:=⟨_,rfl⟩
   rw [hw6]at V6 M6 X6 Y6
   have Hw6:=qh hw6
   clear hb5 hb6 hw6 HR4 V4 M4 X4
   go_wp2_with fail
   rw [Hw6.out]
   have V6:=qh (show Tri w2 w.heap.size w3.heap.size w5.heap.size #[.int .i64 v1,.int .i64 i1,.int .i64 t1,.int .i64 k1,.int .i64 o1] #[.int .i64 v0,.int .i64 i0,.int .i64 t0,.int .i64 k0,.int .i64 o0] w6 from⟨V6.out,M6.out,X6.out,Y6.out⟩)
   clear M6 X6 Y6
   have HBf:=qh (fun W (h:Below w1.heap.size w1 W)=>HB0.out.trans (h.mono HB0.out.size))
   clear HB0
   generalize hga:w.heap.size=ga at *
   have Hga:=qh hga
   clear hga
   generalize w3.heap.size=gb at *
   generalize w5.heap.size=gc at *
   obtain⟨⟨m0,m1,m2,m3,m4⟩,_⟩:=cells_five V6.out.m;obtain⟨⟨x0,x1,x2,x3,x4⟩,_⟩:=cells_five V6.out.x;obtain⟨⟨y0,y1,y2,y3,y4⟩,_⟩:=cells_five V6.out.y
   have hrr:(rb==rb)=true:=by simp
   have hkk:(kb==kb)=true:=by simp
   go_region_held3 (fun w'=>w'.cell? ⟨ga,0,none⟩=some (.int .i64 v1)∧w'.cell? ⟨ga,1,none⟩=some (.int .i64 i1)∧w'.cell? ⟨ga,2,none⟩=some (.int .i64 t1)∧w'.cell? ⟨ga,3,none⟩=some (.int .i64 k1)∧w'.cell? ⟨ga,4,none⟩=some (.int .i64 o1)∧w'.cell? ⟨gb,0,none⟩=some (.int .i64 v0)∧w'.cell? ⟨gb,1,none⟩=some (.int .i64 i0)∧w'.cell? ⟨gb,2,none⟩=some (.int .i64 t0)∧w'.cell? ⟨gb,3,none⟩=some (.int .i64 k0)∧w'.cell? ⟨gb,4,none⟩=some (.int .i64 o0)∧w'.cell? ⟨gc,0,none⟩=some (.int .i64 v0)∧w'.cell? ⟨gc,1,none⟩=some (.int .i64 i0)∧w'.cell? ⟨gc,2,none⟩=some (.int .i64 t0)∧w'.cell? ⟨gc,3,none⟩=some (.int .i64 k0)∧w'.cell? ⟨gc,4,none⟩=some (.int .i64 o0)) (exact⟨m0,m1,m2,m3,m4,x0,x1,x2,x3,x4,y0,y1,y2,y3,y4⟩) (first
    | (go_at_call 12;refine(HRk.out _).mono ?_;rintro e w7 ⟨rfl,hb⟩;have V7:=qh (show Tri w2 ga gb gc #[.int .i64 v1,.int .i64 i1,.int .i64 t1,.int .i64 k1,.int .i64 o1] #[.int .i64 v0,.int .i64 i0,.int .i64 t0,.int .i64 k0,.int .i64 o0] w7 from by first | exact V6.out.below hb | exact V6.out.drew.below hb);clear hb;clear m0 m1 m2 m3 m4 x0 x1 x2 x3 x4 y0 y1 y2 y3 y4;obtain⟨⟨m0,m1,m2,m3,m4⟩,_⟩:=cells_five V7.out.m;obtain⟨⟨x0,x1,x2,x3,x4⟩,_⟩:=cells_five V7.out.x;obtain⟨⟨y0,y1,y2,y3,y4⟩,_⟩:=cells_five V7.out.y)
    | (go_at_call 13;refine(HRr.out _).mono ?_;rintro e w8 ⟨rfl,hb⟩;have V8:=qh (show Tri w2 ga gb gc #[.int .i64 v1,.int .i64 i1,.int .i64 t1,.int .i64 k1,.int .i64 o1] #[.int .i64 v0,.int .i64 i0,.int .i64 t0,.int .i64 k0,.int .i64 o0] w8 from by first | exact V7.out.below hb | exact V7.out.drew.below hb);clear hb;clear m0 m1 m2 m3 m4 x0 x1 x2 x3 x4 y0 y1 y2 y3 y4;obtain⟨⟨m0,m1,m2,m3,m4⟩,_⟩:=cells_five V8.out.m;obtain⟨⟨x0,x1,x2,x3,x4⟩,_⟩:=cells_five V8.out.x;obtain⟨⟨y0,y1,y2,y3,y4⟩,_⟩:=cells_five V8.out.y)
    | (go_at_call 14;refine(HKk.out _).mono ?_;rintro e w9 ⟨rfl,hb⟩;have V9:=qh (show Tri w2 ga gb gc #[.int .i64 v1,.int .i64 i1,.int .i64 t1,.int .i64 k1,.int .i64 o1] #[.int .i64 v0,.int .i64 i0,.int .i64 t0,.int .i64 k0,.int .i64 o0] w9 from by first | exact V8.out.below hb | exact V8.out.drew.below hb);clear hb;clear m0 m1 m2 m3 m4 x0 x1 x2 x3 x4 y0 y1 y2 y3 y4;obtain⟨⟨m0,m1,m2,m3,m4⟩,_⟩:=cells_five V9.out.m;obtain⟨⟨x0,x1,x2,x3,x4⟩,_⟩:=cells_five V9.out.x;obtain⟨⟨y0,y1,y2,y3,y4⟩,_⟩:=cells_five V9.out.y)
    | (go_at_call 15;refine(HKr.out _).mono ?_;rintro e w10 ⟨rfl,hb⟩;have V10:=qh (show Tri w2 ga gb gc #[.int .i64 v1,.int .i64 i1,.int .i64 t1,.int .i64 k1,.int .i64 o1] #[.int .i64 v0,.int .i64 i0,.int .i64 t0,.int .i64 k0,.int .i64 o0] w10 from by first | exact V9.out.below hb | exact V9.out.drew.below hb);clear hb;clear m0 m1 m2 m3 m4 x0 x1 x2 x3 x4 y0 y1 y2 y3 y4;obtain⟨⟨m0,m1,m2,m3,m4⟩,_⟩:=cells_five V10.out.m;obtain⟨⟨x0,x1,x2,x3,x4⟩,_⟩:=cells_five V10.out.x;obtain⟨⟨y0,y1,y2,y3,y4⟩,_⟩:=cells_five V10.out.y)
    | (go_at_call 16;(first | refine(HKp.out _ V10.out.v).mono ?_ | refine(HKp.out _ V10.out.drew.v).mono ?_);rintro e w11 ⟨rfl,nk,hq⟩;have V11:=qh (show Tri w2 ga gb gc #[.int .i64 v1,.int .i64 i1,.int .i64 t1,.int .i64 k1,.int .i64 o1] #[.int .i64 v0,.int .i64 i0,.int .i64 t0,.int .i64 k0,.int .i64 o0] w11 from by first | exact V10.out.below (by rw [hq];exact drewN_below (Below.refl _ _) nk) | exact V10.out.drew.below (by rw [hq];exact drewN_below (Below.refl _ _) nk));clear hq;clear m0 m1 m2 m3 m4 x0 x1 x2 x3 x4 y0 y1 y2 y3 y4;obtain⟨⟨m0,m1,m2,m3,m4⟩,_⟩:=cells_five V11.out.m;obtain⟨⟨x0,x1,x2,x3,x4⟩,_⟩:=cells_five V11.out.x;obtain⟨⟨y0,y1,y2,y3,y4⟩,_⟩:=cells_five V11.out.y)
    | (go_at_call 8;(first | refine(HAw.out _ (B2.out.trans (V11.out.v.mono B2.out.size))).mono ?_ | refine(HAw.out _ (B2.out.trans (V11.out.drew.v.mono B2.out.size))).mono ?_);rintro e w12 ⟨rfl,hb⟩;have V12:=qh (show Tri w2 ga gb gc #[.int .i64 v1,.int .i64 i1,.int .i64 t1,.int .i64 k1,.int .i64 o1] #[.int .i64 v0,.int .i64 i0,.int .i64 t0,.int .i64 k0,.int .i64 o0] w12 from by first | exact V11.out.below hb | exact V11.out.drew.below hb);clear hb;clear m0 m1 m2 m3 m4 x0 x1 x2 x3 x4 y0 y1 y2 y3 y4;obtain⟨⟨m0,m1,m2,m3,m4⟩,_⟩:=cells_five V12.out.m;obtain⟨⟨x0,x1,x2,x3,x4⟩,_⟩:=cells_five V12.out.x;obtain⟨⟨y0,y1,y2,y3,y4⟩,_⟩:=cells_five V12.out.y))
   all_goals
    have B13:=qh (HBf.out _ (B2.out.trans (V12.out.v.mono B2.out.size)))
    go_wp2_with fail
    go_ret
    exact⟨rfl,by rw [Hga.out];first | exact B13.out | exact B13.out.drew⟩
end Go.Proofs.YtpaikolnampcfaaGreatDoor
