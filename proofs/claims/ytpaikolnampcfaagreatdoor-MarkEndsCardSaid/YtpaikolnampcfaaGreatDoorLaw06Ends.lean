/- MarkEnds: the closed law's walk. -/
import Derived.Test.YtpaikolnampcfaaGreatDoorLaw06Tells
import Derived.Test.YtpaikolnampcfaaGreatDoorLaw06Does
import Derived.Test.YtpaikolnampcfaaGreatDoorRef6BlockG
import Derived.Test.YtpaikolnampcfaaGreatDoorMarkNilB
namespace Go.Proofs.YtpaikolnampcfaaGreatDoor
set_option maxRecDepth 100000
set_option maxHeartbeats 32000000
open Go.RowKit
def endsL :List Int:= [-1,0,1,3,4,1099511627776,1099511627777]
theorem ends_bd (i:Nat): -9223372036854775808≤endsL.getD i 0∧endsL.getD i 0≤9223372036854775807:=by
 rcases i with _ | _ | _ | _ | _ | _ | _ | i<;>simp [endsL]<;>omega
theorem ends_cell {w:World} {g i:Nat} (h:BlockIs w g 3 #[.int .i64 (-1),.int .i64 0,.int .i64 1,.int .i64 3,.int .i64 4,.int .i64 1099511627776,.int .i64 1099511627777]) (hi:i < 7):w.cell? ⟨g,i,none⟩=some (.int .i64 (endsL.getD i 0)):=by
 rw [h.cell i]
 obtain rfl | rfl | rfl | rfl | rfl | rfl | rfl:i=0∨i=1∨i=2∨i=3∨i=4∨i=5∨i=6:=by omega
 all_goals rfl
structure Mid6 (w:World) (gm:Nat) (ms:Array Value) (wx:World):Prop where
 bl:Below w.heap.size w wx
 ends:BlockIs wx w.heap.size 3 #[.int .i64 (-1),.int .i64 0,.int .i64 1,.int .i64 3,.int .i64 4,.int .i64 1099511627776,.int .i64 1099511627777]
 mark:BlockIs wx gm 26 ms
theorem Mid6.below {w wx w2:World} {gm:Nat} {ms:Array Value} (h:Mid6 w gm ms wx) (hb:Below wx.heap.size wx w2):Mid6 w gm ms w2:=⟨h.bl.trans (hb.mono h.bl.size),h.ends.below hb h.ends.lt,h.mark.below hb h.mark.lt⟩
theorem TellB.below {w w2:World} {v:Value} (h:TellB w v) (hb:Below w.heap.size w w2):TellB w2 v:=by
 obtain⟨X,bs,cap,h1,h2,h3⟩:=h.ex
 exact⟨X,bs,cap,h1,h2.below hb,h3⟩
theorem wfK_bd {k:Int} (h: -9223372036854775808≤k∧k≤9223372036854775807):wfK k:=by
 have h1:IntKind.i64.min= -9223372036854775808:=by decide
 have h2:IntKind.i64.max=9223372036854775807:=by decide
 unfold wfK
 simp [Lit.wf]
 omega
theorem deed_ok (w:World) (what k:Int) (m:MarkV) (n torn part:Int) (hk:wfK k) (hn:n≤9223372036854775807):DeedK.ok w ⟨what,k,m,n,torn,part,none,[],0⟩:=
 ⟨BytesAt.nil _ _,fun _=>rfl,Nat.zero_le _,hn,hk,fun h=>absurd rfl h⟩
theorem deed_okB {w:World} {what n torn part:Int} {m:MarkV} {A:Option Addr} {b:List Int} {c:Nat} (hb:BytesAt w A b) (h0:A=none→c=0) (hl:b.length≤256) (hn:n≤9223372036854775807):DeedK.ok w ⟨what,0,m,n,torn,part,A,b,c⟩:=
 ⟨hb,h0,Nat.le_trans hl (by decide),hn,(show wfK 0 from wfK_bd (by decide)),fun hne a e=>by
  obtain⟨b',off,e2,hc⟩:=hb.2 hne
  obtain rfl:=Option.some.inj (e.symm.trans e2)
  exact World.block_lt_of_cell? _ _ (hc 0 (List.length_pos_iff.2 hne))⟩
theorem body_at (w:World) (zs:List Int) (h: ∀z∈zs,0≤z∧z < 256) (n:Nat):BytesAt (w.alloc (.cells (u8s zs).toArray 5)) (some ⟨w.heap.size,0,none⟩) (zs.take n):=by
 refine bytesAt_cells (fun z hz=>h z (List.mem_of_mem_take hz)) (fun i hi=> ?_)
 rw [World.cell?_alloc_new,Nat.zero_add,List.getElem?_toArray]
 rw [List.length_take]at hi
 unfold u8s
 rw [List.getElem?_map,List.getD_eq_getElem?_getD,List.getElem?_take_of_lt (by omega),List.getElem?_eq_getElem (by omega)];rfl
theorem deeds_lit (w:World) (l:List DeedK) (hok: ∀x∈l,x.ok w):DeedsAt6 (w.alloc (.cells (l.flatMap DeedK.cells).toArray 46)) (some ⟨w.heap.size,0,none⟩) l:=
 ⟨fun x hx=>(hok x hx).below (below_new _ _),fun _=>⟨w.heap.size,0,rfl,fun i x hx j v hv=>by
  have hi:i < l.length:=(List.getElem?_eq_some_iff.1 hx).1
  have hj:j < 11:=(List.getElem?_eq_some_iff.1 hv).1
  rw [World.cell?_alloc_new,Nat.zero_add,List.getElem?_toArray,flat_at DeedK.cells 11 (fun _ _=>rfl) hi hj]
  rw [List.getElem?_eq_getElem hi]at hx
  rw [Option.some.inj hx]
  exact hv⟩⟩
theorem tmod_nat (q m:Nat):Int.tmod (q:Int) (m:Int)=((q % m:Nat):Int):=rfl
theorem tdiv_nat (q m:Nat):Int.tdiv (q:Int) (m:Int)=((q / m:Nat):Int):=rfl
theorem markEnds_any (σ:Sen) (τ:SenU) (δ:SenD) (κ:SenK) (w:World) (hC:GlAt σ w) (hU:GlU τ w) (hD:GlD δ w) (hS:GlS δ w) (hK:GlK κ w):
 Calls Tryz.prog 5 #[] w fun e w'=>e= .returned (.bool true)∧Below w.heap.size w w':=by
 have hG0:Gls σ τ δ κ w:=⟨hC,hU,hD,hS,hK⟩
 have HT:=qh (fun W (h:Below w.heap.size w W) m k hw A b c hb hbc hm hA0=>let g:=hG0.below h;markTells_any σ τ δ κ W g.c g.u g.d g.s g.k m k hw A b c hb hbc hm hA0)
 have HDo:=qh (fun W (h:Below w.heap.size w W) blocks A l c hl=>let g:=hG0.below h;markDoes_any σ τ δ κ W g.c g.u g.d g.s g.k blocks A l c hl)
 have HG:=qh hG0
 have hbE:=below_new w (.cells #[.int .i64 (-1),.int .i64 0,.int .i64 1,.int .i64 3,.int .i64 4,.int .i64 1099511627776,.int .i64 1099511627777] 3)
 have HE:=qh (And.intro hbE (BlockIs.made w 3 #[.int .i64 (-1),.int .i64 0,.int .i64 1,.int .i64 3,.int .i64 4,.int .i64 1099511627776,.int .i64 1099511627777]))
 clear hC hU hD hS hK hG0 hbE
 go_enter Tryz.func5,Tryz.ntmps5
 go_wp2_with fail
 go_loopg [2] 2401 (fun gk i wx=> ∃(q:Nat),gk=2401 - q∧q≤2401∧i= .int .i64 (q:Int)∧Hid (Below w.heap.size w wx∧BlockIs wx w.heap.size 3 #[.int .i64 (-1),.int .i64 0,.int .i64 1,.int .i64 3,.int .i64 4,.int .i64 1099511627776,.int .i64 1099511627777]))
 case atStart=>exact⟨0,rfl,Nat.zero_le _,rfl,HE⟩
 case round=>
  obtain⟨q,hgk,hq,rfl,hT⟩:=hrel
  have Hgk:=qh hgk
  clear hgk HE
  by_cases hlt:q < 2401
  · have hqi:(q:Int) < 2401:=by omega
    obtain⟨r2,hr2⟩: ∃a,q / 7=a:=⟨_,rfl⟩
    obtain⟨r3,hr3⟩: ∃a,q / 49=a:=⟨_,rfl⟩
    obtain⟨r5,hr5⟩: ∃a,q * 3=a:=⟨_,rfl⟩
    obtain⟨a1,ha1⟩: ∃a,q % 7=a:=⟨_,rfl⟩
    obtain⟨a2,ha2⟩: ∃a,r2 % 7=a:=⟨_,rfl⟩
    obtain⟨a3,ha3⟩: ∃a,r3 % 7=a:=⟨_,rfl⟩
    obtain⟨a4,ha4⟩: ∃a,q / 343=a:=⟨_,rfl⟩
    obtain⟨a5,ha5⟩: ∃a,r5 % 7=a:=⟨_,rfl⟩
    have HC:=qh (fun i (hi:i < 7)=>ends_cell hT.out.2 hi)
    have HX:=qh ends_bd
    have k1:=HC.out a1 (by omega)
    have k2:=HC.out a2 (by omega)
    have k3:=HC.out a3 (by omega)
    have k4:=HC.out a4 (by omega)
    have k5:=HC.out a5 (by omega)
    have HM:=qh (show ∀z∈ [endsL.getD a1 0,endsL.getD a2 0,endsL.getD a3 0,endsL.getD a4 0,endsL.getD a5 0], -9223372036854775808≤z∧z≤9223372036854775807 from by simp only [List.mem_cons,List.not_mem_nil,or_false];rintro z (rfl | rfl | rfl | rfl | rfl)<;>exact ends_bd _)
    generalize endsL.getD a1 0=x1 at k1 HM
    generalize endsL.getD a2 0=x2 at k2 HM
    generalize endsL.getD a3 0=x3 at k3 HM
    generalize endsL.getD a4 0=x4 at k4 HM
    generalize endsL.getD a5 0=x5 at k5 HM
    have n1:(0:Int)≤(a1:Int)∧(a1:Int) < 7:=by omega
    have n2:(0:Int)≤(a2:Int)∧(a2:Int) < 7:=by omega
    have n3:(0:Int)≤(a3:Int)∧(a3:Int) < 7:=by omega
    have n4:(0:Int)≤(a4:Int)∧(a4:Int) < 7:=by omega
    have n5:(0:Int)≤(a5:Int)∧(a5:Int) < 7:=by omega
    have f2:IntKind.i64.wrap ((q:Int) / 7)=(r2:Int):=by rw [← hr2,IntWalk.i64_in _ (by omega)];omega
    have f3:IntKind.i64.wrap ((q:Int) / 49)=(r3:Int):=by rw [← hr3,IntWalk.i64_in _ (by omega)];omega
    have f4:IntKind.i64.wrap ((q:Int) / 343)=(a4:Int):=by rw [← ha4,IntWalk.i64_in _ (by omega)];omega
    have f5:IntKind.i64.wrap ((q:Int) * 3)=(r5:Int):=by rw [IntWalk.i64_in _ (by omega)];omega
    have g1:Int.tmod (q:Int) 7=(a1:Int):=by rw [← ha1];rfl
    have g2:Int.tmod (r2:Int) 7=(a2:Int):=by rw [← ha2];rfl
    have g3:Int.tmod (r3:Int) 7=(a3:Int):=by rw [← ha3];rfl
    have g5:Int.tmod (r5:Int) 7=(a5:Int):=by rw [← ha5];rfl
    clear ha1 ha2 ha3 ha4 ha5 hr2 hr3 hr5
    go_wp2_with fail
    go_region_held3 (fun w'=>w'.cell? ⟨w.heap.size,a1,none⟩=some (.int .i64 x1)∧w'.cell? ⟨w.heap.size,a2,none⟩=some (.int .i64 x2)∧w'.cell? ⟨w.heap.size,a3,none⟩=some (.int .i64 x3)∧w'.cell? ⟨w.heap.size,a4,none⟩=some (.int .i64 x4)∧w'.cell? ⟨w.heap.size,a5,none⟩=some (.int .i64 x5)) (first | exact⟨k1,k2,k3,k4,k5⟩ | go_keep) (fail)
    have hbm:=below_new wr (.cells #[.int .i64 x1,.int .i64 x2,.int .i64 x3,.int .i64 x4,.int .i64 x5] 26)
    have V1:=qh (show Mid6 w wr.heap.size #[.int .i64 x1,.int .i64 x2,.int .i64 x3,.int .i64 x4,.int .i64 x5] (wr.alloc (.cells #[.int .i64 x1,.int .i64 x2,.int .i64 x3,.int .i64 x4,.int .i64 x5] 26)).drew from⟨(hT.out.1.trans (hbm.mono hT.out.1.size)).drew,hT.out.2.below hbm.drew hT.out.2.lt,BlockIs.made wr 26 #[.int .i64 x1,.int .i64 x2,.int .i64 x3,.int .i64 x4,.int .i64 x5]⟩)
    have HBk:=qh (fun W k'=>rblock_gen W k' ⟨x1,x2,x3,x4,x5⟩ HM.out)
    unfold MarkV.val at HBk
    simp only at HBk
    clear k1 k2 k3 k4 k5 n1 n2 n3 n4 n5 f2 f3 f4 f5 g1 g2 g3 g5 hbm hT HC HX
    generalize (wr.alloc (.cells #[.int .i64 x1,.int .i64 x2,.int .i64 x3,.int .i64 x4,.int .i64 x5] 26)).drew=w1 at V1 ⊢
    generalize wr.heap.size=gm at V1 ⊢
    obtain⟨⟨c0,c1,c2,c3,c4⟩,_⟩:=cells_five V1.out.mark
    go_wp2_with fail
    refine(HBk.out _ _).mono ?_
    rintro e w2 ⟨v,rfl,ht,hb2⟩
    obtain⟨X,bs,cap,rfl,hz,hc,hcm,hXn,_⟩:=ht.ex
    have V2:=qh (V1.out.below hb2)
    have HB2:=qh (show BytesAt w2 X bs∧bs.length≤cap∧cap≤9223372036854775807∧(X=none→cap=0)from⟨hz,hc,hcm,hXn⟩)
    clear ht hb2 hz hc hcm hXn c0 c1 c2 c3 c4 V1
    by_cases h3:q % 3=1
    · have h3i:(q:Int) % 3=1:=by omega
      have h3b:((q:Int) % 3==1)=true:=by rw [h3i];rfl
      have hzb: ∀z∈([(q:Int) % 2,0,0,0,0,(q:Int) % 5 / 4,1,0,0,0,0,0,(q:Int) % 5,0,0,0,0,0,(q:Int) % 7 / 6,0,0]:List Int),0≤z∧z < 256:=by
       intro z hz
       simp only [List.mem_cons,List.not_mem_nil,or_false]at hz
       omega
      have hb0:=below_new w2 (.cells #[.int .u8 ((q:Int) % 2),.int .u8 0,.int .u8 0,.int .u8 0,.int .u8 0,.int .u8 ((q:Int) % 5 / 4),.int .u8 1,.int .u8 0,.int .u8 0,.int .u8 0,.int .u8 0,.int .u8 0,.int .u8 ((q:Int) % 5),.int .u8 0,.int .u8 0,.int .u8 0,.int .u8 0,.int .u8 0,.int .u8 ((q:Int) % 7 / 6),.int .u8 0,.int .u8 0] 5)
      have hB0:BytesAt (w2.alloc (.cells #[.int .u8 ((q:Int) % 2),.int .u8 0,.int .u8 0,.int .u8 0,.int .u8 0,.int .u8 ((q:Int) % 5 / 4),.int .u8 1,.int .u8 0,.int .u8 0,.int .u8 0,.int .u8 0,.int .u8 0,.int .u8 ((q:Int) % 5),.int .u8 0,.int .u8 0,.int .u8 0,.int .u8 0,.int .u8 0,.int .u8 ((q:Int) % 7 / 6),.int .u8 0,.int .u8 0] 5)) (some ⟨w2.heap.size,0,none⟩) (([(q:Int) % 2,0,0,0,0,(q:Int) % 5 / 4,1,0,0,0,0,0,(q:Int) % 5,0,0,0,0,0,(q:Int) % 7 / 6,0,0]:List Int).take (17+q % 5)):=body_at w2 ([(q:Int) % 2,0,0,0,0,(q:Int) % 5 / 4,1,0,0,0,0,0,(q:Int) % 5,0,0,0,0,0,(q:Int) % 7 / 6,0,0]:List Int) hzb _
      have hl0:(([(q:Int) % 2,0,0,0,0,(q:Int) % 5 / 4,1,0,0,0,0,0,(q:Int) % 5,0,0,0,0,0,(q:Int) % 7 / 6,0,0]:List Int).take (17+q % 5)).length=17+q % 5:=by rw [List.length_take];show min (17+q % 5) 21=_;omega
      have hS0:=rseal_gen _ ((q:Int) % 6+1) 5 _ _ 21 hB0 (by omega) (by decide)
      rw [hl0]at hS0
      have V3:=qh (V2.out.below hb0)
      have HS0:=qh hS0
      obtain⟨w3,hw3⟩: ∃w3,w2.alloc (.cells #[.int .u8 ((q:Int) % 2),.int .u8 0,.int .u8 0,.int .u8 0,.int .u8 0,.int .u8 ((q:Int) % 5 / 4),.int .u8 1,.int .u8 0,.int .u8 0,.int .u8 0,.int .u8 0,.int .u8 0,.int .u8 ((q:Int) % 5),.int .u8 0,.int .u8 0,.int .u8 0,.int .u8 0,.int .u8 0,.int .u8 ((q:Int) % 7 / 6),.int .u8 0,.int .u8 0] 5)=w3:=⟨_,rfl⟩
      rw [hw3]at V3 HS0
      have Hw3:=qh hw3
      clear hzb hb0 hB0 hl0 hS0 hw3 HB2
      go_wp2_with fail
      rw [Hw3.out]
      refine HS0.out.mono ?_
      rintro e w5 ⟨v,xx,rfl,ht,hb5⟩
      obtain⟨X,bs,cap,rfl,hz,hc,hcm,hXn,_⟩:=ht.ex
      have V5:=qh (V3.out.below hb5)
      have HB5:=qh (show BytesAt w5 X bs∧bs.length≤cap∧cap≤9223372036854775807∧(X=none→cap=0)from⟨hz,hc,hcm,hXn⟩)
      clear ht hb5 hz hc hcm hXn HS0 V3
      have HT2:=qh (HT.out w5 V5.out.bl ⟨x1,x2,x3,x4,x5⟩ ((q:Int) % 9) (wfK_bd (by omega)) X bs cap HB5.out.1 HB5.out.2.1 HB5.out.2.2.1 HB5.out.2.2.2)
      unfold MarkV.val at HT2
      obtain⟨⟨c0,c1,c2,c3,c4⟩,_⟩:=cells_five V5.out.mark
      go_wp2_with fail
      refine HT2.out.mono ?_
      rintro e w13 ⟨rfl,hb3⟩
      have V13:=qh (V5.out.below hb3)
      have HB13:=qh (HB5.out.1.below hb3)
      have HT3:=qh (HT.out w13 V13.out.bl ⟨x1,x2,x3,x4,x5⟩ ((q:Int) % 6+1) (wfK_bd (by omega)) X bs cap HB13.out HB5.out.2.1 HB5.out.2.2.1 HB5.out.2.2.2)
      unfold MarkV.val at HT3
      clear hb3 HT2 c0 c1 c2 c3 c4
      obtain⟨⟨c0,c1,c2,c3,c4⟩,_⟩:=cells_five V13.out.mark
      go_wp2_with fail
      refine HT3.out.mono ?_
      rintro e w14 ⟨rfl,hb4⟩
      have V14:=qh (V13.out.below hb4)
      clear hb4 HT3 c0 c1 c2 c3 c4 HB13
      by_cases h9:q % 9=0
      · exact absurd h9 (by omega)
      · have h9i: ¬(q:Int) % 9=0:=by omega
        have h9b:((q:Int) % 9==0)=false:=beq_eq_false_iff_ne.2 h9i
        go_wp2_with fail
        go_roundg (2401 - (q+1))
        case measure=>rw [Hgk.out];omega
        case rel=>exact⟨q+1,rfl,by omega,by go_num,qh ⟨V14.out.bl,V14.out.ends⟩⟩
    · have h3i: ¬(q:Int) % 3=1:=by omega
      have h3b:((q:Int) % 3==1)=false:=beq_eq_false_iff_ne.2 h3i
      have HT2:=qh (HT.out w2 V2.out.bl ⟨x1,x2,x3,x4,x5⟩ ((q:Int) % 9) (wfK_bd (by omega)) X bs cap HB2.out.1 HB2.out.2.1 HB2.out.2.2.1 HB2.out.2.2.2)
      unfold MarkV.val at HT2
      obtain⟨⟨c0,c1,c2,c3,c4⟩,_⟩:=cells_five V2.out.mark
      go_wp2_with fail
      refine HT2.out.mono ?_
      rintro e w13 ⟨rfl,hb3⟩
      have V13:=qh (V2.out.below hb3)
      have HB13:=qh (HB2.out.1.below hb3)
      have HT3:=qh (HT.out w13 V13.out.bl ⟨x1,x2,x3,x4,x5⟩ ((q:Int) % 6+1) (wfK_bd (by omega)) X bs cap HB13.out HB2.out.2.1 HB2.out.2.2.1 HB2.out.2.2.2)
      unfold MarkV.val at HT3
      clear hb3 HT2 c0 c1 c2 c3 c4
      obtain⟨⟨c0,c1,c2,c3,c4⟩,_⟩:=cells_five V13.out.mark
      go_wp2_with fail
      refine HT3.out.mono ?_
      rintro e w14 ⟨rfl,hb4⟩
      have V14:=qh (V13.out.below hb4)
      clear hb4 HT3 c0 c1 c2 c3 c4 HB13
      by_cases h9:q % 9=0
      · have h9i:(q:Int) % 9=0:=by omega
        obtain⟨⟨c0,c1,c2,c3,c4⟩,_⟩:=cells_five V14.out.mark
        have hwk:wfK ((q:Int) % 6+1):=wfK_bd (by omega)
        have hdl:=deeds_lit w14 [⟨0,0,⟨0,0,0,0,0⟩,0,0,0,none,[],0⟩,⟨1,((q:Int) % 6+1),⟨x1,x2,x3,x4,x5⟩,0,0,0,none,[],0⟩,⟨3,((q:Int) % 6+1),⟨0,0,0,0,0⟩,0,0,0,none,[],0⟩,⟨4,((q:Int) % 6+1),⟨0,0,0,0,0⟩,0,0,0,none,[],0⟩] (by
         simp only [List.mem_cons,List.not_mem_nil,or_false]
         rintro x (rfl | rfl | rfl | rfl)
         · exact deed_ok w14 _ _ _ _ _ _ (wfK_bd (by decide)) (by decide)
         · exact deed_ok w14 _ _ _ _ _ _ hwk (by decide)
         · exact deed_ok w14 _ _ _ _ _ _ hwk (by decide)
         · exact deed_ok w14 _ _ _ _ _ _ hwk (by decide))
        have hbd:=below_new w14 (.cells (([⟨0,0,⟨0,0,0,0,0⟩,0,0,0,none,[],0⟩,⟨1,((q:Int) % 6+1),⟨x1,x2,x3,x4,x5⟩,0,0,0,none,[],0⟩,⟨3,((q:Int) % 6+1),⟨0,0,0,0,0⟩,0,0,0,none,[],0⟩,⟨4,((q:Int) % 6+1),⟨0,0,0,0,0⟩,0,0,0,none,[],0⟩]:List DeedK).flatMap DeedK.cells).toArray 46)
        have HD4:=qh (HDo.out _ (V14.out.bl.trans (hbd.mono V14.out.bl.size)) 6 _ _ 4 hdl)
        have V15:=qh (V14.out.below hbd)
        clear hdl hbd hwk
        go_wp2_with fail
        refine HD4.out.mono ?_
        rintro e w16 ⟨rfl,hb5⟩
        have V16:=qh (V15.out.below hb5)
        clear hb5 HD4 V15 c0 c1 c2 c3 c4
        go_wp2_with fail
        go_roundg (2401 - (q+1))
        case measure=>rw [Hgk.out];omega
        case rel=>exact⟨q+1,rfl,by omega,by go_num,qh ⟨V16.out.bl,V16.out.ends⟩⟩
      · have h9i: ¬(q:Int) % 9=0:=by omega
        have h9b:((q:Int) % 9==0)=false:=beq_eq_false_iff_ne.2 h9i
        go_wp2_with fail
        go_roundg (2401 - (q+1))
        case measure=>rw [Hgk.out];omega
        case rel=>exact⟨q+1,rfl,by omega,by go_num,qh ⟨V14.out.bl,V14.out.ends⟩⟩
  · obtain rfl:q=2401:=by omega
    go_wp2_with fail
    go_loopg [7] 50 (fun gk2 i2 wx2=> ∃(n:Nat),gk2=50 - n∧n≤50∧i2= .int .i64 (n:Int)∧Hid (Below w.heap.size w wx2))
    case atStart=>exact⟨0,rfl,Nat.zero_le _,rfl,qh hT.out.1⟩
    case round=>
     obtain⟨n,hgn,hn,rfl,hV⟩:=hrel
     have Hgn:=qh hgn
     clear hgn hT
     by_cases hl2:n < 50
     · have hni:(n:Int) < 50:=by omega
       have V1:=qh (hV.out.trans ((below_new wr (.cells #[.int .i64 2,.int .i64 3] 27)).mono hV.out.size))
       have f20:IntKind.i64.wrap ((n:Int) / 20)=(n:Int) / 20:=IntWalk.i64_in _ (by omega)
       have f10:IntKind.i64.wrap ((n:Int) / 10)=(n:Int) / 10:=IntWalk.i64_in _ (by omega)
       clear hV
       have cK:(wr.alloc (.cells #[.int .i64 2,.int .i64 3] 27)).cell? ⟨wr.heap.size,n % 2,none⟩=some (.int .i64 ((n:Int) % 2+2)):=by
        have hB:=BlockIs.made wr 27 #[.int .i64 2,.int .i64 3]
        obtain h | h:n % 2=0∨n % 2=1:=by omega
        · rw [h,show(n:Int) % 2=0 by omega];exact hB.cell 0
        · rw [h,show(n:Int) % 2=1 by omega];exact hB.cell 1
       have i2:Int.tmod (n:Int) 2=((n % 2:Nat):Int):=rfl
       have i2l:((n % 2:Nat):Int) < 2:=by omega
       by_cases h5:n % 5 < 4
       · have h5i:(n:Int) % 5 < 4:=by omega
         by_cases h10:n / 10 < 4
         · have h10i:(n:Int) / 10 < 4:=by omega
           have HX:=qh (rblock_gen (wr.alloc (.cells #[.int .i64 2,.int .i64 3] 27)) ((n:Int) % 2+2) ⟨(n:Int) % 5 / 2,1+(n:Int) % 5,0,1,0⟩ (by simp only [List.mem_cons,List.not_mem_nil,or_false];rintro z (rfl | rfl | rfl | rfl | rfl)<;>omega))
           unfold MarkV.val at HX
           go_wp2_with fail
           refine HX.out.mono ?_
           rintro e w2 ⟨v,rfl,ht,hb⟩
           obtain⟨X,bx,cx,rfl,hz,_,_,hXn,hl⟩:=ht.ex
           have V2:=qh (V1.out.trans (hb.mono V1.out.size))
           have QX:=qh (show BytesAt w2 X bx∧(X=none→cx=0)∧bx.length≤256 from⟨hz,hXn,hl⟩)
           clear ht hb hz hXn hl HX V1
           have HX:=qh (rblock_gen (w2) ((n:Int) % 2+2) ⟨(n:Int) / 20,9+(n:Int) / 10,0,2,0⟩ (by simp only [List.mem_cons,List.not_mem_nil,or_false];rintro z (rfl | rfl | rfl | rfl | rfl)<;>omega))
           unfold MarkV.val at HX
           go_wp2_with fail
           refine HX.out.mono ?_
           rintro e w3 ⟨v,rfl,ht,hb⟩
           obtain⟨Y,yb,cy,rfl,hz,_,_,hXn,hl⟩:=ht.ex
           have V3:=qh (V2.out.trans (hb.mono V2.out.size))
           have QY:=qh (show BytesAt w3 Y yb∧(Y=none→cy=0)∧yb.length≤256 from⟨hz,hXn,hl⟩)
           have QX:=qh (show BytesAt w3 X bx∧(X=none→cx=0)∧bx.length≤256 from⟨QX.out.1.below hb,QX.out.2⟩)
           clear ht hb hz hXn hl HX V2
           have hdl:=deeds_lit (w3) [⟨9,0,⟨0,0,0,0,0⟩,(2+2 * ((n:Int) % 2)),0,0,X,bx,cx⟩,⟨9,0,⟨0,0,0,0,0⟩,(2+2 * ((n:Int) % 2)+1),0,0,Y,yb,cy⟩,⟨3,((n:Int) % 2+2),⟨0,0,0,0,0⟩,0,0,0,none,[],0⟩,⟨4,((n:Int) % 2+2),⟨0,0,0,0,0⟩,0,0,0,none,[],0⟩,⟨5,0,⟨0,0,0,0,0⟩,((n:Int) % 6),0,0,none,[],0⟩,⟨2,((n:Int) % 2+2),⟨7,0,0,0,0⟩,0,0,0,none,[],0⟩,⟨6,0,⟨0,0,0,0,0⟩,(n:Int),((n:Int) % 4),(n:Int),none,[],0⟩,⟨4,((n:Int) % 2+2),⟨0,0,0,0,0⟩,0,0,0,none,[],0⟩,⟨3,9,⟨0,0,0,0,0⟩,0,0,0,none,[],0⟩] (by
            simp only [List.mem_cons,List.not_mem_nil,or_false]
            rintro x (rfl | rfl | rfl | rfl | rfl | rfl | rfl | rfl | rfl)
            · exact deed_okB QX.out.1 QX.out.2.1 QX.out.2.2 (by omega)
            · exact deed_okB QY.out.1 QY.out.2.1 QY.out.2.2 (by omega)
            · exact deed_ok _ _ _ _ _ _ _ (wfK_bd (by omega)) (by omega)
            · exact deed_ok _ _ _ _ _ _ _ (wfK_bd (by omega)) (by omega)
            · exact deed_ok _ _ _ _ _ _ _ (wfK_bd (by omega)) (by omega)
            · exact deed_ok _ _ _ _ _ _ _ (wfK_bd (by omega)) (by omega)
            · exact deed_ok _ _ _ _ _ _ _ (wfK_bd (by omega)) (by omega)
            · exact deed_ok _ _ _ _ _ _ _ (wfK_bd (by omega)) (by omega)
            · exact deed_ok _ _ _ _ _ _ _ (wfK_bd (by omega)) (by omega))
           have hbd:=below_new (w3) (.cells (([⟨9,0,⟨0,0,0,0,0⟩,(2+2 * ((n:Int) % 2)),0,0,X,bx,cx⟩,⟨9,0,⟨0,0,0,0,0⟩,(2+2 * ((n:Int) % 2)+1),0,0,Y,yb,cy⟩,⟨3,((n:Int) % 2+2),⟨0,0,0,0,0⟩,0,0,0,none,[],0⟩,⟨4,((n:Int) % 2+2),⟨0,0,0,0,0⟩,0,0,0,none,[],0⟩,⟨5,0,⟨0,0,0,0,0⟩,((n:Int) % 6),0,0,none,[],0⟩,⟨2,((n:Int) % 2+2),⟨7,0,0,0,0⟩,0,0,0,none,[],0⟩,⟨6,0,⟨0,0,0,0,0⟩,(n:Int),((n:Int) % 4),(n:Int),none,[],0⟩,⟨4,((n:Int) % 2+2),⟨0,0,0,0,0⟩,0,0,0,none,[],0⟩,⟨3,9,⟨0,0,0,0,0⟩,0,0,0,none,[],0⟩]:List DeedK).flatMap DeedK.cells).toArray 46)
           have V4:=qh (V3.out.trans (hbd.mono V3.out.size))
           have HD:=qh (HDo.out _ V4.out (6+(n:Int) % 3) _ _ 9 hdl)
           clear hdl hbd V3 QX QY
           go_wp2_with fail
           refine HD.out.mono ?_
           rintro e w5 ⟨rfl,hb⟩
           have V5:=qh (V4.out.trans (hb.mono V4.out.size))
           clear hb HD V4
           have hdl:=deeds_lit w5 [⟨0,0,⟨0,0,0,0,0⟩,0,0,0,none,[],0⟩,⟨3,((n:Int) % 2+2),⟨0,0,0,0,0⟩,0,0,0,none,[],0⟩,⟨4,((n:Int) % 2+2),⟨0,0,0,0,0⟩,0,0,0,none,[],0⟩,⟨1,((n:Int) % 2+2),⟨0,0,0,0,0⟩,0,0,0,none,[],0⟩] (by
            simp only [List.mem_cons,List.not_mem_nil,or_false]
            rintro x (rfl | rfl | rfl | rfl)<;>exact deed_ok _ _ _ _ _ _ _ (wfK_bd (by omega)) (by omega))
           have hbd:=below_new w5 (.cells (([⟨0,0,⟨0,0,0,0,0⟩,0,0,0,none,[],0⟩,⟨3,((n:Int) % 2+2),⟨0,0,0,0,0⟩,0,0,0,none,[],0⟩,⟨4,((n:Int) % 2+2),⟨0,0,0,0,0⟩,0,0,0,none,[],0⟩,⟨1,((n:Int) % 2+2),⟨0,0,0,0,0⟩,0,0,0,none,[],0⟩]:List DeedK).flatMap DeedK.cells).toArray 46)
           have V6:=qh (V5.out.trans (hbd.mono V5.out.size))
           have HD:=qh (HDo.out _ V6.out (1+(n:Int) % 6) _ _ 4 hdl)
           clear hdl hbd V5
           go_wp2_with fail
           refine HD.out.mono ?_
           rintro e w7 ⟨rfl,hb⟩
           have V7:=qh (V6.out.trans (hb.mono V6.out.size))
           clear hb HD V6
           go_wp2_with fail
           go_roundg (50 - (n+1))
           case measure=>rw [Hgn.out];omega
           case rel=>exact⟨n+1,rfl,by omega,by go_num,V7⟩
         · have h10i: ¬(n:Int) / 10 < 4:=by omega
           have HX:=qh (rblock_gen (wr.alloc (.cells #[.int .i64 2,.int .i64 3] 27)) ((n:Int) % 2+2) ⟨(n:Int) % 5 / 2,1+(n:Int) % 5,0,1,0⟩ (by simp only [List.mem_cons,List.not_mem_nil,or_false];rintro z (rfl | rfl | rfl | rfl | rfl)<;>omega))
           unfold MarkV.val at HX
           go_wp2_with fail
           refine HX.out.mono ?_
           rintro e w2 ⟨v,rfl,ht,hb⟩
           obtain⟨X,bx,cx,rfl,hz,_,_,hXn,hl⟩:=ht.ex
           have V2:=qh (V1.out.trans (hb.mono V1.out.size))
           have QX:=qh (show BytesAt w2 X bx∧(X=none→cx=0)∧bx.length≤256 from⟨hz,hXn,hl⟩)
           clear ht hb hz hXn hl HX V1
           have hdl:=deeds_lit (w2) [⟨9,0,⟨0,0,0,0,0⟩,(2+2 * ((n:Int) % 2)),0,0,X,bx,cx⟩,⟨9,0,⟨0,0,0,0,0⟩,(2+2 * ((n:Int) % 2)+1),0,0,none,[],0⟩,⟨3,((n:Int) % 2+2),⟨0,0,0,0,0⟩,0,0,0,none,[],0⟩,⟨4,((n:Int) % 2+2),⟨0,0,0,0,0⟩,0,0,0,none,[],0⟩,⟨5,0,⟨0,0,0,0,0⟩,((n:Int) % 6),0,0,none,[],0⟩,⟨2,((n:Int) % 2+2),⟨7,0,0,0,0⟩,0,0,0,none,[],0⟩,⟨6,0,⟨0,0,0,0,0⟩,(n:Int),((n:Int) % 4),(n:Int),none,[],0⟩,⟨4,((n:Int) % 2+2),⟨0,0,0,0,0⟩,0,0,0,none,[],0⟩,⟨3,9,⟨0,0,0,0,0⟩,0,0,0,none,[],0⟩] (by
            simp only [List.mem_cons,List.not_mem_nil,or_false]
            rintro x (rfl | rfl | rfl | rfl | rfl | rfl | rfl | rfl | rfl)
            · exact deed_okB QX.out.1 QX.out.2.1 QX.out.2.2 (by omega)
            · exact deed_ok _ _ _ _ _ _ _ (wfK_bd (by omega)) (by omega)
            · exact deed_ok _ _ _ _ _ _ _ (wfK_bd (by omega)) (by omega)
            · exact deed_ok _ _ _ _ _ _ _ (wfK_bd (by omega)) (by omega)
            · exact deed_ok _ _ _ _ _ _ _ (wfK_bd (by omega)) (by omega)
            · exact deed_ok _ _ _ _ _ _ _ (wfK_bd (by omega)) (by omega)
            · exact deed_ok _ _ _ _ _ _ _ (wfK_bd (by omega)) (by omega)
            · exact deed_ok _ _ _ _ _ _ _ (wfK_bd (by omega)) (by omega)
            · exact deed_ok _ _ _ _ _ _ _ (wfK_bd (by omega)) (by omega))
           have hbd:=below_new (w2) (.cells (([⟨9,0,⟨0,0,0,0,0⟩,(2+2 * ((n:Int) % 2)),0,0,X,bx,cx⟩,⟨9,0,⟨0,0,0,0,0⟩,(2+2 * ((n:Int) % 2)+1),0,0,none,[],0⟩,⟨3,((n:Int) % 2+2),⟨0,0,0,0,0⟩,0,0,0,none,[],0⟩,⟨4,((n:Int) % 2+2),⟨0,0,0,0,0⟩,0,0,0,none,[],0⟩,⟨5,0,⟨0,0,0,0,0⟩,((n:Int) % 6),0,0,none,[],0⟩,⟨2,((n:Int) % 2+2),⟨7,0,0,0,0⟩,0,0,0,none,[],0⟩,⟨6,0,⟨0,0,0,0,0⟩,(n:Int),((n:Int) % 4),(n:Int),none,[],0⟩,⟨4,((n:Int) % 2+2),⟨0,0,0,0,0⟩,0,0,0,none,[],0⟩,⟨3,9,⟨0,0,0,0,0⟩,0,0,0,none,[],0⟩]:List DeedK).flatMap DeedK.cells).toArray 46)
           have V4:=qh (V2.out.trans (hbd.mono V2.out.size))
           have HD:=qh (HDo.out _ V4.out (6+(n:Int) % 3) _ _ 9 hdl)
           clear hdl hbd V2 QX
           go_wp2_with fail
           refine HD.out.mono ?_
           rintro e w5 ⟨rfl,hb⟩
           have V5:=qh (V4.out.trans (hb.mono V4.out.size))
           clear hb HD V4
           have hdl:=deeds_lit w5 [⟨0,0,⟨0,0,0,0,0⟩,0,0,0,none,[],0⟩,⟨3,((n:Int) % 2+2),⟨0,0,0,0,0⟩,0,0,0,none,[],0⟩,⟨4,((n:Int) % 2+2),⟨0,0,0,0,0⟩,0,0,0,none,[],0⟩,⟨1,((n:Int) % 2+2),⟨0,0,0,0,0⟩,0,0,0,none,[],0⟩] (by
            simp only [List.mem_cons,List.not_mem_nil,or_false]
            rintro x (rfl | rfl | rfl | rfl)<;>exact deed_ok _ _ _ _ _ _ _ (wfK_bd (by omega)) (by omega))
           have hbd:=below_new w5 (.cells (([⟨0,0,⟨0,0,0,0,0⟩,0,0,0,none,[],0⟩,⟨3,((n:Int) % 2+2),⟨0,0,0,0,0⟩,0,0,0,none,[],0⟩,⟨4,((n:Int) % 2+2),⟨0,0,0,0,0⟩,0,0,0,none,[],0⟩,⟨1,((n:Int) % 2+2),⟨0,0,0,0,0⟩,0,0,0,none,[],0⟩]:List DeedK).flatMap DeedK.cells).toArray 46)
           have V6:=qh (V5.out.trans (hbd.mono V5.out.size))
           have HD:=qh (HDo.out _ V6.out (1+(n:Int) % 6) _ _ 4 hdl)
           clear hdl hbd V5
           go_wp2_with fail
           refine HD.out.mono ?_
           rintro e w7 ⟨rfl,hb⟩
           have V7:=qh (V6.out.trans (hb.mono V6.out.size))
           clear hb HD V6
           go_wp2_with fail
           go_roundg (50 - (n+1))
           case measure=>rw [Hgn.out];omega
           case rel=>exact⟨n+1,rfl,by omega,by go_num,V7⟩
       · have h5i: ¬(n:Int) % 5 < 4:=by omega
         by_cases h10:n / 10 < 4
         · have h10i:(n:Int) / 10 < 4:=by omega
           have HX:=qh (rblock_gen (wr.alloc (.cells #[.int .i64 2,.int .i64 3] 27)) ((n:Int) % 2+2) ⟨(n:Int) / 20,9+(n:Int) / 10,0,2,0⟩ (by simp only [List.mem_cons,List.not_mem_nil,or_false];rintro z (rfl | rfl | rfl | rfl | rfl)<;>omega))
           unfold MarkV.val at HX
           go_wp2_with fail
           refine HX.out.mono ?_
           rintro e w3 ⟨v,rfl,ht,hb⟩
           obtain⟨Y,yb,cy,rfl,hz,_,_,hXn,hl⟩:=ht.ex
           have V3:=qh (V1.out.trans (hb.mono V1.out.size))
           have QY:=qh (show BytesAt w3 Y yb∧(Y=none→cy=0)∧yb.length≤256 from⟨hz,hXn,hl⟩)
           clear ht hb hz hXn hl HX V1
           have hdl:=deeds_lit (w3) [⟨9,0,⟨0,0,0,0,0⟩,(2+2 * ((n:Int) % 2)),0,0,none,[],0⟩,⟨9,0,⟨0,0,0,0,0⟩,(2+2 * ((n:Int) % 2)+1),0,0,Y,yb,cy⟩,⟨3,((n:Int) % 2+2),⟨0,0,0,0,0⟩,0,0,0,none,[],0⟩,⟨4,((n:Int) % 2+2),⟨0,0,0,0,0⟩,0,0,0,none,[],0⟩,⟨5,0,⟨0,0,0,0,0⟩,((n:Int) % 6),0,0,none,[],0⟩,⟨2,((n:Int) % 2+2),⟨7,0,0,0,0⟩,0,0,0,none,[],0⟩,⟨6,0,⟨0,0,0,0,0⟩,(n:Int),((n:Int) % 4),(n:Int),none,[],0⟩,⟨4,((n:Int) % 2+2),⟨0,0,0,0,0⟩,0,0,0,none,[],0⟩,⟨3,9,⟨0,0,0,0,0⟩,0,0,0,none,[],0⟩] (by
            simp only [List.mem_cons,List.not_mem_nil,or_false]
            rintro x (rfl | rfl | rfl | rfl | rfl | rfl | rfl | rfl | rfl)
            · exact deed_ok _ _ _ _ _ _ _ (wfK_bd (by omega)) (by omega)
            · exact deed_okB QY.out.1 QY.out.2.1 QY.out.2.2 (by omega)
            · exact deed_ok _ _ _ _ _ _ _ (wfK_bd (by omega)) (by omega)
            · exact deed_ok _ _ _ _ _ _ _ (wfK_bd (by omega)) (by omega)
            · exact deed_ok _ _ _ _ _ _ _ (wfK_bd (by omega)) (by omega)
            · exact deed_ok _ _ _ _ _ _ _ (wfK_bd (by omega)) (by omega)
            · exact deed_ok _ _ _ _ _ _ _ (wfK_bd (by omega)) (by omega)
            · exact deed_ok _ _ _ _ _ _ _ (wfK_bd (by omega)) (by omega)
            · exact deed_ok _ _ _ _ _ _ _ (wfK_bd (by omega)) (by omega))
           have hbd:=below_new (w3) (.cells (([⟨9,0,⟨0,0,0,0,0⟩,(2+2 * ((n:Int) % 2)),0,0,none,[],0⟩,⟨9,0,⟨0,0,0,0,0⟩,(2+2 * ((n:Int) % 2)+1),0,0,Y,yb,cy⟩,⟨3,((n:Int) % 2+2),⟨0,0,0,0,0⟩,0,0,0,none,[],0⟩,⟨4,((n:Int) % 2+2),⟨0,0,0,0,0⟩,0,0,0,none,[],0⟩,⟨5,0,⟨0,0,0,0,0⟩,((n:Int) % 6),0,0,none,[],0⟩,⟨2,((n:Int) % 2+2),⟨7,0,0,0,0⟩,0,0,0,none,[],0⟩,⟨6,0,⟨0,0,0,0,0⟩,(n:Int),((n:Int) % 4),(n:Int),none,[],0⟩,⟨4,((n:Int) % 2+2),⟨0,0,0,0,0⟩,0,0,0,none,[],0⟩,⟨3,9,⟨0,0,0,0,0⟩,0,0,0,none,[],0⟩]:List DeedK).flatMap DeedK.cells).toArray 46)
           have V4:=qh (V3.out.trans (hbd.mono V3.out.size))
           have HD:=qh (HDo.out _ V4.out (6+(n:Int) % 3) _ _ 9 hdl)
           clear hdl hbd V3 QY
           go_wp2_with fail
           refine HD.out.mono ?_
           rintro e w5 ⟨rfl,hb⟩
           have V5:=qh (V4.out.trans (hb.mono V4.out.size))
           clear hb HD V4
           have hdl:=deeds_lit w5 [⟨0,0,⟨0,0,0,0,0⟩,0,0,0,none,[],0⟩,⟨3,((n:Int) % 2+2),⟨0,0,0,0,0⟩,0,0,0,none,[],0⟩,⟨4,((n:Int) % 2+2),⟨0,0,0,0,0⟩,0,0,0,none,[],0⟩,⟨1,((n:Int) % 2+2),⟨0,0,0,0,0⟩,0,0,0,none,[],0⟩] (by
            simp only [List.mem_cons,List.not_mem_nil,or_false]
            rintro x (rfl | rfl | rfl | rfl)<;>exact deed_ok _ _ _ _ _ _ _ (wfK_bd (by omega)) (by omega))
           have hbd:=below_new w5 (.cells (([⟨0,0,⟨0,0,0,0,0⟩,0,0,0,none,[],0⟩,⟨3,((n:Int) % 2+2),⟨0,0,0,0,0⟩,0,0,0,none,[],0⟩,⟨4,((n:Int) % 2+2),⟨0,0,0,0,0⟩,0,0,0,none,[],0⟩,⟨1,((n:Int) % 2+2),⟨0,0,0,0,0⟩,0,0,0,none,[],0⟩]:List DeedK).flatMap DeedK.cells).toArray 46)
           have V6:=qh (V5.out.trans (hbd.mono V5.out.size))
           have HD:=qh (HDo.out _ V6.out (1+(n:Int) % 6) _ _ 4 hdl)
           clear hdl hbd V5
           go_wp2_with fail
           refine HD.out.mono ?_
           rintro e w7 ⟨rfl,hb⟩
           have V7:=qh (V6.out.trans (hb.mono V6.out.size))
           clear hb HD V6
           go_wp2_with fail
           go_roundg (50 - (n+1))
           case measure=>rw [Hgn.out];omega
           case rel=>exact⟨n+1,rfl,by omega,by go_num,V7⟩
         · have h10i: ¬(n:Int) / 10 < 4:=by omega
           have hdl:=deeds_lit (wr.alloc (.cells #[.int .i64 2,.int .i64 3] 27)) [⟨9,0,⟨0,0,0,0,0⟩,(2+2 * ((n:Int) % 2)),0,0,none,[],0⟩,⟨9,0,⟨0,0,0,0,0⟩,(2+2 * ((n:Int) % 2)+1),0,0,none,[],0⟩,⟨3,((n:Int) % 2+2),⟨0,0,0,0,0⟩,0,0,0,none,[],0⟩,⟨4,((n:Int) % 2+2),⟨0,0,0,0,0⟩,0,0,0,none,[],0⟩,⟨5,0,⟨0,0,0,0,0⟩,((n:Int) % 6),0,0,none,[],0⟩,⟨2,((n:Int) % 2+2),⟨7,0,0,0,0⟩,0,0,0,none,[],0⟩,⟨6,0,⟨0,0,0,0,0⟩,(n:Int),((n:Int) % 4),(n:Int),none,[],0⟩,⟨4,((n:Int) % 2+2),⟨0,0,0,0,0⟩,0,0,0,none,[],0⟩,⟨3,9,⟨0,0,0,0,0⟩,0,0,0,none,[],0⟩] (by
            simp only [List.mem_cons,List.not_mem_nil,or_false]
            rintro x (rfl | rfl | rfl | rfl | rfl | rfl | rfl | rfl | rfl)
            · exact deed_ok _ _ _ _ _ _ _ (wfK_bd (by omega)) (by omega)
            · exact deed_ok _ _ _ _ _ _ _ (wfK_bd (by omega)) (by omega)
            · exact deed_ok _ _ _ _ _ _ _ (wfK_bd (by omega)) (by omega)
            · exact deed_ok _ _ _ _ _ _ _ (wfK_bd (by omega)) (by omega)
            · exact deed_ok _ _ _ _ _ _ _ (wfK_bd (by omega)) (by omega)
            · exact deed_ok _ _ _ _ _ _ _ (wfK_bd (by omega)) (by omega)
            · exact deed_ok _ _ _ _ _ _ _ (wfK_bd (by omega)) (by omega)
            · exact deed_ok _ _ _ _ _ _ _ (wfK_bd (by omega)) (by omega)
            · exact deed_ok _ _ _ _ _ _ _ (wfK_bd (by omega)) (by omega))
           have hbd:=below_new (wr.alloc (.cells #[.int .i64 2,.int .i64 3] 27)) (.cells (([⟨9,0,⟨0,0,0,0,0⟩,(2+2 * ((n:Int) % 2)),0,0,none,[],0⟩,⟨9,0,⟨0,0,0,0,0⟩,(2+2 * ((n:Int) % 2)+1),0,0,none,[],0⟩,⟨3,((n:Int) % 2+2),⟨0,0,0,0,0⟩,0,0,0,none,[],0⟩,⟨4,((n:Int) % 2+2),⟨0,0,0,0,0⟩,0,0,0,none,[],0⟩,⟨5,0,⟨0,0,0,0,0⟩,((n:Int) % 6),0,0,none,[],0⟩,⟨2,((n:Int) % 2+2),⟨7,0,0,0,0⟩,0,0,0,none,[],0⟩,⟨6,0,⟨0,0,0,0,0⟩,(n:Int),((n:Int) % 4),(n:Int),none,[],0⟩,⟨4,((n:Int) % 2+2),⟨0,0,0,0,0⟩,0,0,0,none,[],0⟩,⟨3,9,⟨0,0,0,0,0⟩,0,0,0,none,[],0⟩]:List DeedK).flatMap DeedK.cells).toArray 46)
           have V4:=qh (V1.out.trans (hbd.mono V1.out.size))
           have HD:=qh (HDo.out _ V4.out (6+(n:Int) % 3) _ _ 9 hdl)
           rw [World.size_alloc]at HD
           clear hdl hbd V1
           go_wp2_with fail
           refine HD.out.mono ?_
           rintro e w5 ⟨rfl,hb⟩
           have V5:=qh (V4.out.trans (hb.mono V4.out.size))
           clear hb HD V4
           have hdl:=deeds_lit w5 [⟨0,0,⟨0,0,0,0,0⟩,0,0,0,none,[],0⟩,⟨3,((n:Int) % 2+2),⟨0,0,0,0,0⟩,0,0,0,none,[],0⟩,⟨4,((n:Int) % 2+2),⟨0,0,0,0,0⟩,0,0,0,none,[],0⟩,⟨1,((n:Int) % 2+2),⟨0,0,0,0,0⟩,0,0,0,none,[],0⟩] (by
            simp only [List.mem_cons,List.not_mem_nil,or_false]
            rintro x (rfl | rfl | rfl | rfl)<;>exact deed_ok _ _ _ _ _ _ _ (wfK_bd (by omega)) (by omega))
           have hbd:=below_new w5 (.cells (([⟨0,0,⟨0,0,0,0,0⟩,0,0,0,none,[],0⟩,⟨3,((n:Int) % 2+2),⟨0,0,0,0,0⟩,0,0,0,none,[],0⟩,⟨4,((n:Int) % 2+2),⟨0,0,0,0,0⟩,0,0,0,none,[],0⟩,⟨1,((n:Int) % 2+2),⟨0,0,0,0,0⟩,0,0,0,none,[],0⟩]:List DeedK).flatMap DeedK.cells).toArray 46)
           have V6:=qh (V5.out.trans (hbd.mono V5.out.size))
           have HD:=qh (HDo.out _ V6.out (1+(n:Int) % 6) _ _ 4 hdl)
           clear hdl hbd V5
           go_wp2_with fail
           refine HD.out.mono ?_
           rintro e w7 ⟨rfl,hb⟩
           have V7:=qh (V6.out.trans (hb.mono V6.out.size))
           clear hb HD V6
           go_wp2_with fail
           go_roundg (50 - (n+1))
           case measure=>rw [Hgn.out];omega
           case rel=>exact⟨n+1,rfl,by omega,by go_num,V7⟩
     · obtain rfl:n=50:=by omega
       have HGn:=qh (fun W (h:Below w.heap.size w W)=>let g:=HG.out.below h;kGet_nil κ g.d g.k 2 (.inl rfl))
       have HOn:=qh (fun W (h:Below w.heap.size w W)=>let g:=HG.out.below h;kOpen_nil κ g.d g.k 3 (.inr rfl))
       have HFn:=qh (fun W (h:Below w.heap.size w W)=>let g:=HG.out.below h;kformat_nil κ g.d g.k)
       have HPn:=qh (fun W (h:Below w.heap.size w W)=>let g:=HG.out.below h;kput_nil κ g.d g.k)
       have HDn:=qh (fun W (h:Below w.heap.size w W)=>let g:=HG.out.below h;kDamaged_nil κ g.d g.k)
       have HAw:=qh (fun W (h:Below w.heap.size w W)=>awake_any σ τ δ κ W (HG.out.below h))
       have C1:=qh (HGn.out _ hV.out)
       have hnm:noMark.val= .agg #[.int .i64 0,.int .i64 0,.int .i64 0,.int .i64 0,.int .i64 0]:=rfl
       rw [hnm]at C1
       clear HDo HT
       go_wp2_with fail
       refine C1.out.mono ?_
       rintro e w2 ⟨rfl,hb⟩
       have hb:=hb.trans ((below_new w2 (.cells #[.int .i64 0,.int .i64 0,.int .i64 0,.int .i64 0,.int .i64 0] 26)).mono hb.size)
       have V2:=qh (hV.out.trans (hb.mono hV.out.size))
       have C2:=qh (HOn.out _ V2.out)
       rw [hnm]at C2
       clear hb C1 hV
       go_wp2_with fail
       refine C2.out.mono ?_
       rintro e w3 ⟨rfl,hb⟩
       have hb:=hb.trans ((below_new w3 (.cells #[.int .i64 0,.int .i64 0,.int .i64 0,.int .i64 0,.int .i64 0] 26)).mono hb.size)
       have V3:=qh (V2.out.trans (hb.mono V2.out.size))
       have C3:=qh (HFn.out _ V3.out)
       clear hb C2 V2
       go_wp2_with fail
       refine C3.out.mono ?_
       rintro e w4 ⟨rfl,hb⟩
       have V4:=qh (V3.out.trans (hb.mono V3.out.size))
       have C4:=qh (HPn.out _ V4.out)
       rw [hnm]at C4
       clear hb C3 V3
       go_wp2_with fail
       refine C4.out.mono ?_
       rintro e w5 ⟨rfl,hb⟩
       have V5:=qh (V4.out.trans (hb.mono V4.out.size))
       have C5:=qh (HDn.out _ V5.out)
       clear hb C4 V4
       go_wp2_with fail
       refine C5.out.mono ?_
       rintro e w6 ⟨rfl,hb⟩
       have V6:=qh (V5.out.trans (hb.mono V5.out.size))
       have C6:=qh (HAw.out _ V6.out)
       clear hb C5 V5
       go_wp2_with fail
       refine C6.out.mono ?_
       rintro e w7 ⟨rfl,hb⟩
       have V7:=qh (V6.out.trans (hb.mono V6.out.size))
       clear hb C6 V6
       go_wp2_with fail
       go_ret
       exact⟨rfl,V7.out⟩
end Go.Proofs.YtpaikolnampcfaaGreatDoor
