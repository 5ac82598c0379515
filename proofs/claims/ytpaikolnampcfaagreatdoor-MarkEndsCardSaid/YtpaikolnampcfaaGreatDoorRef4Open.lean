/- The page's own opening of a block, and As. -/
import Derived.Test.YtpaikolnampcfaaGreatDoorRefLeft
import Derived.Test.YtpaikolnampcfaaGreatDoorRef4SealW
import Derived.Test.YtpaikolnampcfaaGreatDoorUnitOpens
import Derived.Deep.RegionHeld3
import Derived.Deep.RegionLaw
import Derived.Laws.BytesArg
import Derived.Lib.Strings
namespace Go.Proofs.YtpaikolnampcfaaGreatDoor
set_option maxRecDepth 100000
set_option maxHeartbeats 16000000
open Go.RowKit
theorem strs_eq (xs ys:List Int) (hx: ∀z∈xs,0≤z∧z < 256) (hy: ∀z∈ys,0≤z∧z < 256):((strOfNums xs).toList==(strOfNums ys).toList)=sameB xs ys:=by
 rw [Lib.toList_data,Lib.toList_data,strOfNums_data,strOfNums_data]
 unfold sameB
 rw [Bool.eq_iff_iff,beq_iff_eq,decide_eq_true_iff]
 constructor
 · intro h
   have hl:=congrArg List.length h
   rw [List.length_map,List.length_map]at hl
   apply List.ext_getElem hl
   intro i h1 h2
   have h3:=congrArg (fun l=>l[i]?) h
   simp only [List.getElem?_map,List.getElem?_eq_getElem h1,List.getElem?_eq_getElem h2,Option.map_some,Option.some.injEq]at h3
   have h4:=congrArg UInt8.toNat h3
   have a1:=hx _ (List.getElem_mem h1)
   have a2:=hy _ (List.getElem_mem h2)
   rw [UInt8.toNat_ofNat_of_lt' (by show _ < 256;omega),UInt8.toNat_ofNat_of_lt' (by show _ < 256;omega)]at h4
   omega
 · rintro rfl;rfl
theorem openB_last {b:List Int} (h: ¬(b.length≠256∨b.getD 0 0 < 1∨8 < b.getD 0 0)) (hb: ∀z∈b,0≤z∧z < 256) (hf:fitsB b) (hn:unle ((b.drop 1).take 6)≤1099511627776) (h7:(b.getD 7 0).toNat≤239):
 (unitOf b).right∧openB b=if sealB (unitOf b)=b then(unitOf b,0)else(noUnit,4):=by
 have hl:b.length=256:=by omega
 have hr:(unitOf b).right:=by
  refine⟨?_,⟨?_,hn⟩,?_⟩
  · show 1≤b.getD 0 0∧b.getD 0 0≤8
    omega
  · exact(unle_bd _ (fun z hz=>hb z (List.mem_of_mem_drop (List.mem_of_mem_take hz)))).1
  · rw [unitOf_len hl];omega
 refine⟨hr,?_⟩
 unfold openB
 rw [if_neg h,if_neg (fun hn=>hn hf)]
 by_cases hs:sealB (unitOf b)=b
 · rw [if_pos ⟨hr,hs⟩,if_pos hs]
 · rw [if_neg (fun hn=>hs hn.2),if_neg hs]
theorem openB_much {b:List Int} (h: ¬(b.length≠256∨b.getD 0 0 < 1∨8 < b.getD 0 0)) (hf:fitsB b) (h7:239 < (b.getD 7 0).toNat):openB b=(noUnit,4):=openB_lack h hf (fun hk=>by have:=hk.1;omega)
theorem field_sum {b:List Int} (hb: ∀z∈b,0≤z∧z < 256) (hl:b.length=256):fieldR b 4 (.ok 28)=(unle ((b.drop 28).take 4),.ok 32)∧0≤unle ((b.drop 28).take 4)∧unle ((b.drop 28).take 4)≤4294967295:=by
 have h1:top 4=4294967295:=rfl
 have hu:=unle_bd ((b.drop 28).take 4) (fun z hz=>hb z (List.mem_of_mem_drop (List.mem_of_mem_take hz)))
 have h4:((b.drop 28).take 4).length=4:=by rw [List.length_take,List.length_drop,hl];rfl
 rw [h4]at hu
 have hu2:unle ((b.drop 28).take 4) < 4294967296:=hu.2
 refine⟨?_,hu.1,by omega⟩
 simp only [fieldR]
 rw [if_neg (by rw [h1,hl];omega),show(4:Int).toNat=4 from rfl,if_neg (by rw [h1];omega)]
theorem field_number {b:List Int} (hl:b.length=256):fieldR b 6 (.ok 1)=if 1099511627776 < unle ((b.drop 1).take 6)then(0,.bad 1 false)else(unle ((b.drop 1).take 6),.ok 7):=by
 have h1:top 6=1099511627776:=rfl
 simp only [fieldR]
 rw [if_neg (by rw [h1,hl];omega),show(6:Int).toNat=6 from rfl,h1]
theorem rr_new (w:World) (b0 off:Nat) (b:List Int) (c:Nat) (k:Nat) (hb:BytesAt w (some ⟨b0,off,none⟩) b) (hl:b.length=256) (hc:256≤c) (hm:c≤9223372036854775807) (hk:k≤256):
 RrAt w.heap.size (w.alloc (.cells #[.slice (some ⟨b0,off,none⟩) 256 c,.int .i64 (k:Int),.int .i64 0,.int .i64 0] 96)) w.heap.size b (.ok k):=by
 refine⟨some ⟨b0,off,none⟩,c,k,0,0,by rw [hl];exact BlockIs.made w _ _,hb.below (below_new w _),⟨by omega,hm⟩,fun _ a e=> ?_,Nat.le_refl _,(fun e=>by cases e),rfl,rfl,rfl,by omega⟩
 cases e
 exact World.block_lt_of_cell? _ _ (hb.one 0 (by omega))
structure UBox (w:World) (g q:Nat) (b:List Int) (s:RSt) (k n:Int) (X:Option Addr) (l cap:Nat) (wc:World):Prop where
 bx:BlockIs wc q 65 #[.int .i64 k,.int .i64 n,.slice X l cap]
 qr:BlockIs wc w.heap.size 65 #[.int .i64 0,.int .i64 0,.slice none 0 0]
 rd:RrAt (w.heap.size+1) wc g b s
 bl:Below w.heap.size w wc
 hq:w.heap.size < q∧q≠g∧w.heap.size < g
theorem UBox.below {w wc w':World} {g q:Nat} {b:List Int} {s:RSt} {k n:Int} {X:Option Addr} {l cap:Nat} (h:UBox w g q b s k n X l cap wc) (hb:Below wc.heap.size wc w'):UBox w g q b s k n X l cap w':=
 ⟨h.bx.below hb h.bx.lt,h.qr.below hb h.qr.lt,h.rd.below hb,h.bl.trans (hb.mono h.bl.size),h.hq⟩
theorem ubox_new {w w5:World} {g:Nat} {b:List Int} {s:RSt} (k n:Int) (hr:RrAt (w.heap.size+1) w5 g b s) (hq:BlockIs w5 w.heap.size 65 #[.int .i64 0,.int .i64 0,.slice none 0 0]) (hb:Below w.heap.size w w5) (hg:w.heap.size < g):UBox w g w5.heap.size b s k n none 0 0 (w5.alloc (.cells #[.int .i64 k,.int .i64 n,.slice none 0 0] 65)):=by
 have hn:=below_new w5 (.cells #[.int .i64 k,.int .i64 n,.slice none 0 0] 65)
 exact⟨BlockIs.made w5 _ _,hq.below hn hq.lt,hr.below hn,hb.trans (hn.mono hb.size),hq.lt,(Nat.ne_of_lt hr.lt).symm,hg⟩
theorem ubox_set {w w5:World} {g q:Nat} {b:List Int} {s:RSt} {k n:Int} {X:Option Addr} {l cap:Nat} (h:UBox w g q b s k n X l cap w5) (k' n':Int) (X':Option Addr) (l' cap':Nat):UBox w g q b s k' n' X' l' cap' (((w5.setCell ⟨q,0,none⟩ (.int .i64 k')).setCell ⟨q,1,none⟩ (.int .i64 n')).setCell ⟨q,2,none⟩ (.slice X' l' cap')):=by
 have hg:=grown_at (grown_at (grown_at (World.grownBy.refl w5 (some q)) 0 (.int .i64 k')) 1 (.int .i64 n')) 2 (.slice X' l' cap')
 exact⟨unit_set h.bx _ _ _,h.qr.kept hg (fun e=>by have:=Option.some.inj e;have:=h.hq.1;omega),h.rd.kept hg (fun bb e=>by cases e;exact⟨h.hq.1,h.hq.2.1⟩),below_grown h.bl hg h.bl.size (Nat.le_of_lt h.hq.1),h.hq⟩
theorem ubox_field {w wc w':World} {g q:Nat} {b:List Int} {s s':RSt} {k n:Int} {X:Option Addr} {l cap:Nat} (h:UBox w g q b s k n X l cap wc) (hG:RGot (w.heap.size+1) wc g b s' w'):UBox w g q b s' k n X l cap w':=
 ⟨h.bx.kept hG.fr (fun e=>h.hq.2.1 (Option.some.inj e)),h.qr.kept hG.fr (fun e=>by have:=Option.some.inj e;have:=h.hq.2.2;omega),hG.rd,below_grown h.bl hG.fr h.bl.size (Nat.le_of_lt h.hq.2.2),h.hq⟩
theorem ubox_body {w w5:World} {g q:Nat} {b:List Int} {s:RSt} {k n:Int} {X:Option Addr} {l cap:Nat} (h:UBox w g q b s k n X l cap w5) (X':Option Addr) (l' cap':Nat):UBox w g q b s k n X' l' cap' (w5.setCell ⟨q,2,none⟩ (.slice X' l' cap')):=by
 have hg:=grown_at (World.grownBy.refl w5 (some q)) 2 (.slice X' l' cap')
 exact⟨h.bx.set1 2 _,h.qr.kept hg (fun e=>by have:=Option.some.inj e;have:=h.hq.1;omega),h.rd.kept hg (fun bb e=>by cases e;exact⟨h.hq.1,h.hq.2.1⟩),below_grown h.bl hg h.bl.size (Nat.le_of_lt h.hq.1),h.hq⟩
theorem own_cutF {w:World} {B g cap n k:Nat} {xs:List Int} (h:w.ownsRow B 5 1 (.slice (some ⟨g,0,none⟩) n cap) n (u8s xs)) (hk:k≤n):w.ownsRow B 5 1 (.slice (some ⟨g,0,none⟩) k cap) k (u8s (xs.take k)):=by
 obtain⟨h1,h2⟩:=h
 rw [u8s_len,Nat.mul_one]at h1
 rcases h2 with⟨h2,_⟩ | ⟨g',cap',cur,e,h3,h4,h5,h6,h7,h8⟩
 · cases h2
 · obtain⟨rfl,rfl⟩:g=g'∧cap=cap':=by simpa using e
   refine⟨by rw [u8s_len,List.length_take,Nat.mul_one];omega,.inr ⟨g,cap,cur,rfl,h3,h4,by omega,h6,h7,?_⟩⟩
   have h10:=congrArg (List.take k) h8
   rw [Nat.mul_one]
   rw [List.take_take]at h10
   unfold u8s at h10 ⊢
   rw [List.map_take, ← h10]
   congr 1
   omega
theorem unit_rest {b:List Int} {z0 z7 m6:Int} (h0:b.getD 0 0=z0) (h7:b.getD 7 0=z7) (h6:unle ((b.drop 1).take 6)=m6):unitOf b=⟨z0,m6,([]++(b.drop 8).take 20++(b.drop 36).take 219).take z7.toNat⟩:=by
 unfold unitOf
 rw [h0,h7,h6,List.nil_append]
theorem own_not_unit {w:World} {B n g cap q:Nat} {xs:List Int} {cs:Array Value} (h:w.ownsRow B 5 1 (.slice (some ⟨g,0,none⟩) n cap) n (u8s xs)) (h1:BlockIs w q 65 cs):g≠q:=by
 intro e
 subst e
 obtain⟨_,h3⟩:=h
 rcases h3 with⟨h3,_⟩ | ⟨g',cap',cur,e,_,h4,_⟩
 · cases h3
 · obtain⟨rfl,rfl⟩:g=g'∧cap=cap':=by simpa using e
   have h5:=h4.symm.trans h1
   simp only [Option.some.injEq,Obj.cells.injEq]at h5
   exact absurd h5.2.1 (by decide)
theorem ropen_any (w:World) (A:Option Addr) (b:List Int) (c:Nat) (hb:BytesAt w A b) (hbc:b.length≤c) (hm:c≤9223372036854775807):
 Calls Tryz.prog 45 #[.slice A b.length c] w fun e w'=> ∃X k,e= .returned (.tuple #[(openB b).1.val X k,.int .i64 (openB b).2])∧OutU w w' (openB b).1 X k∧Below w.heap.size w w':=by
 by_cases hl:b.length=256
 · rw [hl]at hbc
   obtain⟨b0,off,rfl⟩:=hb.some_ (by intro e;rw [e]at hl;exact absurd hl (by decide))
   have c0:=hb.one 0 (by omega)
   have c7:=hb.one 7 (by omega)
   rw [Nat.add_zero]at c0
   have c0:=cell_below c0 (below_new w (.cells #[.int .i64 0,.int .i64 0,.slice none 0 0] 65))
   have c7:=cell_below c7 (below_new w (.cells #[.int .i64 0,.int .i64 0,.slice none 0 0] 65))
   rw [hl]
   have hb0:0≤b.getD 0 0∧b.getD 0 0 < 256:=by
    rw [List.getD_eq_getElem?_getD,List.getElem?_eq_getElem (by omega)]
    exact hb.1 _ (List.getElem_mem _)
   have hb7:0≤b.getD 7 0∧b.getD 7 0 < 256:=by
    rw [List.getD_eq_getElem?_getD,List.getElem?_eq_getElem (by omega)]
    exact hb.1 _ (List.getElem_mem _)
   by_cases hsh:b.getD 0 0 < 1∨8 < b.getD 0 0
   · rw [openB_shape (.inr hsh)]
     generalize b.getD 0 0=z0 at *
     clear hb c7 hb7 hbc
     by_cases h1:z0 < 1
     · go_enter Tryz.func45,Tryz.ntmps45
       go_wp2_with fail
       exact bodyPost_ret (v:= .tuple #[.agg #[.int .i64 0,.int .i64 0,.slice none 0 0],.int .i64 4]) (by simp [results,Tryz.results45,go_sem]) rfl ⟨none,0,rfl,World.ownsRow_nil _ _ _ _,below_new _ _⟩
     · have h8:8 < z0:=by omega
       clear hsh
       go_enter Tryz.func45,Tryz.ntmps45
       go_wp2_with fail
       exact bodyPost_ret (v:= .tuple #[.agg #[.int .i64 0,.int .i64 0,.slice none 0 0],.int .i64 4]) (by simp [results,Tryz.results45,go_sem]) rfl ⟨none,0,rfl,World.ownsRow_nil _ _ _ _,below_new _ _⟩
   · have hwb: ¬(b.length≠256∨b.getD 0 0 < 1∨8 < b.getD 0 0):=by rintro(h | h);exact h hl;exact hsh h
     have g1: ¬b.getD 0 0 < 1:=fun h=>hsh (.inl h)
     have g8: ¬8 < b.getD 0 0:=fun h=>hsh (.inr h)
     have H7:=qh hb7
     have Hwb:=qh hwb
     have HB:=qh hb
     have Hl:=qh hl
     have Hc:=qh (And.intro hbc hm)
     have hq:=below_new w (.cells #[.int .i64 0,.int .i64 0,.slice none 0 0] 65)
     have hQ:=BlockIs.made w 65 #[.int .i64 0,.int .i64 0,.slice none 0 0]
     obtain⟨wq,hwq⟩: ∃wq,w.alloc (.cells #[.int .i64 0,.int .i64 0,.slice none 0 0] 65)=wq:=⟨_,rfl⟩
     rw [hwq]at hq hQ
     have Hwq:=qh hwq
     have HR1:=qh (rr_new wq b0 off b c 28 (hb.below hq) hl hbc hm (by decide))
     have hb1:=below_new wq (.cells #[.slice (some ⟨b0,off,none⟩) 256 c,.int .i64 28,.int .i64 0,.int .i64 0] 96)
     have hQ1:=hQ.below hb1 hQ.lt
     obtain⟨w1,hw1⟩: ∃w1,wq.alloc (.cells #[.slice (some ⟨b0,off,none⟩) 256 c,.int .i64 28,.int .i64 0,.int .i64 0] 96)=w1:=⟨_,rfl⟩
     rw [show ((28:Nat):Int)=28 from rfl,hw1]at HR1
     rw [hw1]at hb1 hQ1
     have Q1:=qh (And.intro hQ1 (hq.trans (hb1.mono hq.size)))
     have hsz:wq.heap.size=w.heap.size+1:=by rw [← hwq,World.size_alloc]
     rw [hsz]at HR1
     have HF1:=qh (rrField_any w1 (w.heap.size+1) b (.ok 28) 4 HR1.out (by rw [hl];decide) (by decide))
     obtain⟨f1,f2,f3⟩:=field_sum hb.1 hl
     rw [f1]at HF1
     obtain⟨n4,hn4⟩: ∃n,unle ((b.drop 28).take 4)=n:=⟨_,rfl⟩
     have Hfit:Hid (fitsB b↔n4=((Mx.sum (unitRow b)).toNat:Int)):=qh (by unfold fitsB;rw [hn4])
     rw [hn4]at HF1 f2 f3
     obtain⟨x,hx⟩: ∃x,Mx.sum (unitRow b)=x:=⟨_,rfl⟩
     have HS:=qh (fun w2 (h2:Below w.heap.size w w2)=>rsumOf_any w2 (some ⟨b0,off,none⟩) b c (hb.below h2) hl hbc hm)
     rw [hx]at HS Hfit
     have hxl:(x.toNat:Int) < 4294967296:=by have:=x.isLt;omega
     have hw4:IntKind.u32.wrap n4=n4:=IntWalk.u32_in _ ⟨f2,f3⟩
     have Hw1:=qh hw1
     obtain⟨z0,hz0⟩: ∃z,b.getD 0 0=z:=⟨_,rfl⟩
     obtain⟨z7,hz7⟩: ∃z,b.getD 7 0=z:=⟨_,rfl⟩
     have Hz:=qh (And.intro hz0 hz7)
     rw [hz0]at c0 g1 g8
     rw [hz7]at c7
     clear hx hn4 f1 hb1 hw1 hwb hq hQ hQ1 hwq hz0 hz7 hb hl hb0 hb7 hsh
     go_enter Tryz.func45,Tryz.ntmps45
     go_wp2_with fail
     rw [Hwq.out,Hw1.out]
     refine HF1.out.mono ?_
     rintro e w2 ⟨rfl,hG2⟩
     have B2:=qh (below_grown Q1.out.2 hG2.fr Q1.out.2.size (by omega))
     have Q2:=qh (Q1.out.1.kept hG2.fr (fun e=>by have:=Option.some.inj e;omega))
     clear hG2 HF1
     go_wp2_with fail
     refine(HS.out w2 B2.out).mono ?_
     rintro e w3 ⟨rfl,hb3⟩
     have B3:=qh (B2.out.trans (hb3.mono B2.out.size))
     have Q3:=qh (Q2.out.below hb3 Q2.out.lt)
     clear hb3
     by_cases hf:n4=(x.toNat:Int)
     · have hf1:(n4 != (x.toNat:Int))=false:=by rw [hf];simp
       have Hyes:=qh (Hfit.out.2 hf)
       clear hf
       have hb4:=below_new w3 (.cells #[.slice (some ⟨b0,off,none⟩) 256 c,.int .i64 1,.int .i64 0,.int .i64 0] 96)
       have hr4:=rr_new w3 b0 off b c 1 (HB.out.below B3.out) Hl.out Hc.out.1 Hc.out.2 (by decide)
       have hd4:=cell_below ((cell_below (HB.out.one 0 (by rw [Hl.out];decide)) B3.out)) hb4
       have he4:=cell_below ((cell_below (HB.out.one 7 (by rw [Hl.out];decide)) B3.out)) hb4
       rw [Hz.out.1,Nat.add_zero]at hd4
       rw [Hz.out.2]at he4
       obtain⟨w4,hw4'⟩: ∃w4,w3.alloc (.cells #[.slice (some ⟨b0,off,none⟩) 256 c,.int .i64 1,.int .i64 0,.int .i64 0] 96)=w4:=⟨_,rfl⟩
       have hs4:w4.heap.size=w3.heap.size+1:=by rw [← hw4',World.size_alloc]
       rw [show ((1:Nat):Int)=1 from rfl,hw4']at hr4
       rw [hw4']at hb4 hd4 he4
       have Hw4:=qh hw4'
       have B4:=qh (B3.out.trans (hb4.mono B3.out.size))
       have Q4:=qh (Q3.out.below hb4 Q3.out.lt)
       have hg3:w.heap.size < w3.heap.size:=Q3.out.lt
       have R4:=qh (show RrAt (w.heap.size+1) w4 w3.heap.size b (.ok 1)from(by
        obtain⟨x',cap',k',e',b',h'⟩:=hr4
        exact⟨x',cap',k',e',b',h'.blk,h'.bytes,h'.fit,fun hne a ha=>by
         obtain⟨bb,off',e1,hc'⟩:=HB.out.2 hne
         have h1:x'=some ⟨b0,off,none⟩:=by have h2:=h'.blk.cell 0;have h3:=(BlockIs.made w3 96 #[.slice (some ⟨b0,off,none⟩) 256 c,.int .i64 1,.int .i64 0,.int .i64 0]).cell 0;rw [hw4']at h3;rw [h2]at h3;have h4:=Option.some.inj h3;injection h4
         rw [h1]at ha;cases ha;cases e1
         have:=World.block_lt_of_cell? _ _ (hc' 0 (List.length_pos_iff.2 hne));simp only at this ⊢;omega,by omega,h'.nil,h'.st⟩))
       have HFN:=qh (fun W (h:RrAt (w.heap.size+1) W w3.heap.size b (.ok 1))=>rrField_any W w3.heap.size b (.ok 1) 6 h (by rw [Hl.out];decide) (by decide))
       have HfN:=qh (field_number Hl.out)
       obtain⟨mr,hmr⟩: ∃r,fieldR b 6 (.ok 1)=r:=⟨_,rfl⟩
       rw [hmr]at HFN HfN
       obtain⟨m6,s6⟩:=mr
       simp only at HFN
       clear hs4 hmr hr4 hb4 hw4' c0 c7 f2 f3 hxl hw4 hsz
       go_wp2_with fail
       rw [Hw4.out]
       have U4:=qh (show UBox w w3.heap.size w4.heap.size b (.ok 1) 0 0 none 0 0 (w4.alloc (.cells #[.int .i64 0,.int .i64 0,.slice none 0 0] 65))from ubox_new 0 0 R4.out Q4.out B4.out hg3)
       have hd4a:=cell_below hd4 (below_new w4 (.cells #[.int .i64 0,.int .i64 0,.slice none 0 0] 65))
       have hwz:IntKind.i64.wrap z0=z0:=IntWalk.i64_in _ (by omega)
       have hb0w:b0 < w.heap.size:=World.block_lt_of_cell? _ _ (HB.out.one 0 (by rw [Hl.out];decide))
       go_region_held3 (fun w'=>w'.cell? ⟨b0,off,none⟩=some (.int .u8 z0)) (first | exact hd4 | exact hd4a | exact hd5 | exact hd5a | exact hd5b) (first
        | (go_at_call 46;(first | (with_reducible refine(HFN.out w4 R4.out).mono ?_) | (with_reducible refine(HFN.out w4.drew (R4.out.below (Below.refl _ _).drew)).mono ?_));rintro e w5 ⟨rfl,hG⟩;have hG5:RGot (w.heap.size+1) w4 w3.heap.size b s6 w5:=(by first | exact hG | exact RGot.pre (Below.refl _ _).drew hG);have hd5:w5.cell? ⟨b0,off,none⟩=some (.int .u8 z0):=hG5.fr.cell hd4 (fun e=>by have h0:b0=w3.heap.size:=Option.some.inj e;omega);have hd5a:=cell_below hd5 (below_new w5 (.cells #[.int .i64 0,.int .i64 0,.slice none 0 0] 65));have hd5b:=cell_below hd5 (below_new w5 (.cells #[.int .i64 z0,.int .i64 m6,.slice none 0 0] 65));have U5:=qh (ubox_new z0 m6 hG5.rd (Q4.out.kept hG5.fr (fun e=>by have:=Option.some.inj e;omega)) (below_grown B4.out hG5.fr B4.out.size (by omega)) hg3);obtain⟨wc,hwc⟩: ∃wc,w5.alloc (.cells #[.int .i64 z0,.int .i64 m6,.slice none 0 0] 65)=wc:=⟨_,rfl⟩;obtain⟨q,hqe⟩: ∃q,w5.heap.size=q:=⟨_,rfl⟩;have UC:Hid (UBox w w3.heap.size q b s6 z0 m6 none 0 0 wc):=qh (by rw [← hwc, ← hqe];exact U5.out);have Hwc:=qh hwc;have Hqe:=qh hqe;clear hwc hqe hG hG5)
        | (go_at_call 46;(first | (with_reducible refine(HFN.out (w4.alloc (.cells #[.int .i64 0,.int .i64 0,.slice none 0 0] 65)) U4.out.rd).mono ?_) | (with_reducible refine(HFN.out (w4.alloc (.cells #[.int .i64 0,.int .i64 0,.slice none 0 0] 65)).drew (U4.out.rd.below (Below.refl _ _).drew)).mono ?_));rintro e w5 ⟨rfl,hG⟩;have hG5:RGot (w.heap.size+1) (w4.alloc (.cells #[.int .i64 0,.int .i64 0,.slice none 0 0] 65)) w3.heap.size b s6 w5:=(by first | exact hG | exact RGot.pre (Below.refl _ _).drew hG);have hd5:w5.cell? ⟨b0,off,none⟩=some (.int .u8 z0):=hG5.fr.cell hd4a (fun e=>by have h0:b0=w3.heap.size:=Option.some.inj e;omega);have U5:=qh (ubox_field U4.out hG5);obtain⟨y0,y1,y2,y3,y4,y5⟩:=unit_cells U5.out.bx;have hd5b:=(grown_at (grown_at (grown_at (World.grownBy.refl w5 (some w4.heap.size)) 0 (.int .i64 z0)) 1 (.int .i64 m6)) 2 (.slice none 0 0)).cell hd5 (fun e=>by have h0:b0=w4.heap.size:=Option.some.inj e;have:=B4.out.size;omega);obtain⟨wc,hwc⟩: ∃wc,(((w5.setCell ⟨w4.heap.size,0,none⟩ (.int .i64 z0)).setCell ⟨w4.heap.size,1,none⟩ (.int .i64 m6)).setCell ⟨w4.heap.size,2,none⟩ (.slice none 0 0))=wc:=⟨_,rfl⟩;obtain⟨q,hqe⟩: ∃q,w4.heap.size=q:=⟨_,rfl⟩;have UC:Hid (UBox w w3.heap.size q b s6 z0 m6 none 0 0 wc):=qh (by rw [← hwc, ← hqe];exact ubox_set U5.out z0 m6 none 0 0);have Hwc:=qh hwc;have Hqe:=qh hqe;clear hwc hqe hG hG5)
        | fail)
       all_goals
        rw [Hwc.out,Hqe.out]
        obtain⟨p0,p1,p2,p3,p4,p5⟩:=unit_cells UC.out.bx
        have h8: ∀w',(Instr.slice 28 (.slice (some ⟨b0,off,none⟩) 256 c) (some (.int .i64 8)) (some (.int .i64 28)) none).run Tryz.prog w'= .ok (.slice (some ⟨b0,off+8,none⟩) 20 (c - 8)) w':=fun w'=>by
         have:=cut_mid (some ⟨b0,off,none⟩) 256 8 28 c w' (by decide) (by omega)
         rw [cut_some (show 8 < c by omega)]at this
         exact this
        have h36: ∀w',(Instr.slice 28 (.slice (some ⟨b0,off,none⟩) 256 c) (some (.int .i64 36)) (some (.int .i64 255)) none).run Tryz.prog w'= .ok (.slice (some ⟨b0,off+36,none⟩) 219 (c - 36)) w':=fun w'=>by
         have:=cut_mid (some ⟨b0,off,none⟩) 256 36 255 c w' (by decide) (by omega)
         rw [cut_some (show 36 < c by omega)]at this
         exact this
        clear U5 U4 hd5 hd5b hd4a hd4 he4 Hwc Hqe
        try clear hd5a
        try clear y0 y1 y2 y3 y4 y5
        have hBc:=HB.out.below UC.out.bl
        have HL20:=qh (show((b.drop 8).take 20).length=20 by rw [List.length_take,List.length_drop,Hl.out];rfl)
        have HL219:=qh (show((b.drop 36).take 219).length=219 by rw [List.length_take,List.length_drop,Hl.out];rfl)
        have hcut8:=cut_reads (k:=8) hBc (show b.length≤c by have:=Hl.out;omega)
        rw [cut_some (show 8 < c by omega)]at hcut8
        have hcut36:=cut_reads (k:=36) hBc (show b.length≤c by have:=Hl.out;omega)
        rw [cut_some (show 36 < c by omega)]at hcut36
        have HZ8:=qh (front_reads (k:=20) hcut8)
        have HZ36:=qh (front_reads (k:=219) hcut36)
        clear hBc hcut8 hcut36
        have p2d:wc.drew.cell? ⟨q,2,none⟩=some (.slice none 0 0):=p2
        clear p0 p1 p3 p4 p5
        go_wp2_with fail
        go_region_law (first
         | (refine step_append_own8 (by rfl) _ _ (by rfl) wc.heap.size (.slice none 0 0) 0 [] (by rfl) (World.ownsRow_nil _ _ _ _) _ ((b.drop 8).take 20) 20 _ (by rfl) HL20.out (by first | exact HZ8.out | exact HZ8.out.drewN 1) (by intro e;cases e) (by decide) (by exact Nat.le_refl _) ?_;intro v6 w6 ho6 hg6 hat6;obtain⟨g6,c6,rfl,hlo6,hlt6,hn6,hm6⟩:=own_form (own_same ho6 (Nat.zero_add 20) rfl) (by decide);have O6:=qh (show w6.ownsRow wc.heap.size 5 1 (.slice (some ⟨g6,0,none⟩) 20 c6) 20 (u8s ([]++(b.drop 8).take 20))∧Below wc.heap.size wc w6∧wc.heap.size≤g6 from⟨own_same ho6 (Nat.zero_add 20) rfl,⟨hg6.os,hg6.tape,hg6.output,hg6.size,fun k hk=>hg6.block k hk (fun e=>by cases e)⟩,hlo6⟩);clear ho6 hg6 hat6 hlo6 hlt6 hn6 hm6)
         | (refine step_append_own8 (by rfl) _ _ (by rfl) wc.heap.size (.slice (some ⟨g6,0,none⟩) 20 c6) 20 ([]++(b.drop 8).take 20) (by rfl) (by first | exact O6.out.1 | exact ownsRow_drew O6.out.1) _ ((b.drop 36).take 219) 219 _ (by rfl) HL219.out (by first | exact HZ36.out.below O6.out.2.1 | exact(HZ36.out.below O6.out.2.1).drewN 1) (by intro e;cases e) (by decide) (by exact O6.out.2.1.size) ?_;intro v7 w7 ho7 hg7 hat7;obtain⟨g7,c7,rfl,hlo7,hlt7,hn7,hm7⟩:=own_form ho7 (by decide);have O7:=qh (show w7.ownsRow wc.heap.size 5 1 (.slice (some ⟨g7,0,none⟩) 239 c7) 239 (u8s ([]++(b.drop 8).take 20++(b.drop 36).take 219))∧Below wc.heap.size wc w7∧239≤c7∧c7≤maxLen from⟨ho7,below_grown O6.out.2.1 hg7 O6.out.2.1.size O6.out.2.2,hn7,hm7⟩);have U7:=qh (UC.out.below O7.out.2.1);obtain⟨r0,r1,r2,r3,r4,r5⟩:=unit_cells U7.out.bx;clear ho7 hg7 hat7 hlo7 hlt7 hn7 hm7)
         | fail)
       all_goals
        have U8:=qh (ubox_body U7.out (some ⟨g7,0,none⟩) 239 c7)
        have hk8: ∀k,k < w7.heap.size→k≠q→(w7.setCell ⟨q,2,none⟩ (.slice (some ⟨g7,0,none⟩) 239 c7)).heap[k]? =w7.heap[k]? :=fun k _ hne=>Below.heap_setCell w7 ⟨q,2,none⟩ _ k hne
        have hgq:g7≠q:=by
         have h1:=(O7.out.1.lt g7 rfl).1
         have h2:=UC.out.bx.lt
         omega
        have O8:=qh (show(w7.setCell ⟨q,2,none⟩ (.slice (some ⟨g7,0,none⟩) 239 c7)).ownsRow w.heap.size 5 1 (.slice (some ⟨g7,0,none⟩) 239 c7) 239 (u8s ([]++(b.drop 8).take 20++(b.drop 36).take 219))∧239≤c7∧c7≤9223372036854775807∧w.heap.size≤g7 from⟨own_mono (own_keep O7.out.1 (fun bb e=>by
         have e:=Option.some.inj (show some g7=some bb from e)
         subst e
         exact hk8 g7 (O7.out.1.lt g7 rfl).2 hgq)) UC.out.bl.size,O7.out.2.2.1,by have:=O7.out.2.2.2;unfold maxLen at this;omega,by have h1:=(O7.out.1.lt g7 rfl).1;have:=UC.out.bl.size;omega⟩)
        clear hk8 hgq r0 r1 r2 r3 r4 r5 U7 O7 O6 p2 p2d h8 h36
        generalize w7.setCell ⟨q,2,none⟩ (.slice (some ⟨g7,0,none⟩) 239 c7)=w8 at *
        have e7:=(HB.out.below U8.out.bl).one 7 (by rw [Hl.out];decide)
        rw [Hz.out.2]at e7
        obtain⟨rx,rc,rk,re,rb,hrd⟩:=U8.out.rd
        have d2:=hrd.cells.2.2.1
        have hst:=hrd.st
        clear hrd
        by_cases hnum:1099511627776 < unle ((b.drop 1).take 6)
        · have hn:=HfN.out
          rw [if_pos hnum]at hn
          obtain⟨rfl,rfl⟩:m6=0∧s6= .bad 1 false:=by simpa using hn
          obtain⟨rfl,rfl,_⟩:=hst
          have Hno:=qh (openB_num Hwb.out Hyes.out hnum)
          clear hnum hn
          unfold errCode at d2
          obtain⟨y0,y1,y2,y3,y4,y5⟩:=unit_cells U8.out.qr
          go_wp2_with fail
          clear y0 y1 y2 y3 y4 y5
          have UZ:=qh (unit_set U8.out.qr (.int .i64 0) (.int .i64 0) (.slice none 0 0))
          have BZ:=qh (below_set3 U8.out.bl (Nat.le_refl _) (.int .i64 0) (.int .i64 0) (.slice none 0 0))
          generalize ((w8.setCell ⟨w.heap.size,0,none⟩ (.int .i64 0)).setCell ⟨w.heap.size,1,none⟩ (.int .i64 0)).setCell ⟨w.heap.size,2,none⟩ (.slice none 0 0)=wz at *
          obtain⟨z0',z1,z2,_,_,_⟩:=unit_cells UZ.out
          rw [Hno.out]
          exact bodyPost_ret (v:= .tuple #[.agg #[.int .i64 0,.int .i64 0,.slice none 0 0],.int .i64 4]) (by simp [results,Tryz.results45,go_sem,z0',z1,z2]) rfl ⟨none,0,rfl,World.ownsRow_nil _ _ _ _,BZ.out⟩
        · have hn:=HfN.out
          rw [if_neg hnum]at hn
          obtain⟨hm6,rfl⟩:m6=unle ((b.drop 1).take 6)∧s6= .ok 7:=by simpa using hn
          obtain⟨_,rfl,rfl,_⟩:=hst
          have h7b:0≤z7∧z7 < 256:=by rw [← Hz.out.2];exact H7.out
          obtain⟨many,rfl⟩:=Int.eq_ofNat_of_zero_le h7b.1
          have Hm6:=qh (show unle ((b.drop 1).take 6)=m6∧unle ((b.drop 1).take 6)≤1099511627776 from⟨hm6.symm,by omega⟩)
          have h255:many≤255:=by omega
          clear hnum hn hm6 h7b
          by_cases hmy:239 < many
          · have hmi:(239:Int) < (many:Int):=by omega
            have Hno:=qh (openB_much Hwb.out Hyes.out (by rw [Hz.out.2];omega))
            obtain⟨y0,y1,y2,y3,y4,y5⟩:=unit_cells U8.out.qr
            go_wp2_with fail
            clear y0 y1 y2 y3 y4 y5
            have UZ:=qh (unit_set U8.out.qr (.int .i64 0) (.int .i64 0) (.slice none 0 0))
            have BZ:=qh (below_set3 U8.out.bl (Nat.le_refl _) (.int .i64 0) (.int .i64 0) (.slice none 0 0))
            generalize ((w8.setCell ⟨w.heap.size,0,none⟩ (.int .i64 0)).setCell ⟨w.heap.size,1,none⟩ (.int .i64 0)).setCell ⟨w.heap.size,2,none⟩ (.slice none 0 0)=wz at *
            obtain⟨z0',z1,z2,_,_,_⟩:=unit_cells UZ.out
            rw [Hno.out]
            exact bodyPost_ret (v:= .tuple #[.agg #[.int .i64 0,.int .i64 0,.slice none 0 0],.int .i64 4]) (by simp [results,Tryz.results45,go_sem,z0',z1,z2]) rfl ⟨none,0,rfl,World.ownsRow_nil _ _ _ _,BZ.out⟩
          · have hmi: ¬(239:Int) < (many:Int):=by omega
            obtain⟨p0,p1,p2,p3,p4,p5⟩:=unit_cells U8.out.bx
            have hsl: ∀W,(Instr.slice 28 (.slice (some ⟨g7,0,none⟩) 239 c7) none (some (.int .u8 (many:Int))) none).run Tryz.prog W= .ok (.slice (some ⟨g7,0,none⟩) many c7) W:=fun W=>by
             have hs:(sizeOf (Tryz.prog.elem 28)).run Tryz.prog W= .ok 1 W:=by kernel_rfl
             rw [run_slice_h W 28 (some ⟨g7,0,none⟩) 239 c7 (by kernel_rfl) .u8 many (by omega) (by have:=O8.out.2.1;omega),hs]
             have ha:Option.map (fun x:Addr=>x.add 0) (some (⟨g7,0,none⟩:Addr))=some ⟨g7,0,none⟩:=by simp [Addr.add]
             simp [Result.andThen,sliced,ha]
            have hbl:(([]++(b.drop 8).take 20++(b.drop 36).take 219).take many).length=many:=by
             have h1:=HL20.out
             have h2:=HL219.out
             rw [List.length_take,List.length_append,List.length_append,h1,h2,List.length_nil];omega
            obtain⟨hrt,hop⟩:=openB_last Hwb.out HB.out.1 Hyes.out Hm6.out.2 (by rw [Hz.out.2];omega)
            rw [unit_rest Hz.out.1 Hz.out.2 Hm6.out.1,Int.toNat_natCast]at hrt hop
            have O9:=qh (own_cutF O8.out.1 (show many≤239 by omega))
            have hbb: ∀z∈([]++(b.drop 8).take 20++(b.drop 36).take 219).take many,0≤z∧z < 256:=fun z hz=>by
             have hz:=List.mem_of_mem_take hz
             rw [List.nil_append]at hz
             rcases List.mem_append.1 hz with h | h
             · exact HB.out.1 z (List.mem_of_mem_drop (List.mem_of_mem_take h))
             · exact HB.out.1 z (List.mem_of_mem_drop (List.mem_of_mem_take h))
            generalize ([]++(b.drop 8).take 20++(b.drop 36).take 219).take many=bd at *
            have Hbd:=qh (And.intro hbl hbb)
            have Hop:=qh (And.intro hrt hop)
            clear hbl hrt hop hbb
            go_wp2_with fail
            go_region
            all_goals
             have U9:=qh ((ubox_body U8.out (some ⟨g7,0,none⟩) many c7).below (Below.refl _ _).drew)
             have hgq:g7≠q:=own_not_unit O8.out.1 U8.out.bx
             have O10:=qh (show((w8.setCell ⟨q,2,none⟩ (.slice (some ⟨g7,0,none⟩) many c7)).drew).ownsRow w.heap.size 5 1 (.slice (some ⟨g7,0,none⟩) many c7) many (u8s bd)from ownsRow_drew (own_keep O9.out (fun bb e=>by
              have e:=Option.some.inj (show some g7=some bb from e)
              subst e
              exact Below.heap_setCell w8 ⟨q,2,none⟩ _ g7 hgq)))
             clear hgq p0 p1 p2 p3 p4 p5 e7 d2 hsl U8
             generalize (w8.setCell ⟨q,2,none⟩ (.slice (some ⟨g7,0,none⟩) many c7)).drew=w9 at *
             have hSl:=rseal_any w9 ⟨z0,m6,bd⟩ (some ⟨g7,0,none⟩) c7 (own_reads O10.out Hbd.out.2) (by show bd.length≤c7;rw [Hbd.out.1];have:=O8.out.2.1;omega) O8.out.2.2.1
             rw [show sealR ⟨z0,m6,bd⟩=(sealB ⟨z0,m6,bd⟩,0) by unfold sealR;rw [if_pos Hop.out.1]]at hSl
             simp only at hSl
             rw [seal_len Hop.out.1.2.2]at hSl
             have HSl:=qh hSl
             have Hok:=qh (seal_bd Hop.out.1 Hbd.out.2)
             unfold UnitV.val at HSl
             simp only at HSl
             rw [Hbd.out.1]at HSl
             have Hsl2:=qh (seal_len Hop.out.1.2.2)
             obtain⟨sb,hsb⟩: ∃sb,sealB ⟨z0,m6,bd⟩=sb:=⟨_,rfl⟩
             rw [hsb]at HSl Hok Hsl2
             have Hsb:=qh hsb
             obtain⟨p0,p1,p2,p3,p4,p5⟩:=unit_cells U9.out.bx
             clear hSl hsb
             go_wp2_with fail
             refine HSl.out.mono ?_
             rintro e w10 ⟨v,rfl,ho,hb10⟩
             obtain⟨ga,ca,rfl,_,_,_,_⟩:=own_form ho (by decide)
             have hz10:=own_reads ho Hok.out
             have e1:=run_convert_bytes_arg (P:=Tryz.prog) w10 28 5 Tryz.underlying28 Tryz.underlying5 ga 0 256 ca sb Hsl2.out (fun i hi=>hz10.one i (by rw [Hsl2.out];exact hi)) 9 Tryz.underlying9
             have U10:=qh (U9.out.below hb10)
             have hzb:=HB.out.below U10.out.bl
             have e2:=run_convert_bytes_arg (P:=Tryz.prog) w10 28 5 Tryz.underlying28 Tryz.underlying5 b0 off 256 c b Hl.out (fun i hi=>hzb.one i (by rw [Hl.out];exact hi)) 9 Tryz.underlying9
             have he:=strs_eq sb b Hok.out HB.out.1
             have OX:=qh (ownsRow_below O10.out hb10)
             clear p0 p1 p2 p3 p4 p5 ho hb10 hz10 hzb HSl
             obtain⟨p0,p1,p2,p3,p4,p5⟩:=unit_cells U10.out.bx
             obtain⟨y0,y1,y2,y3,y4,y5⟩:=unit_cells U10.out.qr
             by_cases hs:sb=b
             · rw [show sameB sb b=true from decide_eq_true hs]at he
               have Hno:=qh (show openB b=(⟨z0,m6,bd⟩,0) by rw [Hop.out.2,Hsb.out,if_pos hs])
               clear hs
               go_wp2_with fail
               clear p0 p1 p2 p3 p4 p5 y0 y1 y2 y3 y4 y5 e1 e2 he
               have UZ:=qh (unit_set U10.out.qr (.int .i64 z0) (.int .i64 m6) (.slice (some ⟨g7,0,none⟩) many c7))
               have BZ:=qh (below_set3 U10.out.bl (Nat.le_refl _) (.int .i64 z0) (.int .i64 m6) (.slice (some ⟨g7,0,none⟩) many c7))
               have hgw:g7≠w.heap.size:=own_not_unit OX.out U10.out.qr
               have OZ:=qh (show((((w10.setCell ⟨w.heap.size,0,none⟩ (.int .i64 z0)).setCell ⟨w.heap.size,1,none⟩ (.int .i64 m6)).setCell ⟨w.heap.size,2,none⟩ (.slice (some ⟨g7,0,none⟩) many c7)).ownsRow w.heap.size 5 1 (.slice (some ⟨g7,0,none⟩) many c7) many (u8s bd))from own_keep OX.out (fun bb e=>by
                have e:=Option.some.inj (show some g7=some bb from e)
                subst e
                exact(Below.heap_setCell _ ⟨w.heap.size,2,none⟩ _ g7 hgw).trans ((Below.heap_setCell _ ⟨w.heap.size,1,none⟩ _ g7 hgw).trans (Below.heap_setCell _ ⟨w.heap.size,0,none⟩ _ g7 hgw))))
               generalize ((w10.setCell ⟨w.heap.size,0,none⟩ (.int .i64 z0)).setCell ⟨w.heap.size,1,none⟩ (.int .i64 m6)).setCell ⟨w.heap.size,2,none⟩ (.slice (some ⟨g7,0,none⟩) many c7)=wz at *
               obtain⟨z0',z1,z2,_,_,_⟩:=unit_cells UZ.out
               rw [Hno.out]
               unfold OutU UnitV.val
               simp only
               rw [Hbd.out.1]
               exact bodyPost_ret (v:= .tuple #[.agg #[.int .i64 z0,.int .i64 m6,.slice (some ⟨g7,0,none⟩) many c7],.int .i64 0]) (by simp [results,Tryz.results45,go_sem,z0',z1,z2]) rfl ⟨some ⟨g7,0,none⟩,c7,rfl,OZ.out,BZ.out⟩
             · rw [show sameB sb b=false from decide_eq_false hs]at he
               have Hno:=qh (show openB b=(noUnit,4) by rw [Hop.out.2,Hsb.out,if_neg hs])
               clear hs
               go_wp2_with fail
               clear p0 p1 p2 p3 p4 p5 y0 y1 y2 y3 y4 y5 e1 e2 he
               have UZ:=qh (unit_set U10.out.qr (.int .i64 0) (.int .i64 0) (.slice none 0 0))
               have BZ:=qh (below_set3 U10.out.bl (Nat.le_refl _) (.int .i64 0) (.int .i64 0) (.slice none 0 0))
               generalize ((w10.setCell ⟨w.heap.size,0,none⟩ (.int .i64 0)).setCell ⟨w.heap.size,1,none⟩ (.int .i64 0)).setCell ⟨w.heap.size,2,none⟩ (.slice none 0 0)=wz at *
               obtain⟨z0',z1,z2,_,_,_⟩:=unit_cells UZ.out
               rw [Hno.out]
               exact bodyPost_ret (v:= .tuple #[.agg #[.int .i64 0,.int .i64 0,.slice none 0 0],.int .i64 4]) (by simp [results,Tryz.results45,go_sem,z0',z1,z2]) rfl ⟨none,0,rfl,World.ownsRow_nil _ _ _ _,BZ.out⟩
     · have hf1:(n4 != (x.toNat:Int))=true:=by simpa using hf
       have Hno:=qh (openB_sum Hwb.out (fun h=>hf (Hfit.out.1 h)))
       clear hf
       obtain⟨y0,y1,y2,y3,y4,y5⟩:=unit_cells Q3.out
       go_wp2_with fail
       clear y0 y1 y2 y3 y4 y5
       have UZ:=qh (unit_set Q3.out (.int .i64 0) (.int .i64 0) (.slice none 0 0))
       have BZ:=qh (below_set3 B3.out (Nat.le_refl _) (.int .i64 0) (.int .i64 0) (.slice none 0 0))
       generalize ((w3.setCell ⟨w.heap.size,0,none⟩ (.int .i64 0)).setCell ⟨w.heap.size,1,none⟩ (.int .i64 0)).setCell ⟨w.heap.size,2,none⟩ (.slice none 0 0)=wz at *
       obtain⟨z0',z1,z2,_,_,_⟩:=unit_cells UZ.out
       rw [Hno.out]
       exact bodyPost_ret (v:= .tuple #[.agg #[.int .i64 0,.int .i64 0,.slice none 0 0],.int .i64 5]) (by simp [results,Tryz.results45,go_sem,z0',z1,z2]) rfl ⟨none,0,rfl,World.ownsRow_nil _ _ _ _,BZ.out⟩
 · have hne:((b.length:Int) != 256)=true:=by rw [bne_iff_ne];omega
   rw [openB_shape (.inl hl)]
   clear hb hbc hl
   go_enter Tryz.func45,Tryz.ntmps45
   go_wp2_with fail
   exact bodyPost_ret (v:= .tuple #[.agg #[.int .i64 0,.int .i64 0,.slice none 0 0],.int .i64 4]) (by simp [results,Tryz.results45,go_sem]) rfl ⟨none,0,rfl,World.ownsRow_nil _ _ _ _,below_new _ _⟩
theorem ras_any (w:World) (A:Option Addr) (b:List Int) (c:Nat) (hb:BytesAt w A b) (hbc:b.length≤c) (hm:c≤9223372036854775807) (kd num:Int):
 Calls Tryz.prog 44 #[.slice A b.length c,.int .i64 kd,.int .i64 num] w fun e w'=> ∃v,e= .returned (.tuple #[v,.int .i64 (asB b kd num).2])∧w'.ownsRow w.heap.size 5 1 v (asB b kd num).1.length (u8s (asB b kd num).1)∧Below w.heap.size w w':=by
 have HO:=qh (ropen_any w A b c hb hbc hm)
 have Ha1:=qh (fun h=>asB_bad (b:=b) (k:=kd) (num:=num) h)
 have Ha2:=qh (fun h=>asB_other (b:=b) (k:=kd) (num:=num) h)
 have Ha3:=qh (fun h=>asB_yes (b:=b) (k:=kd) (num:=num) h)
 obtain⟨r,hop⟩: ∃r,openB b=r:=⟨_,rfl⟩
 rw [hop]at HO Ha1 Ha2 Ha3
 obtain⟨u,code⟩:=r
 simp only at HO Ha1 Ha2 Ha3
 clear hb hop
 unfold UnitV.val at *
 go_enter Tryz.func44,Tryz.ntmps44
 go_wp2_with fail
 refine HO.out.mono ?_
 rintro e w2 ⟨X,k,rfl,ho,hb2⟩
 have hb3:=below_new w2 (.cells #[.int .i64 u.kind,.int .i64 u.num,.slice X u.body.length k] 65)
 obtain⟨w3,hw3⟩: ∃w3,w2.alloc (.cells #[.int .i64 u.kind,.int .i64 u.num,.slice X u.body.length k] 65)=w3:=⟨_,rfl⟩
 have P3:=qh (BlockIs.made w2 65 #[.int .i64 u.kind,.int .i64 u.num,.slice X u.body.length k])
 rw [hw3]at hb3 P3
 have B3:=qh (hb2.trans (hb3.mono hb2.size))
 have O3:=qh (ownsRow_below ho hb3)
 have Hw3:=qh hw3
 obtain⟨p0,p1,p2,_,_,_⟩:=unit_cells P3.out
 rw [← Hw3.out]at p0 p1 p2
 clear hb2 hb3 ho hw3 HO
 by_cases hc0:code=0
 · subst hc0
   by_cases hk:u.kind=kd
   · have e1:(u.kind != kd)=false:=by rw [hk];simp
     by_cases hn:num < 0
     · have Has:=qh (Ha3.out rfl (by rintro(h | h);exact h hk;omega))
       clear hk
       go_wp2_with fail
       rw [Hw3.out]
       go_ret2
       rw [Has.out]
       exact⟨_,rfl,O3.out,B3.out⟩
     · have hn':0≤num:=by omega
       by_cases hq:u.num=num
       · have e2:(u.num != num)=false:=by rw [hq];simp
         have Has:=qh (Ha3.out rfl (by rintro(h | h);exact h hk;exact h.2 hq))
         clear hk hq hn
         go_wp2_with fail
         rw [Hw3.out]
         go_ret2
         rw [Has.out]
         exact⟨_,rfl,O3.out,B3.out⟩
       · have e2:(u.num != num)=true:=by rw [bne_iff_ne];exact hq
         have Has:=qh (Ha2.out rfl (.inr ⟨hn',hq⟩))
         clear hk hq hn
         go_wp2_with fail
         rw [Hw3.out]
         go_ret2
         rw [Has.out]
         exact⟨_,rfl,World.ownsRow_nil _ _ _ _,B3.out⟩
   · have e1:(u.kind != kd)=true:=by rw [bne_iff_ne];exact hk
     have Has:=qh (Ha2.out rfl (.inl hk))
     clear hk
     go_wp2_with fail
     rw [Hw3.out]
     go_ret2
     rw [Has.out]
     exact⟨_,rfl,World.ownsRow_nil _ _ _ _,B3.out⟩
 · have hne:(code != 0)=true:=by rw [bne_iff_ne];exact hc0
   have Has:=qh (Ha1.out hc0)
   clear hc0
   go_wp2_with fail
   rw [Hw3.out]
   go_ret2
   rw [Has.out]
   exact⟨_,rfl,World.ownsRow_nil _ _ _ _,B3.out⟩
end Go.Proofs.YtpaikolnampcfaaGreatDoor
