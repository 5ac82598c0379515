/- The document's disk: Read, Stored, Hurts. -/
import Derived.Test.YtpaikolnampcfaaGreatDoorRef3Write
import Derived.Test.YtpaikolnampcfaaGreatDoorDevStp
import Derived.Test.YtpaikolnampcfaaGreatDoorDevRot
import Derived.Laws.BytesArg
import Derived.Lib.Strings
import Derived.Test.YtpaikolnampcfaaGreatDoorDevWake
import Derived.Deep.RegionLaw
namespace Go.Proofs.YtpaikolnampcfaaGreatDoor
set_option maxRecDepth 100000
set_option maxHeartbeats 4000000
open Go.RowKit
def Told3 (w:World) (v:Value) (bs:List Int):Prop:= ∃A c,v= .slice A bs.length c∧BytesAt w A bs∧bs.length≤c∧c≤9223372036854775807∧(A=none→c=0)∧ ∀a,A=some a→a.block < w.heap.size
theorem Told3.none (w:World):Told3 w (.slice .none 0 0) []:=⟨.none,0,rfl,BytesAt.nil _ _,Nat.le_refl _,by decide,fun _=>rfl,fun _ e=>by cases e⟩
section
variable {w : World} {T : Nat → Prop} {h : Nat} {D : DM}
theorem RefM.stored {C:List RC} {L:List RL} {ar tu cr:Int} {dn:Bool} (m:RefM D C L ar tu cr dn) {n:Nat} (hn:n < C.length):D.stored n=C[n].b.bs:=by
 unfold DM.stored
 rw [m.cells,getD_m _ _ hn];rfl
theorem stored3_any (k:RefAt3 w T h D) (n:Int):
 Calls Tryz.prog 26 #[.pointer (some ⟨h,0,none⟩),.int .i64 n] w fun e w'=> ∃v,e= .returned v∧Told3 w' v (D.storedI n)∧Below w.heap.size w w':=by
 obtain⟨cv,wv,C,L,ar,tu,cr,dn,R,M⟩:=k
 have HT:=qh (there_any R n)
 rw [M.there]at HT
 by_cases hn:D.has n
 · rw [decide_eq_true hn]at HT
   have Hw0:D.storedI n=D.stored n.toNat:=by unfold DM.storedI;rw [if_pos hn]
   unfold DM.has at hn
   obtain⟨m,rfl⟩:=Int.eq_ofNat_of_zero_le hn.1
   have hm:m < C.length:=by have:=M.cells;have h1:=hn.2;rw [this,List.length_map]at h1;omega
   rw [Int.toNat_natCast,M.stored hm]at Hw0
   obtain⟨g,cap,hcv,h1,h2⟩:=R.cform (by omega)
   have hb:=R.cb C[m] (List.getElem_mem hm)
   have c0:=R.cell6.1
   rw [hcv]at c0
   have e0:=(R.cat hm hcv).1
   have Hw:=qh Hw0
   have Hb:=qh hb
   have hM:=R.many
   have hi1:(0:Int)≤(m:Int):=by omega
   have hi2:(m:Int) < (C.length:Int):=by omega
   have hbn:=below_new w (.cells #[] 5)
   have c0':=cell_below c0 hbn
   have e0':=cell_below e0 hbn
   have H1:=qh (And.intro hbn (And.intro (BlockIs.made w 5 #[]) (hb.bytes.below hbn)))
   clear R M hcv hn Hw0 hb hbn c0 e0
   generalize C[m].b=b at *
   have Hl:=qh Hb.out.bd.1
   unfold RB.v at *
   go_enter Tryz.func26,Tryz.ntmps26
   go_wp2_with fail
   refine HT.out.mono ?_
   rintro e w' ⟨rfl,rfl⟩
   go_wp2_with (refine wpList_clone8 rfl (.tmp 9) (.tmp 17) rfl w.heap.size rfl H1.out.2.1 (some ⟨b.g,0,none⟩) b.bs 256 b.cap rfl Hl.out (by decide) H1.out.2.2 (by decide) ?_;intro g3 cap3 w3 ho3 hg3 hc3 hm3 hgr3)
   go_ret
   rw [Hw.out]
   refine⟨.slice (some ⟨g3,0,none⟩) 256 cap3,rfl,⟨some ⟨g3,0,none⟩,cap3,by rw [Hl.out],own_bytes ho3 Hb.out.bd.2,by rw [Hl.out];exact hc3,Nat.le_trans hm3 (by decide),(fun e=>by cases e),(fun a e=>by cases e;exact own_lt ho3 rfl)⟩,H1.out.1.grown hgr3 (by simp) (fun k e=>by cases e;exact Nat.le_refl _)⟩
 · have Hw:Hid (D.storedI n= []):=qh (by unfold DM.storedI;rw [if_neg hn])
   rw [decide_eq_false hn]at HT
   clear R M
   go_enter Tryz.func26,Tryz.ntmps26
   go_wp2_with fail
   refine HT.out.mono ?_
   rintro e w' ⟨rfl,rfl⟩
   go_wp2_with fail
   go_ret
   rw [Hw.out]
   exact⟨_,rfl,Told3.none _,Below.refl _ _⟩
theorem seenAt_step {L:List RL} {n k:Nat} {b:List Int} (h:k < L.length):seenAt (L.map RL.m) n b (k+1)=if L[k].n=n then L[k].b.bs else seenAt (L.map RL.m) n b k:=by
 conv=>lhs;unfold seenAt
 rw [List.getElem?_map,List.getElem?_eq_getElem h];rfl
theorem read3_any (k:RefAt3 w T h D) (hF:D.Few 1000000) (n:Int):
 Calls Tryz.prog 64 #[.pointer (some ⟨h,0,none⟩),.int .i64 n] w fun e w'=> ∃v,e= .returned (.tuple #[v,.int .i64 (D.read n).2])∧Told3 w' v (D.read n).1∧Below w.heap.size w w':=by
 obtain⟨cv,wv,C,L,ar,tu,cr,dn,R,M⟩:=k
 have HT:=qh (there_any R n)
 rw [M.there]at HT
 have c5:=R.cell6.2.2.2.2.2
 have HM:=qh M
 have HR:=qh R
 have hLl:L.length≤1000000:=by have h1:=hF.ws;rw [HM.out.waits,List.length_map]at h1;exact h1
 clear R M hF
 cases hd:D.down with
 | true=>
   have Hw:Hid (D.read n=([],11)):=qh (by unfold DM.read;rw [if_pos hd])
   rw [HM.out.dn,hd]at c5
   clear hd
   go_enter Tryz.func64,Tryz.ntmps64
   go_wp2_with fail
   go_ret2
   rw [Hw.out]
   exact⟨_,rfl,Told3.none _,Below.refl _ _⟩
 | false=>
   rw [HM.out.dn,hd]at c5
   by_cases hn:D.has n
   · rw [decide_eq_true hn]at HT
     have Hw0:D.read n=(D.seen n.toNat,0):=by unfold DM.read;rw [if_neg (by rw [hd];decide),if_pos hn]
     unfold DM.has at hn
     obtain⟨m,rfl⟩:=Int.eq_ofNat_of_zero_le hn.1
     have hm:m < C.length:=by have:=HM.out.cells;have h1:=hn.2;rw [this,List.length_map]at h1;omega
     have hse:D.seen m=seenAt (L.map RL.m) m C[m].b.bs L.length:=by unfold DM.seen;rw [HM.out.waits,HM.out.stored hm,List.length_map]
     rw [Int.toNat_natCast,hse]at Hw0
     have Hw:=qh Hw0
     obtain⟨g,cap,hcv,h1,h2⟩:=HR.out.cform (by omega)
     obtain⟨X,wcap,hwv,h3,h4⟩:=HR.out.wslice
     have c0:=HR.out.cell6.1
     rw [hcv]at c0
     have e0:=(HR.out.cat hm hcv).1
     have c1:=HR.out.cell6.2.1
     rw [hwv]at c1
     have Hm:=qh hm
     have hi1:(0:Int)≤(m:Int):=by omega
     have hi2:(m:Int) < (C.length:Int):=by omega
     have hM:=HR.out.many
     clear hd hn Hw0 hse hcv hwv
     go_enter Tryz.func64,Tryz.ntmps64
     go_wp2_with fail
     refine HT.out.mono ?_
     rintro e w' ⟨rfl,rfl⟩
     go_wp2_with fail
     go_loopg [6,7] L.length (fun gk s i wx=>wx=w∧ ∃(q:Nat) (b:RB),gk=L.length - q∧q≤L.length∧i= .int .i64 (q:Int)∧s=b.v∧Hid (b.ok w T∧b.bs=seenAt (L.map RL.m) m C[m].b.bs q))
     case atStart=>exact⟨rfl,0,C[m].b,rfl,Nat.zero_le _,rfl,rfl,qh ⟨HR.out.cb C[m] (List.getElem_mem Hm.out),rfl⟩⟩
     case round=>
      obtain⟨rfl,q,b,hgk,hq,rfl,rfl,hB⟩:=hrel
      have Hgk:=qh hgk
      clear hgk
      by_cases hlt:q < L.length
      · obtain⟨g2,cap2,hwv,h5,h6⟩:=HR.out.wform (by omega)
        obtain⟨k0,k1⟩:=HR.out.wat hlt hwv
        have c2:=HR.out.cell6.2.1
        rw [hwv]at c2
        have hj1:(0:Int)≤(q:Int):=by omega
        have hj2:(q:Int) < (L.length:Int):=by omega
        have HS:=qh (seenAt_step (n:=m) (b:=C[m].b.bs) hlt)
        have Hwb:=qh (HR.out.wb L[q] (List.getElem_mem hlt)).2
        clear hwv c1
        generalize L[q]=l at *
        unfold RB.v at *
        by_cases hlm:l.n=m
        · subst hlm
          have hq1:((l.n:Int)==(l.n:Int))=true:=beq_self_eq_true _
          go_wp2_with fail
          go_roundg (L.length - (q+1))
          case measure=>rw [Hgk.out];omega
          case rel=>exact⟨rfl,q+1,l.b,rfl,by omega,by go_num,rfl,qh ⟨Hwb.out,by rw [HS.out];simp⟩⟩
        · have hq1:((l.n:Int)==(m:Int))=false:=beq_eq_false_iff_ne.2 (by omega)
          go_wp2_with fail
          go_roundg (L.length - (q+1))
          case measure=>rw [Hgk.out];omega
          case rel=>exact⟨rfl,q+1,b,rfl,by omega,by go_num,rfl,qh ⟨hB.out.1,by rw [HS.out,if_neg hlm];exact hB.out.2⟩⟩
      · obtain rfl:q=L.length:=by omega
        have hbn:=below_new wr (.cells #[] 5)
        have H1:=qh (And.intro hbn (And.intro (BlockIs.made wr 5 #[]) (hB.out.1.bytes.below hbn)))
        have Hl:=qh hB.out.1.bd.1
        clear hbn
        unfold RB.v at *
        go_wp2_with (refine wpList_clone8 rfl (.tmp 51) (.tmp 52) rfl wr.heap.size rfl H1.out.2.1 (some ⟨b.g,0,none⟩) b.bs 256 b.cap rfl Hl.out (by decide) H1.out.2.2 (by decide) ?_;intro g3 cap3 w3 ho3 hg3 hc3 hm3 hgr3)
        go_ret2
        rw [Hw.out]
        refine⟨.slice (some ⟨g3,0,none⟩) 256 cap3,rfl,⟨some ⟨g3,0,none⟩,cap3,?_,?_,?_,Nat.le_trans hm3 (by decide),(fun e=>by cases e),(fun a e=>by cases e;exact own_lt ho3 rfl)⟩,H1.out.1.grown hgr3 (by simp) (fun k e=>by cases e;exact Nat.le_refl _)⟩
        · show _=Value.slice _ (seenAt (L.map RL.m) m C[m].b.bs L.length).length _
          rw [← hB.out.2,Hl.out]
        · show BytesAt _ _ (seenAt (L.map RL.m) m C[m].b.bs L.length)
          rw [← hB.out.2];exact own_bytes ho3 hB.out.1.bd.2
        · show(seenAt (L.map RL.m) m C[m].b.bs L.length).length≤_
          rw [← hB.out.2,Hl.out];exact hc3
   · have Hw:Hid (D.read n=([],2)):=qh (by unfold DM.read;rw [if_neg (by rw [hd];decide),if_neg hn])
     rw [decide_eq_false hn]at HT
     clear hd
     go_enter Tryz.func64,Tryz.ntmps64
     go_wp2_with fail
     refine HT.out.mono ?_
     rintro e w' ⟨rfl,rfl⟩
     go_wp2_with fail
     go_ret2
     rw [Hw.out]
     exact⟨_,rfl,Told3.none _,Below.refl _ _⟩
end
open Go.RowKit
theorem nums_eq (xs ys:List Int) (hx: ∀z∈xs,0≤z∧z < 256) (hy: ∀z∈ys,0≤z∧z < 256):((strOfNums xs).toList==(strOfNums ys).toList)=sameB xs ys:=by
 rw [Lib.toList_data,Lib.toList_data,strOfNums_data,strOfNums_data]
 unfold sameB
 rw [Bool.eq_iff_iff,beq_iff_eq,decide_eq_true_iff]
 constructor
 · intro h
   have hl:=congrArg List.length h
   rw [List.length_map,List.length_map]at hl
   apply List.ext_getElem hl
   intro i h1 h2
   have h3:=congrArg (fun l=>l[i]?) h
   simp only [List.getElem?_map,List.getElem?_eq_getElem h1,List.getElem?_eq_getElem h2,Option.map_some,Option.some.injEq]at h3
   have h4:=congrArg UInt8.toNat h3
   have a1:=hx _ (List.getElem_mem h1)
   have a2:=hy _ (List.getElem_mem h2)
   rw [UInt8.toNat_ofNat_of_lt' (by show _ < 256;omega),UInt8.toNat_ofNat_of_lt' (by show _ < 256;omega)]at h4
   omega
 · rintro rfl;rfl
theorem same3_any (w:World) (g1 c1 g2 c2:Nat) (xs ys:List Int) (hx:BlkOk xs) (hy:BlkOk ys) (h1:BytesAt w (some ⟨g1,0,none⟩) xs) (h2:BytesAt w (some ⟨g2,0,none⟩) ys):
 Calls Tryz.prog 125 #[.slice (some ⟨g1,0,none⟩) 256 c1,.slice (some ⟨g2,0,none⟩) 256 c2] w fun e w'=>e= .returned (.bool (sameB xs ys))∧w=w':=by
 have e1:=run_convert_bytes_arg (P:=Tryz.prog) w 28 5 Tryz.underlying28 Tryz.underlying5 g1 0 256 c1 xs hx.1 (fun i hi=>h1.one i (by rw [hx.1];exact hi)) 9 Tryz.underlying9
 have e2:=run_convert_bytes_arg (P:=Tryz.prog) w 28 5 Tryz.underlying28 Tryz.underlying5 g2 0 256 c2 ys hy.1 (fun i hi=>h2.one i (by rw [hy.1];exact hi)) 9 Tryz.underlying9
 have he:=nums_eq xs ys hx.2 hy.2
 clear hx hy h1 h2
 go_enter Tryz.func125,Tryz.ntmps125
 go_wp2_with fail
 go_ret
 exact⟨rfl,rfl⟩
section
variable {w : World} {T : Nat → Prop} {h : Nat} {D : DM}
theorem hurt3_any (k:RefAt3 w T h D) (n:Nat) (hn:D.has (n:Int)) (nb:RB) (hb:nb.ok w T):
 Calls Tryz.prog 97 #[.pointer (some ⟨h,0,none⟩),.int .i64 (n:Int),nb.v] w fun e w'=>e= .returned (.int .i64 (D.hurt n nb.bs).1)∧RefAt3 w' T h (D.hurt n nb.bs).2∧Chg T w w':=by
 have Hk:=qh k
 obtain⟨cv,wv,C,L,ar,tu,cr,dn,R,M⟩:=k
 unfold DM.has at hn
 have hm:n < C.length:=by have:=M.cells;have h1:=hn.2;rw [this,List.length_map]at h1;omega
 obtain⟨g,cap,hcv,h1,h2⟩:=R.cform (by omega)
 have c0:=R.cell6.1
 rw [hcv]at c0
 obtain⟨e0,e1⟩:=R.cat hm hcv
 have hcb:=R.cb C[n] (List.getElem_mem hm)
 have HS:=qh (same3_any w nb.g nb.cap C[n].b.g C[n].b.cap nb.bs C[n].b.bs hb.bd hcb.bd hb.bytes hcb.bytes)
 have hst:=M.stored hm
 have hgd:(D.cells.getD n ([],false))=(C[n].b.bs,C[n].hurt):=by rw [M.cells,getD_m _ _ hm];rfl
 have hi1:(0:Int)≤(n:Int):=by omega
 have hi2:(n:Int) < (C.length:Int):=by omega
 have f0:w.frozen? ⟨g,n * 2,none⟩=false:=by
  have:=R.cown
  rw [hcv]at this
  exact this.frozenAt _
 have f1:w.frozen? ⟨g,n * 2+1,none⟩=false:=by
  have:=R.cown
  rw [hcv]at this
  exact this.frozenAt _
 have hM:=R.many
 have HR:=qh R
 have HM:=qh M
 have Hcv:=qh hcv
 have Hm:=qh hm
 have Hb:=qh hb
 clear R M hn hcv hcb hb
 by_cases hs:nb.bs=C[n].b.bs
 · have Hw:Hid (D.hurt n nb.bs=(2,D)):=qh (by unfold DM.hurt;rw [if_pos (by rw [hst];exact hs)])
   rw [show sameB nb.bs C[n].b.bs=true from decide_eq_true hs]at HS
   clear hs hst hgd
   generalize C[n]=c at *
   unfold RB.v at *
   go_enter Tryz.func97,Tryz.ntmps97
   go_wp2_with fail
   refine HS.out.mono ?_
   rintro e w' ⟨rfl,rfl⟩
   go_wp2_with fail
   go_ret
   rw [Hw.out]
   exact⟨rfl,Hk.out,Chg.refl _ _⟩
 · rw [show sameB nb.bs C[n].b.bs=false from decide_eq_false hs]at HS
   obtain⟨x,hh⟩: ∃x,(C[n]'hm).hurt=x:=⟨_,rfl⟩
   cases x with
   | true=>
     have Hw:Hid (D.hurt n nb.bs=(16,D)):=qh (by unfold DM.hurt;rw [if_neg (by rw [hst];exact hs),hgd,hh,if_pos rfl])
     rw [hh]at e1
     clear hs hst hgd hh
     generalize C[n]=c at *
     unfold RB.v at *
     go_enter Tryz.func97,Tryz.ntmps97
     go_wp2_with fail
     refine HS.out.mono ?_
     rintro e w' ⟨rfl,rfl⟩
     go_wp2_with fail
     go_ret
     rw [Hw.out]
     exact⟨rfl,Hk.out,Chg.refl _ _⟩
   | false=>
     have Hw:Hid (D.hurt n nb.bs=(0, { D with cells:=D.cells.set n (nb.bs,true) })):=qh (by unfold DM.hurt;rw [if_neg (by rw [hst];exact hs),hgd,hh,if_neg Bool.false_ne_true])
     rw [hh]at e1
     have k1:=(HR.out.setB Hcv.out Hm.out nb Hb.out).1
     have hl6:n < (C.set n { C[n]with b:=nb }).length:=by rw [List.length_set];exact Hm.out
     have hcv6:cv= .slice (some ⟨g,0,none⟩) (C.set n { C[n]with b:=nb }).length cap:=by rw [List.length_set];exact Hcv.out
     have k2:=(k1.setH hcv6 hl6 true).1
     have hTg:=HR.out.cm g (by rw [Hcv.out];rfl)
     have hC:=((Chg.refl T w).set (b:=g) (i:=n * 2) (.inl hTg) nb.v).set (b:=g) (i:=n * 2+1) (.inl hTg) (.bool true)
     have H2:=qh (And.intro k2 hC)
     clear hs hst hgd hh k1 k2 hC hcv6
     generalize hc:C[n]=c at *
     have Hc:=qh hc
     clear hc
     unfold RB.v at *
     go_enter Tryz.func97,Tryz.ntmps97
     go_wp2_with fail
     refine HS.out.mono ?_
     rintro e w' ⟨rfl,rfl⟩
     go_wp2_with fail
     go_ret
     rw [Hw.out]
     refine⟨rfl,⟨cv,wv,_,L,ar,tu,cr,dn,H2.out.1,⟨?_,HM.out.waits,HM.out.ar,HM.out.tu,HM.out.cr,HM.out.dn,HM.out.lo⟩⟩,H2.out.2⟩
     show D.cells.set n (nb.bs,true)=_
     rw [map_set_m,map_set_m,List.set_set,HM.out.cells]
     congr 1
     simp [RC.m]
end
open Go.RowKit
theorem settleK_step {cs:List (List Int × Bool)} {L:List RL} {f:Nat→Nat} {k:Nat} (h:k < L.length):settleK cs (L.map RL.m) f (k+1)=(settleK cs (L.map RL.m) f k).set L[k].n (storeS ((settleK cs (L.map RL.m) f k).getD L[k].n ([],false)) L[k].b.bs (f k)):=by
 conv=>lhs;unfold settleK
 rw [List.getElem?_map,List.getElem?_eq_getElem h];rfl
section
variable {w : World} {T : Nat → Prop} {h : Nat} {cv wv : Value} {C : List RC} {L : List RL} {ar tu cr : Int} {dn : Bool}
structure Upto (w:World) (T:Nat→Prop) (h:Nat) (cv wv:Value) (C:List RC) (L:List RL) (ar tu cr:Int) (dn:Bool) (f:Nat→Nat) (k:Nat) (w':World) (C':List RC):Prop where
 at_:RefR w' (grow T w w') h cv wv C' L ar tu cr dn
 fr:Chg T w w'
 cells:C'.map RC.m=settleK (C.map RC.m) (L.map RL.m) f k
theorem Upto.begin (R:RefR w T h cv wv C L ar tu cr dn) (f:Nat→Nat):Upto w T h cv wv C L ar tu cr dn f 0 w C:=
 ⟨R.mono (fun _ hj=> .inl hj) (grow_lt R.foot (Nat.le_refl _)),Chg.refl _ _,rfl⟩
theorem Upto.len {w':World} {C':List RC} {f:Nat→Nat} {k:Nat} (u:Upto w T h cv wv C L ar tu cr dn f k w' C'):C'.length=C.length:=by
 have:=congrArg List.length u.cells
 rw [settleK_len,List.length_map,List.length_map]at this
 exact this
theorem Upto.skip {w':World} {C':List RC} {f:Nat→Nat} {k:Nat} (u:Upto w T h cv wv C L ar tu cr dn f k w' C') (hk:k < L.length) (h0:f k=0):Upto w T h cv wv C L ar tu cr dn f (k+1) w' C':=by
 refine⟨u.at_,u.fr,?_⟩
 have hn:=(u.at_.wb L[k] (List.getElem_mem hk)).1
 have hl:L[k].n < (settleK (C.map RC.m) (L.map RL.m) f k).length:=by rw [settleK_len,List.length_map, ← u.len];exact hn
 rw [settleK_step hk,h0,storeS_zero,u.cells,List.getD_eq_getElem?_getD,List.getElem?_eq_getElem hl]
 exact(List.set_getElem_self hl).symm
theorem Upto.store {w':World} {C':List RC} {f:Nat→Nat} {k:Nat} (u:Upto w T h cv wv C L ar tu cr dn f k w' C') (hf: ∀j,T j→j < w.heap.size) (hk:k < L.length) (s:Nat) (hs:s≤8) (h0:f k=s):
 Calls Tryz.prog 96 #[.pointer (some ⟨h,0,none⟩),.agg #[.int .i64 (L[k].n:Int),L[k].b.v],.int .i64 (s:Int)] w' fun e w2=>e= .returned (.tuple #[])∧ ∃C2,Upto w T h cv wv C L ar tu cr dn f (k+1) w2 C2:=by
 have hl:=u.at_.wb L[k] (List.getElem_mem hk)
 refine(store3_any u.at_ L[k] hl.1 hl.2 s hs).mono ?_
 rintro e w2 ⟨rfl,C2,h1,h2,h3⟩
 refine⟨rfl,C2,h1.mono (grow_trans u.fr.size h2.size) (grow_lt hf (Nat.le_trans u.fr.size h2.size)),u.fr.trans h2,?_⟩
 rw [h3,u.cells,settleK_step hk,h0]
end
section
variable {w : World} {T : Nat → Prop} {h : Nat} {D : DM}
theorem Upto.end_ {w':World} {cv wv:Value} {C C':List RC} {L:List RL} {ar tu cr:Int} {dn:Bool} {f:Nat→Nat} (u:Upto w T h cv wv C L ar tu cr dn f L.length w' C') {D:DM} (m1:D.cells=C.map RC.m) (m2:D.waits=L.map RL.m):(D.settle f).cells=C'.map RC.m:=by
 show settleK D.cells D.waits f D.waits.length=_
 rw [u.cells,m1,m2,List.length_map]
theorem sync3_any (k:RefAt3 w T h D) (hF:D.Few 1000000):
 Calls Tryz.prog 61 #[.pointer (some ⟨h,0,none⟩)] w fun e w'=>e= .returned (.int .i64 D.sync.1)∧Ref3 w T h D.sync.2 w':=by
 have Hk:=qh k
 obtain⟨cv,wv,C,L,ar,tu,cr,dn,R,M⟩:=k
 have c5:=R.cell6.2.2.2.2.2
 have HR:=qh R
 have HM:=qh M
 have HF:=qh hF
 clear R M hF
 cases hd:D.down with
 | true=>
   have Hw:Hid (D.sync=(11,D)):=qh (by unfold DM.sync;rw [if_pos hd])
   rw [HM.out.dn,hd]at c5
   clear hd
   go_enter Tryz.func61,Tryz.ntmps61
   go_wp2_with fail
   go_ret
   rw [Hw.out]
   exact⟨rfl,Ref3.same Hk.out⟩
 | false=>
   rw [HM.out.dn,hd]at c5
   have hw0:D.sync=if D.armed=1 then(11,D.trips)else(0,D.turned.settle fun _=>8):=by unfold DM.sync;rw [if_neg (by rw [hd];decide)]
   by_cases ha:D.armed=1
   · rw [if_pos ha]at hw0
     have Hw:=qh hw0
     have h3:=HR.out
     rw [show ar=1 by rw [HM.out.ar,ha];rfl]at h3
     have HTn:=qh (turn3_trips h3 ⟨by rw [HM.out.cr];omega,by rw [HM.out.cr];have:=HF.out.cr;omega⟩)
     clear h3 hw0 ha hd
     go_enter Tryz.func61,Tryz.ntmps61
     go_wp2_with fail
     refine HTn.out.mono ?_
     rintro e w4 ⟨rfl,hd4,hc4⟩
     have HD4:=qh (And.intro hd4 hc4)
     clear hd4 hc4
     go_wp2_with fail
     go_ret
     rw [Hw.out]
     refine⟨rfl,Ref3.of (HD4.out.1.mono (fun _ hj=> .inl hj) (grow_lt HR.out.foot HD4.out.2.size)) ⟨HM.out.cells,HM.out.waits,rfl,HM.out.tu,?_,rfl,Nat.zero_le _⟩ HD4.out.2⟩
     rw [HM.out.cr];rfl
   · rw [if_neg ha]at hw0
     have Hw:=qh hw0
     have HTn:=qh (turn3_done HR.out (by rw [HM.out.ar];omega) ⟨by rw [HM.out.ar];omega,by rw [HM.out.ar];have:=HM.out.lo;omega⟩ ⟨by rw [HM.out.tu];omega,by rw [HM.out.tu];have:=HF.out.tu;omega⟩)
     have Hd:=qh hd
     have Hha:=qh ha
     clear hw0 ha hd
     have hLl:L.length≤1000000:=by have h1:=HF.out.ws;rw [HM.out.waits,List.length_map]at h1;exact h1
     go_enter Tryz.func61,Tryz.ntmps61
     go_wp2_with fail
     refine HTn.out.mono ?_
     rintro e w4 ⟨rfl,hd4,hc4⟩
     have HD4:=qh (And.intro hd4 hc4)
     clear hd4 hc4 c5
     go_wp2_with fail
     go_loopg [3] L.length (fun gk i wx=> ∃(q:Nat) (C':List RC),gk=L.length - q∧q≤L.length∧i= .int .i64 (q:Int)∧Hid (Upto w4 T h cv wv C L (if 0 < ar then ar - 1 else 0) (tu+1) cr dn (fun _=>8) q wx C'))
     case atStart=>exact⟨0,C,rfl,Nat.zero_le _,rfl,qh (Upto.begin HD4.out.1 _)⟩
     case round=>
      obtain⟨q,C',hgk,hq,rfl,hU⟩:=hrel
      have Hgk:=qh hgk
      clear hgk
      by_cases hlt:q < L.length
      · obtain⟨g,cap,hwv,h1,h2⟩:=hU.out.at_.wform (by omega)
        have c1:=hU.out.at_.cell6.2.1
        rw [hwv]at c1
        obtain⟨e0,e1⟩:=hU.out.at_.wat hlt hwv
        have HS:=qh (hU.out.store HD4.out.1.foot hlt 8 (by decide) rfl)
        have hi1:(0:Int)≤(q:Int):=by omega
        have hi2:(q:Int) < (L.length:Int):=by omega
        clear hwv
        unfold RB.v at *
        go_wp2_with fail
        refine HS.out.mono ?_
        rintro e w2 ⟨rfl,C2,hU2⟩
        have HU2:=qh hU2
        clear hU2
        go_wp2_with fail
        go_roundg (L.length - (q+1))
        case measure=>rw [Hgk.out];omega
        case rel=>exact⟨q+1,C2,rfl,by omega,by go_num,HU2⟩
      · obtain rfl:q=L.length:=by omega
        obtain⟨X,cap,hwv,h1,h2⟩:=hU.out.at_.wslice
        have c1:=hU.out.at_.cell6.2.1
        have f1:=hU.out.at_.blk.free 1
        rw [hwv]at c1
        clear hwv
        go_wp2_with fail
        go_ret
        rw [Hw.out]
        have hR2:=hU.out.at_.setW0
        have hC2:Chg T w (wr.setCell ⟨h,1,none⟩ (.slice none 0 0)):=HD4.out.2.trans ((hU.out.fr.set (b:=h) (i:=1) (.inl HD4.out.1.self) (.slice none 0 0)).mono (fun _ hj=> .inl hj))
        refine⟨rfl,Ref3.of (hR2.mono ?_ (grow_lt HR.out.foot hC2.size)) ⟨?_,rfl,?_,?_,HM.out.cr,HM.out.dn,?_⟩ hC2⟩
        · rintro j (hj | hj)
          · exact .inl hj
          · exact .inr ⟨Nat.le_trans HD4.out.2.size hj.1,by rw [set_size];exact hj.2⟩
        · exact hU.out.end_ (D:=D) HM.out.cells HM.out.waits
        · show _=(((D.armed - 1:Nat)):Int)
          rw [HM.out.ar];split<;>omega
        · show _=(((D.turns+1:Nat)):Int)
          rw [HM.out.tu];omega
        · show D.armed - 1≤_
          have:=HM.out.lo;omega
theorem wake3_any (k:RefAt3 w T h D) (hF:D.Few 1000000) (stay torn sectors:Int):
 Calls Tryz.prog 55 #[.pointer (some ⟨h,0,none⟩),.int .i64 stay,.int .i64 torn,.int .i64 sectors] w fun e w'=>e= .returned (.int .i64 (D.wake stay torn sectors).1)∧Ref3 w T h (D.wake stay torn sectors).2 w':=by
 have Hk:=qh k
 obtain⟨cv,wv,C,L,ar,tu,cr,dn,R,M⟩:=k
 have c5:=R.cell6.2.2.2.2.2
 have HR:=qh R
 have HM:=qh M
 have HF:=qh hF
 clear R M hF
 cases hd:D.down with
 | false=>
   have Hw:Hid (D.wake stay torn sectors=(16,D)):=qh (by unfold DM.wake;rw [if_neg (by rw [hd];decide)])
   rw [HM.out.dn,hd]at c5
   clear hd
   go_enter Tryz.func55,Tryz.ntmps55
   go_wp2_with fail
   go_ret
   rw [Hw.out]
   exact⟨rfl,Ref3.same Hk.out⟩
 | true=>
   rw [HM.out.dn,hd]at c5
   have Hw:Hid (D.wake stay torn sectors=(0, { D.settle (fate stay torn sectors)with armed:=0,down:=false })):=qh (by unfold DM.wake;rw [if_pos hd])
   have Hd:=qh hd
   clear hd
   have hLl:L.length≤1000000:=by have h1:=HF.out.ws;rw [HM.out.waits,List.length_map]at h1;exact h1
   go_enter Tryz.func55,Tryz.ntmps55
   go_wp2_with fail
   clear c5
   go_loopg [9] L.length (fun gk i wx=> ∃(q:Nat) (C':List RC),gk=L.length - q∧q≤L.length∧i= .int .i64 (q:Int)∧Hid (Upto w T h cv wv C L ar tu cr dn (fate stay torn sectors) q wx C'))
   case atStart=>exact⟨0,C,rfl,Nat.zero_le _,rfl,qh (Upto.begin HR.out _)⟩
   case round=>
    obtain⟨q,C',hgk,hq,rfl,hU⟩:=hrel
    have Hgk:=qh hgk
    clear hgk
    by_cases hlt:q < L.length
    · obtain⟨g,cap,hwv,h1,h2⟩:=hU.out.at_.wform (by omega)
      have c1:=hU.out.at_.cell6.2.1
      rw [hwv]at c1
      obtain⟨e0,e1⟩:=hU.out.at_.wat hlt hwv
      have hi1:(0:Int)≤(q:Int):=by omega
      have hi2:(q:Int) < (L.length:Int):=by omega
      have hf8:=fate_le stay torn sectors q
      clear hwv
      unfold RB.v at *
      by_cases ht:(q:Int)=torn
      · subst ht
        have hfe:fate stay (q:Int) sectors q=(sectors % 9).toNat:=by unfold fate;rw [if_pos rfl]
        have HS:=qh (hU.out.store HR.out.foot hlt (sectors % 9).toNat (by omega) hfe)
        have hnn:(((sectors % 9).toNat:Nat):Int)=sectors % 9:=Int.toNat_of_nonneg (Int.emod_nonneg _ (by decide))
        rw [hnn]at HS
        clear hfe hnn hf8
        have m3:=mod9 sectors
        obtain⟨m4,m5⟩:=tmod_bd sectors 9 (by decide)
        go_wp2_with fail
        refine HS.out.mono ?_
        rintro e w2 ⟨rfl,C2,hU2⟩
        have HU2:=qh hU2
        clear hU2
        go_wp2_with fail
        go_roundg (L.length - (q+1))
        case measure=>rw [Hgk.out];omega
        case rel=>exact⟨q+1,C2,rfl,by omega,by go_num,HU2⟩
      · by_cases hbit:bits .and .i64 (stay / 2 ^ (q % 60)) 1=1
        · have hfe:fate stay torn sectors q=8:=by unfold fate;rw [if_neg ht,if_pos hbit]
          have HS:=qh (hU.out.store HR.out.foot hlt 8 (by decide) hfe)
          clear hfe hf8
          go_wp2_with fail
          refine HS.out.mono ?_
          rintro e w2 ⟨rfl,C2,hU2⟩
          have HU2:=qh hU2
          clear hU2
          go_wp2_with fail
          go_roundg (L.length - (q+1))
          case measure=>rw [Hgk.out];omega
          case rel=>exact⟨q+1,C2,rfl,by omega,by go_num,HU2⟩
        · have hfe:fate stay torn sectors q=0:=by unfold fate;rw [if_neg ht,if_neg hbit]
          have HU2:=qh (hU.out.skip hlt hfe)
          clear hfe hf8
          go_wp2_with fail
          go_roundg (L.length - (q+1))
          case measure=>rw [Hgk.out];omega
          case rel=>exact⟨q+1,C',rfl,by omega,by go_num,HU2⟩
    · obtain rfl:q=L.length:=by omega
      obtain⟨X,cap,hwv,h1,h2⟩:=hU.out.at_.wslice
      have c1:=hU.out.at_.cell6.2.1
      have f1:=hU.out.at_.blk.free 1
      rw [hwv]at c1
      have k1:=hU.out.at_.setW0
      have k2:=k1.setA 0
      have k3:=k2.setD false
      have hc3:=((hU.out.fr.set (b:=h) (i:=1) (.inl HR.out.self) (.slice none 0 0)).set (b:=h) (i:=2) (.inl HR.out.self) (.int .i64 0)).set (b:=h) (i:=5) (.inl HR.out.self) (.bool false)
      have d2:=k1.cell6.2.2.1
      have g2:=k1.blk.free 2
      have d5:=k2.cell6.2.2.2.2.2
      have g5:=k2.blk.free 5
      have H3:=qh (And.intro k3 hc3)
      clear hwv k1 k2 k3 hc3
      go_wp2_with fail
      go_ret
      rw [Hw.out]
      refine⟨rfl,Ref3.of (H3.out.1.mono ?_ (grow_lt HR.out.foot H3.out.2.size)) ⟨?_,rfl,rfl,HM.out.tu,HM.out.cr,rfl,Nat.zero_le _⟩ H3.out.2⟩
      · rintro j (hj | hj)
        · exact .inl hj
        · exact .inr ⟨hj.1,by rw [set_size,set_size,set_size];exact hj.2⟩
      · exact hU.out.end_ (D:=D) HM.out.cells HM.out.waits
end
open Go.RowKit
section
variable {w : World} {T : Nat → Prop} {h : Nat} {D : DM}
theorem Ref3.after {w1 w2:World} {D':DM} {P:Nat→Prop} (hb:Below w.heap.size w w1) (hP: ∀j,P j→T j∨(w.heap.size≤j∧j < w1.heap.size)) (k:RefAt3 w2 P h D') (hc:Chg P w1 w2) (hf: ∀j,T j→j < w.heap.size):Ref3 w T h D' w2:=by
 have hC:Chg T w w2:=(Chg.of_below hb).trans (hc.mono (fun j hj=>hP j hj))
 refine⟨k.mono (fun j hj=> ?_) (grow_lt hf hC.size),hC⟩
 rcases hP j hj with h1 | h1
 · exact .inl h1
 · exact .inr ⟨h1.1,Nat.lt_of_lt_of_le h1.2 hc.size⟩
theorem wipe3_any (k:RefAt3 w T h D) (n:Int):
 Calls Tryz.prog 56 #[.pointer (some ⟨h,0,none⟩),.int .i64 n] w fun e w'=>e= .returned (.int .i64 (D.wipe n).1)∧Ref3 w T h (D.wipe n).2 w':=by
 have Hk:=qh k
 obtain⟨cv,wv,C,L,ar,tu,cr,dn,R,M⟩:=k
 have HT:=qh (there_any R n)
 rw [M.there]at HT
 clear R M
 by_cases hn:D.has n
 · rw [decide_eq_true hn]at HT
   have hn0:=hn
   unfold DM.has at hn0
   obtain⟨m,rfl⟩:=Int.eq_ofNat_of_zero_le hn0.1
   have Hw:Hid (D.wipe m=D.hurt m zero256):=qh (by unfold DM.wipe;rw [if_pos hn,Int.toNat_natCast];rfl)
   have hbn:=below_new w (.cells (u8s zero256).toArray 5)
   have ho:=World.ownsRow_lit (base:=0) (e:=5) (size:=1) w (u8s zero256).toArray 256 (Nat.zero_le _) (by decide) (by rw [List.size_toArray,u8s_len,zero256_len])
   have hT1: ∀j,(T j∨j=w.heap.size)→j < (w.alloc (.cells (u8s zero256).toArray 5)).heap.size:=by
    intro j hj
    rw [size1]
    rcases hj with hj | rfl
    · have:=Hk.out.foot j hj;omega
    · omega
   have HH:=qh (hurt3_any (w:=w.alloc (.cells (u8s zero256).toArray 5)) (T:=fun j=>T j∨j=w.heap.size) ((Hk.out.below hbn).mono (fun _ hj=> .inl hj) hT1) m hn ⟨w.heap.size,256,zero256⟩ ⟨by simpa [RB.v] using ho,nought_ok,.inr rfl⟩)
   have Hbn:=qh hbn
   have hmk:=made256r
   clear hn hn0 hbn ho hT1
   unfold RB.v at *
   go_enter Tryz.func56,Tryz.ntmps56
   go_wp2_with fail
   refine HT.out.mono ?_
   rintro e w' ⟨rfl,rfl⟩
   go_wp2_with fail
   refine HH.out.mono ?_
   rintro e w2 ⟨rfl,h2,h3⟩
   have H2:=qh (And.intro h2 h3)
   clear h2 h3
   go_wp2_with fail
   go_ret
   rw [Hw.out]
   refine⟨rfl,Ref3.after Hbn.out (fun j hj=> ?_) H2.out.1 H2.out.2 Hk.out.foot⟩
   rcases hj with hj | rfl
   · exact .inl hj
   · exact .inr ⟨Nat.le_refl _,by rw [size1];omega⟩
 · have Hw:Hid (D.wipe n=(2,D)):=qh (by unfold DM.wipe;rw [if_neg hn])
   rw [decide_eq_false hn]at HT
   go_enter Tryz.func56,Tryz.ntmps56
   go_wp2_with fail
   refine HT.out.mono ?_
   rintro e w' ⟨rfl,rfl⟩
   go_wp2_with fail
   go_ret
   rw [Hw.out]
   exact⟨rfl,Ref3.same Hk.out⟩
theorem arm3_any (k:RefAt3 w T h D) (n:Int) (hn:n≤9223372036854775807):
 Calls Tryz.prog 53 #[.pointer (some ⟨h,0,none⟩),.int .i64 n] w fun e w'=>e= .returned (.tuple #[])∧Ref3 w T h (D.arm n) w':=by
 have Hk:=qh k
 obtain⟨cv,wv,C,L,ar,tu,cr,dn,R,M⟩:=k
 have c5:=R.cell6.2.2.2.2.2
 have HM:=qh M
 have HR:=qh R
 rw [M.dn]at c5
 cases hd:D.down with
 | true=>
   have Hw:Hid (D.arm n=D):=qh (by unfold DM.arm;rw [if_pos hd])
   rw [hd]at c5
   clear hd R M
   go_enter Tryz.func53,Tryz.ntmps53
   go_wp2_with fail
   go_end0
   rw [Hw.out]
   exact⟨rfl,Ref3.same Hk.out⟩
 | false=>
   have Hw:Hid (D.arm n= { D with armed:=n.toNat }):=qh (by unfold DM.arm;rw [if_neg (by rw [hd];decide)])
   rw [hd]at c5
   have c2:=R.cell6.2.2.1
   have f2:=R.blk.free 2
   have H2:=qh (And.intro (R.setA (n.toNat:Int)) (R.chg1 2 (.int .i64 (n.toNat:Int))))
   clear hd R M
   by_cases h0:0 < n
   · have hmx:((n.toNat:Nat):Int)=n:=Int.toNat_of_nonneg (by omega)
     rw [hmx]at H2
     have Hmx:=qh hmx
     clear hmx
     go_enter Tryz.func53,Tryz.ntmps53
     go_wp2_with fail
     all_goals go_end0
     all_goals rw [Hw.out]
     all_goals exact⟨rfl,Ref3.of (H2.out.1.mono (fun _ hj=> .inl hj) (grow_lt HR.out.foot H2.out.2.size)) ⟨HM.out.cells,HM.out.waits,Hmx.out.symm,HM.out.tu,HM.out.cr,HM.out.dn,by show n.toNat≤_;omega⟩ H2.out.2⟩
   · by_cases h1:n=0
     · subst h1
       have hmx:(((0:Int).toNat:Nat):Int)=0:=rfl
       rw [hmx]at H2
       have Hmx:=qh hmx
       clear hmx
       go_enter Tryz.func53,Tryz.ntmps53
       go_wp2_with fail
       all_goals go_end0
       all_goals rw [Hw.out]
       all_goals exact⟨rfl,Ref3.of (H2.out.1.mono (fun _ hj=> .inl hj) (grow_lt HR.out.foot H2.out.2.size)) ⟨HM.out.cells,HM.out.waits,Hmx.out.symm,HM.out.tu,HM.out.cr,HM.out.dn,by show(0:Int).toNat≤_;decide⟩ H2.out.2⟩
     · have h2:n < 0:=by omega
       have hmx:((n.toNat:Nat):Int)=0:=by omega
       rw [hmx]at H2
       have Hmx:=qh hmx
       clear hmx
       go_enter Tryz.func53,Tryz.ntmps53
       go_wp2_with fail
       all_goals go_end0
       all_goals rw [Hw.out]
       all_goals exact⟨rfl,Ref3.of (H2.out.1.mono (fun _ hj=> .inl hj) (grow_lt HR.out.foot H2.out.2.size)) ⟨HM.out.cells,HM.out.waits,Hmx.out.symm,HM.out.tu,HM.out.cr,HM.out.dn,by show n.toNat≤_;omega⟩ H2.out.2⟩
theorem crash3_any (k:RefAt3 w T h D) (hF:D.Few 1000000):
 Calls Tryz.prog 54 #[.pointer (some ⟨h,0,none⟩)] w fun e w'=>e= .returned (.int .i64 D.crash.1)∧Ref3 w T h D.crash.2 w':=by
 have Hk:=qh k
 obtain⟨cv,wv,C,L,ar,tu,cr,dn,R,M⟩:=k
 have c5:=R.cell6.2.2.2.2.2
 have HM:=qh M
 have HR:=qh R
 rw [M.dn]at c5
 cases hd:D.down with
 | true=>
   have Hw:Hid (D.crash=(11,D)):=qh (by unfold DM.crash;rw [if_pos hd])
   rw [hd]at c5
   clear hd R M
   go_enter Tryz.func54,Tryz.ntmps54
   go_wp2_with fail
   go_ret
   rw [Hw.out]
   exact⟨rfl,Ref3.same Hk.out⟩
 | false=>
   have Hw:Hid (D.crash=(0, { D with down:=true,crashes:=D.crashes+1 })):=qh (by unfold DM.crash;rw [if_neg (by rw [hd];decide)])
   rw [hd]at c5
   have f5:=R.blk.free 5
   have k1:=R.setD true
   have c4:=k1.cell6.2.2.2.2.1
   have f4:=k1.blk.free 4
   have k2:=k1.setCr (cr+1)
   have H2:=qh (And.intro k2 (((Chg.refl T w).set (b:=h) (i:=5) (.inl R.self) (.bool true)).set (b:=h) (i:=4) (.inl R.self) (.int .i64 (cr+1))))
   have hc0:0≤cr:=by rw [M.cr];omega
   have hc1:cr≤1000000:=by rw [M.cr];have:=hF.cr;omega
   clear hd R M k1 k2 hF
   go_enter Tryz.func54,Tryz.ntmps54
   go_wp2_with fail
   go_ret
   rw [Hw.out]
   refine⟨rfl,Ref3.of (H2.out.1.mono (fun _ hj=> .inl hj) (grow_lt HR.out.foot H2.out.2.size)) ⟨HM.out.cells,HM.out.waits,HM.out.ar,HM.out.tu,?_,rfl,HM.out.lo⟩ H2.out.2⟩
   rw [HM.out.cr];rfl
end
open Go.RowKit
section
variable {w : World} {T : Nat → Prop} {h : Nat} {D : DM}
theorem rot3_any (k:RefAt3 w T h D) (n bit:Int) (mask:Nat) (hmask:mask < 4294967296):
 Calls Tryz.prog 57 #[.pointer (some ⟨h,0,none⟩),.int .i64 n,.int .i64 bit,.int .u32 (mask:Int)] w fun e w'=>e= .returned (.int .i64 (D.rot n bit mask).1)∧Ref3 w T h (D.rot n bit mask).2 w':=by
 have Hk:=qh k
 obtain⟨cv,wv,C,L,ar,tu,cr,dn,R,M⟩:=k
 have HT:=qh (there_any R n)
 rw [M.there]at HT
 by_cases hn:D.has n
 · rw [decide_eq_true hn]at HT
   by_cases hb0:bit < 0
   · have Hw:Hid (D.rot n bit mask=(2,D)):=qh (by unfold DM.rot;rw [if_neg (fun e=>by omega)])
     clear R M hn
     go_enter Tryz.func57,Tryz.ntmps57
     go_wp2_with fail
     refine HT.out.mono ?_
     rintro e w' ⟨rfl,rfl⟩
     go_wp2_with fail
     go_ret
     rw [Hw.out]
     exact⟨rfl,Ref3.same Hk.out⟩
   · by_cases hb1:2048≤bit
     · have Hw:Hid (D.rot n bit mask=(2,D)):=qh (by unfold DM.rot;rw [if_neg (fun e=>by omega)])
       clear R M hn
       go_enter Tryz.func57,Tryz.ntmps57
       go_wp2_with fail
       refine HT.out.mono ?_
       rintro e w' ⟨rfl,rfl⟩
       go_wp2_with fail
       go_ret
       rw [Hw.out]
       exact⟨rfl,Ref3.same Hk.out⟩
     · obtain⟨bt,rfl⟩:=Int.eq_ofNat_of_zero_le (show(0:Int)≤bit by omega)
       have hn0:=hn
       unfold DM.has at hn0
       obtain⟨m,rfl⟩:=Int.eq_ofNat_of_zero_le hn0.1
       have hm:m < C.length:=by have:=M.cells;have h1:=hn0.2;rw [this,List.length_map]at h1;omega
       have Hw0:D.rot m bt mask=D.hurt m (flipK (D.stored m) bt mask (min 32 (2048 - bt))):=by unfold DM.rot;rw [if_pos ⟨hn,by omega,by omega⟩,Int.toNat_natCast,Int.toNat_natCast]
       rw [M.stored hm]at Hw0
       have Hw:=qh Hw0
       obtain⟨N,hN⟩: ∃N,N=min 32 (2048 - bt):=⟨_,rfl⟩
       rw [← hN]at Hw
       have hN1:N≤32:=by omega
       have hN2:bt+N≤2048:=by omega
       have hN3:N=32∨bt+N=2048:=by omega
       obtain⟨g,cap,hcv,h1,h2⟩:=R.cform (by omega)
       have hb:=R.cb C[m] (List.getElem_mem hm)
       have c0:=R.cell6.1
       rw [hcv]at c0
       have e0:=(R.cat hm hcv).1
       have Hb:=qh hb
       have hM:=R.many
       have hi1:(0:Int)≤(m:Int):=by omega
       have hi2:(m:Int) < (C.length:Int):=by omega
       have hbn:=below_new w (.cells #[] 5)
       have c0':=cell_below c0 hbn
       have e0':=cell_below e0 hbn
       have H1:=qh (And.intro hbn (And.intro (BlockIs.made w 5 #[]) (hb.bytes.below hbn)))
       have Hn:=qh hn
       clear R M hcv hn Hw0 hb hbn c0 e0 hn0 hN
       generalize C[m].b=b at *
       have Hl:=qh Hb.out.bd.1
       unfold RB.v at *
       go_enter Tryz.func57,Tryz.ntmps57
       go_wp2_with fail
       refine HT.out.mono ?_
       rintro e w' ⟨rfl,rfl⟩
       go_wp2_with (refine wpList_clone8 rfl (.tmp 23) (.tmp 31) rfl w.heap.size rfl H1.out.2.1 (some ⟨b.g,0,none⟩) b.bs 256 b.cap rfl Hl.out (by decide) H1.out.2.2 (by decide) ?_;intro g3 cap3 w3 ho3 hg3 hc3 hm3 hgr3)
       have H3:=qh (And.intro ho3 (And.intro hg3 (H1.out.1.grown hgr3 (by simp) (fun k e=>by cases e;exact Nat.le_refl _))))
       clear ho3 hg3 hgr3 c0' e0'
       have hc3':256≤(cap3:Int):=by omega
       go_loopg [10] N (fun gk i wx=> ∃q:Nat,gk=N - q∧q≤N∧i= .int .i64 (q:Int)∧Hid (wx.ownsRow 0 5 1 (.slice (some ⟨g3,0,none⟩) 256 cap3) 256 (u8s (flipK b.bs bt mask q))∧w3.grownBy wx (some g3)))
       case atStart=>exact⟨0,rfl,Nat.zero_le _,rfl,qh ⟨H3.out.1,World.grownBy.refl _ _⟩⟩
       case round=>
        obtain⟨q,hgk,hq,rfl,hR⟩:=hrel
        have Hgk:=qh hgk
        clear hgk
        by_cases hlt:q < N
        · have hlt1:(q:Int) < 32:=by omega
          have hlt2:(bt:Int)+(q:Int) < 2048:=by omega
          have hok:=flipK_ok Hb.out.bd bt mask q
          have hj:(bt+q) / 8 < 256:=by omega
          have cx:wr.cell? ⟨g3,(bt+q) / 8,none⟩=some (.int .u8 ((flipK b.bs bt mask q).getD ((bt+q) / 8) 0)):=by
           rw [hR.out.1.cellAt _ (by omega)]
           unfold u8s
           rw [List.getElem?_map,List.getD_eq_getElem?_getD,List.getElem?_eq_getElem (by rw [hok.1];exact hj)];rfl
          have fx:=hR.out.1.frozenAt ((bt+q) / 8)
          have hxb:0≤(flipK b.bs bt mask q).getD ((bt+q) / 8) 0∧(flipK b.bs bt mask q).getD ((bt+q) / 8) 0 < 256:=by
           rw [List.getD_eq_getElem?_getD,List.getElem?_eq_getElem (by rw [hok.1];exact hj)]
           exact hok.2 _ (List.getElem_mem _)
          have hmb:=mask_bit mask q hmask
          cases ht:mask.testBit q with
          | true=>
            rw [ht,if_pos rfl]at hmb
            have hfl:=flip_val _ hxb mask q ((bt+q) % 8) hmask (Nat.mod_lt _ (by decide))
            rw [ht,if_pos rfl,hmb,show(1 % 256:Int)=1 from rfl,Int.one_mul]at hfl
            have HF:Hid (flipK b.bs bt mask (q+1)=(flipK b.bs bt mask q).set ((bt+q) / 8) (bits .xor .u8 ((flipK b.bs bt mask q).getD ((bt+q) / 8) 0) (2 ^ ((bt+q) % 8) % 256))):=qh (by
             rw [hfl]
             conv=>lhs;unfold flipK flipAt
             rw [ht,if_pos rfl])
            clear hfl hxb ht
            generalize (flipK b.bs bt mask q).getD ((bt+q) / 8) 0=x at *
            have Hok:=qh hok
            clear hok
            go_wp2_with fail
            go_region
            have HS:=qh (hR.out.1.stored ((bt+q) / 8) (.int .u8 (bits .xor .u8 x (2 ^ ((bt+q) % 8) % 256))))
            clear cx fx
            generalize (bits .xor .u8 x (2 ^ ((bt+q) % 8) % 256))=y at *
            go_wp2_with fail
            go_roundg (N - (q+1))
            case measure=>rw [Hgk.out];omega
            case rel=>
             refine⟨q+1,rfl,by omega,by go_num,qh ⟨?_,?_⟩⟩
             · rw [HF.out, ← u8s_set];exact HS.out.1
             · have hg:=grown_at hR.out.2 ((bt+q) / 8) (.int .u8 y)
               exact⟨hg.os,hg.tape,hg.output,hg.size,hg.block⟩
          | false=>
            rw [ht,if_neg Bool.false_ne_true]at hmb
            have HF:Hid (flipK b.bs bt mask (q+1)=flipK b.bs bt mask q):=qh (by
             conv=>lhs;unfold flipK flipAt
             rw [ht,if_neg Bool.false_ne_true])
            clear cx fx hxb hok ht
            go_wp2_with fail
            go_roundg (N - (q+1))
            case measure=>rw [Hgk.out];omega
            case rel=>exact⟨q+1,rfl,by omega,by go_num,qh ⟨by rw [HF.out];exact hR.out.1,hR.out.2⟩⟩
        · obtain rfl:q=N:=by omega
          have hB:Below w.heap.size w wr:=below_grown H3.out.2.2 hR.out.2 H3.out.2.2.size H3.out.2.1
          have hlt3:=(hR.out.1.lt g3 rfl).2
          have hT1: ∀j,(T j∨j=g3)→j < wr.heap.size:=by
           rintro j (hj | rfl)
           · have:=Hk.out.foot j hj;have:=hB.size;omega
           · exact hlt3
          have HH:=qh (hurt3_any (w:=wr) (T:=fun j=>T j∨j=g3) ((Hk.out.below hB).mono (fun _ hj=> .inl hj) hT1) m Hn.out ⟨g3,cap3,flipK b.bs bt mask q⟩ ⟨hR.out.1,flipK_ok Hb.out.bd bt mask q,.inr rfl⟩)
          have HB:=qh (And.intro hB hlt3)
          clear hB hlt3 hT1
          unfold RB.v at *
          have hcs:(q:Int) < 32∧(bt:Int)+(q:Int)=2048∨(q:Int)=32:=by omega
          rcases hcs with⟨ha,hb⟩ | ha
          · have hx: ¬(bt:Int)+(q:Int) < 2048:=by omega
            go_wp2_with fail
            refine HH.out.mono ?_
            rintro e w2 ⟨rfl,h2,h3⟩
            have H2:=qh (And.intro h2 h3)
            clear h2 h3
            go_wp2_with fail
            go_ret
            rw [Hw.out]
            refine⟨rfl,Ref3.after HB.out.1 (fun j hj=> ?_) H2.out.1 H2.out.2 Hk.out.foot⟩
            rcases hj with hj | rfl
            · exact .inl hj
            · exact .inr ⟨H3.out.2.1,HB.out.2⟩
          · have hx: ¬(q:Int) < 32:=by omega
            go_wp2_with fail
            refine HH.out.mono ?_
            rintro e w2 ⟨rfl,h2,h3⟩
            have H2:=qh (And.intro h2 h3)
            clear h2 h3
            go_wp2_with fail
            go_ret
            rw [Hw.out]
            refine⟨rfl,Ref3.after HB.out.1 (fun j hj=> ?_) H2.out.1 H2.out.2 Hk.out.foot⟩
            rcases hj with hj | rfl
            · exact .inl hj
            · exact .inr ⟨H3.out.2.1,HB.out.2⟩
 · have Hw:Hid (D.rot n bit mask=(2,D)):=qh (by unfold DM.rot;rw [if_neg (fun e=>hn e.1)])
   rw [decide_eq_false hn]at HT
   clear R M
   go_enter Tryz.func57,Tryz.ntmps57
   go_wp2_with fail
   refine HT.out.mono ?_
   rintro e w' ⟨rfl,rfl⟩
   go_wp2_with fail
   go_ret
   rw [Hw.out]
   exact⟨rfl,Ref3.same Hk.out⟩
end
open Go.RowKit
theorem infoCell3 :(Tryz.prog.info? 109).map (fun i=>(i.zero,i.size,i.bytes))=some (some (.agg #[.slice none 0 0,.bool false]),2,32):=by kernel_rfl
theorem RC.one (c:RC): ∀v∈c.cells,v.oneCell'=true:=by
 intro v hv
 unfold RC.cells RB.v at hv
 rcases List.mem_cons.1 hv with rfl | hv
 · rfl
 · obtain rfl:=List.mem_singleton.1 hv;rfl
section
variable {w w' : World} {T T' : Nat → Prop} {h : Nat} {cv wv : Value} {C : List RC} {L : List RL} {ar tu cr : Int} {dn : Bool}
theorem RefR.setCv (k:RefR w T h cv wv C L ar tu cr dn) {w1 w2:World} {v':Value} {c:RC} (hb:Below w.heap.size w w1) (hl:c.b.ok w1 T') (hT: ∀j,T j→T' j) (ho:w2.ownsRow 0 109 2 v' (C.length+1) (C.flatMap RC.cells++RC.cells c)) (hg:w1.grownBy w2 cv.ownBlock) (hv:v'.ownBlock=cv.ownBlock∨v'.ownBlock=some w1.heap.size) (hf: ∀j,T' j→j < w1.heap.size) (hm:C.length+1≤4096):
 RefR (w2.setCell ⟨h,0,none⟩ v') (fun j=>T' j∨(w1.heap.size≤j∧j < w2.heap.size)) h v' wv (C++ [c]) L ar tu cr dn∧Chg T w (w2.setCell ⟨h,0,none⟩ v'):=by
 have k1:=(k.below hb).mono hT hf
 have hs1:=hb.size
 have hs2:=hg.size
 have htW: ∀b:RB,b.ok w1 T'→cv.ownBlock≠some b.g:=fun b hb=>by
  rcases own_tags k1.cown hb.own (by decide)with e | e
  · rw [e];intro e;cases e
  · exact e
 have hset:=(grown_at (World.grownBy.refl w2 (some h)) 0 v')
 have hblk2:BlockIs w2 h 54 #[cv,wv,.int .i64 ar,.int .i64 tu,.int .i64 cr,.bool dn]:=k1.blk.kept hg (fun e=>own_tag k1.cown k1.blk (by decide) e.symm)
 have hc2:w2.ownsRow 0 150 2 wv L.length (L.flatMap RL.cells):=k1.wown.kept hg (own_tags k1.wown k1.cown (by decide))
 have tg: ∀b:RB,b.ok w1 T'→b.ok (w2.setCell ⟨h,0,none⟩ v') (fun j=>T' j∨(w1.heap.size≤j∧j < w2.heap.size)):=fun b hb=>by
  refine hb.keep ((Below.heap_setCell w2 ⟨h,0,none⟩ v' b.g ?_).trans (hg.block _ (hf _ hb.mem) (fun e=>htW b hb e.symm))) (.inl hb.mem)
  intro e
  have e:b.g=h:=e
  exact own_tag hb.own k1.blk (by decide) (by rw [← e];rfl)
 have hlt:=fun b (e:v'.ownBlock=some b)=>(ho.lt b e).2
 refine⟨⟨?_,.inl k1.self,hblk2.set1 0 v',?_,hc2.kept hset (.inr (own_tag hc2 hblk2 (by decide))),?_,fun b e=> .inl (k1.wm b e),?_,fun l hl=>⟨by rw [List.length_append];exact Nat.lt_of_lt_of_le (k1.wb l hl).1 (Nat.le_add_right _ _),tg _ (k1.wb l hl).2⟩,by rw [List.length_append];exact hm⟩,?_⟩
 · rintro j (hj | hj)
   · have:=hf j hj
     show j < (w2.setCell _ _).heap.size
     rw [show (w2.setCell ⟨h,0,none⟩ v').heap.size=w2.heap.size by simp [World.setCell]];omega
   · rw [show (w2.setCell ⟨h,0,none⟩ v').heap.size=w2.heap.size by simp [World.setCell]];exact hj.2
 · rw [List.length_append,List.flatMap_append]
   refine own_same (ho.kept hset (.inr (own_tag ho hblk2 (by decide)))) rfl (by simp)
 · intro b e
   rcases hv with h1 | h1
   · exact .inl (k1.cm b (h1 ▸ e))
   · rw [h1]at e;injection e with e
     have:=hlt b (by rw [h1,e])
     exact .inr ⟨by omega,this⟩
 · intro x hx
   rcases List.mem_append.1 hx with hx | hx
   · exact tg _ (k1.cb x hx)
   · obtain rfl:=List.mem_singleton.1 hx
     exact tg _ hl
 · refine Chg.set ⟨hg.os.trans hb.os,hg.tape.trans hb.tape,hg.output.trans hb.output,by omega,fun j hj hT=> ?_⟩ (.inl k.self) _
   exact(hg.block j (by omega) (fun e=>hT (k.cm j e.symm))).trans (hb.block j hj)
end
theorem new3_any (w:World) (n:Nat) (h0:0 < n) (h1:n≤4096):
 Calls Tryz.prog 18 #[.int .i64 (n:Int)] w fun e w'=> ∃h,e= .returned (.tuple #[.pointer (some ⟨h,0,none⟩),.int .i64 0])∧RefAt3 w' (fun k=>w.heap.size≤k∧k < w'.heap.size) h (DM.new n)∧Below w.heap.size w w':=by
 have hn1: ¬(n:Int) < 1:=by omega
 have hn2: ¬(n:Int) > 4096:=by omega
 have hmk:=made256r
 go_enter Tryz.func18,Tryz.ntmps18
 go_wp2_with fail
 go_loopg [5] n (fun gk i wx=> ∃(q:Nat) (cv:Value) (C:List RC),gk=n - q∧q≤n∧i= .int .i64 (q:Int)∧Hid (RefR wx (fun j=>w.heap.size≤j∧j < wx.heap.size) w.heap.size cv (.slice none 0 0) C [] 0 0 0 false∧Below w.heap.size w wx∧C.map RC.m=List.replicate q nought))
 case atStart=>
  refine⟨0,.slice none 0 0,[],rfl,Nat.zero_le _,rfl,qh ⟨⟨fun _ hj=>hj.2,⟨Nat.le_refl _,by simp⟩,BlockIs.made w _ _,World.ownsRow_nil _ _ _ _,World.ownsRow_nil _ _ _ _,(fun b e=>by cases e),(fun b e=>by cases e),(fun c hc=>by cases hc),(fun c hc=>by cases hc),by simp⟩,below_new w _,rfl⟩⟩
 case round=>
  obtain⟨q,cv,C,hgk,hq,rfl,hR⟩:=hrel
  have Hgk:=qh hgk
  clear hgk
  have hlen:C.length=q:=by have:=congrArg List.length hR.out.2.2;rw [List.length_map,List.length_replicate]at this;exact this
  by_cases hlt:q < n
  · have Hlen:=qh hlen
    clear hlen
    obtain⟨i0,hi,hz0,hz1,hz2⟩:=info_parts infoCell3
    have b1:=below_new wr (.cells (u8s zero256).toArray 5)
    have b2:=b1.alloc b1.size (.cells (RC.cells ⟨⟨wr.heap.size,256,zero256⟩,false⟩).toArray 109)
    have c0:=hR.out.1.cell6.1
    have c0':=(hR.out.1.below b1).cell6.1
    have c0'':((wr.alloc (.cells (u8s zero256).toArray 5)).alloc (.cells #[.slice (some ⟨wr.heap.size,0,none⟩) 256 256,.bool false] 109)).cell? ⟨w.heap.size,0,none⟩=some cv:=(hR.out.1.below b2).cell6.1
    have Hb:=qh (And.intro b1 b2)
    clear b1 b2
    go_wp2_with fail
    have HA:=qh (hR.out.1.below Hb.out.2)
    have HN:Hid (∀j v,(RC.cells ⟨⟨wr.heap.size,256,zero256⟩,false⟩)[j]? =some v→((wr.alloc (.cells (u8s zero256).toArray 5)).alloc (.cells (RC.cells ⟨⟨wr.heap.size,256,zero256⟩,false⟩).toArray 109)).cell? ((⟨wr.heap.size+1,0,none⟩:Addr).add j)=some v):=qh (fun j v hj=>by
     rw [Addr.add_mid,Nat.zero_add]
     have:=(BlockIs.made (wr.alloc (.cells (u8s zero256).toArray 5)) 109 (RC.cells ⟨⟨wr.heap.size,256,zero256⟩,false⟩).toArray).cell j
     rw [size1]at this
     exact this.trans (by rw [List.getElem?_toArray];exact hj))
    have Hzb:Hid (RB.ok (wr.alloc (.cells (u8s zero256).toArray 5)) (fun j=>w.heap.size≤j∧j < wr.heap.size+1) ⟨wr.heap.size,256,zero256⟩):=qh ⟨by
     have ho:=World.ownsRow_lit (base:=0) (e:=5) (size:=1) wr (u8s zero256).toArray 256 (Nat.zero_le _) (by decide) (by rw [List.size_toArray,u8s_len,zero256_len])
     simpa [RB.v] using ho,nought_ok,⟨hR.out.2.1.size,Nat.lt_succ_self _⟩⟩
    have hh1:(wr.alloc (.cells (u8s zero256).toArray 5)).heap.size=wr.heap.size+1:=size1 _ _
    go_region_law (refine step_append_one rfl (.tmp 23) (.tmp 26) 51 rfl 0 109 i0 (.agg #[.slice none 0 0,.bool false]) 2 32 Tryz.underlying51 hi hz0 hz1 hz2 rfl (by decide) cv C.length (C.flatMap RC.cells) (by rfl) (by first | exact HA.out.cown | exact HA.out.cown.drew) ⟨wr.heap.size+1,0,none⟩ 1 (RC.cells ⟨⟨wr.heap.size,256,zero256⟩,false⟩) (by rfl) rfl (by first | exact HN.out) (RC.one _) (by have:=Hlen.out;unfold maxLen;omega) (by have:=Hlen.out;omega) (Nat.zero_le _) ?_;intro v5 w5 ho5 hg5 hl5;obtain⟨X5,cap5,hv5,_,_⟩:=own_slice ho5;subst hv5;have H5:=qh (And.intro ho5 (And.intro hg5 hl5));have d5:w5.cell? ⟨w.heap.size,0,none⟩=some cv:=H5.out.2.1.cell HA.out.cell6.1 (fun e=>own_tag HA.out.cown HA.out.blk (by decide) e.symm);have f5:w5.frozen? ⟨w.heap.size,0,none⟩=false:=(World.frozen?_of_block (a:=⟨w.heap.size,0,none⟩) (H5.out.2.1.block w.heap.size HA.out.lt (fun e=>own_tag HA.out.cown HA.out.blk (by decide) e.symm))).trans (HA.out.blk.free 0);clear ho5 hg5 hl5)
    all_goals
     clear d5 f5 hi hz0 hz1 hz2 c0 c0' c0'' hh1
     have hg5:((wr.alloc (.cells (u8s zero256).toArray 5)).alloc (.cells (RC.cells ⟨⟨wr.heap.size,256,zero256⟩,false⟩).toArray 109)).grownBy w5 cv.ownBlock:=⟨H5.out.2.1.os,H5.out.2.1.tape,H5.out.2.1.output,H5.out.2.1.size,H5.out.2.1.block⟩
     have h5s:=hg5.size
     rw [size1,size1]at h5s
     have HF:=qh (RefR.setCv (T':=fun j=>w.heap.size≤j∧j < wr.heap.size+1) hR.out.1 (c:=⟨⟨wr.heap.size,256,zero256⟩,false⟩) Hb.out.2 (Hzb.out.keep (below_new (wr.alloc (.cells (u8s zero256).toArray 5)) _ |>.block wr.heap.size (by rw [size1];omega)) ⟨hR.out.2.1.size,Nat.lt_succ_self _⟩) (fun j hj=>⟨hj.1,by have:=hj.2;omega⟩) H5.out.1 hg5 H5.out.2.2 (fun j hj=>by rw [size1,size1];have:=hj.2;omega) (by have:=Hlen.out;omega))
     generalize hw6:w5.setCell ⟨w.heap.size,0,none⟩ (.slice X5 (C.length+1) cap5)=w6 at *
     have hs6:w6.heap.size=w5.heap.size:=by rw [← hw6];simp [World.setCell]
     have Hs6:=qh hs6
     have HW6:=qh hw6
     clear hw6 hs6
     go_wp2_with fail
     go_roundg (n - (q+1))
     case measure=>rw [Hgk.out];omega
     case rel=>
      refine⟨q+1,_,_,rfl,by omega,by go_num,qh ⟨HF.out.1.mono ?_ ?_,?_,?_⟩⟩
      · rintro j (hj | hj)
        · exact⟨hj.1,by have:=hj.2;show j < w6.heap.size;rw [Hs6.out];omega⟩
        · refine⟨?_,by show j < w6.heap.size;rw [Hs6.out];exact hj.2⟩
          have:=hj.1
          rw [size1,size1]at this
          have:=hR.out.2.1.size
          omega
      · exact fun j hj=>hj.2
      · exact HF.out.2.below hR.out.2.1 (fun j hj=>hj.1) hR.out.2.1.size
      · rw [List.map_append,hR.out.2.2,List.replicate_succ'];rfl
  · obtain rfl:q=n:=by omega
    have hC:(DM.new q).cells=C.map RC.m:=hR.out.2.2.symm
    clear hlen
    go_wp2_with fail
    go_ret2
    exact⟨w.heap.size,rfl,⟨cv,.slice none 0 0,C,[],0,0,0,false,hR.out.1,⟨hC,rfl,rfl,rfl,rfl,rfl,Nat.zero_le _⟩⟩,hR.out.2.1⟩
open Go.RowKit
structure Two (w0 w:World) (Td Tr:Nat→Prop) (hd hr:Nat) (D E:DM):Prop where
 d:OwnT w0 w Td hd D
 r:RefAt3 w Tr hr E
 rlo: ∀k,Tr k→w0.heap.size≤k
 ap: ∀k,Td k→ ¬Tr k
section
variable {w0 w w2 : World} {Td Tr : Nat → Prop} {hd hr : Nat} {D E D' E' : DM}
theorem Two.dev (k:Two w0 w Td Tr hd hr D E) (d:OwnT w0 w2 (grow Td w w2) hd D') (hc:Chg Td w w2):Two w0 w2 (grow Td w w2) Tr hd hr D' E:=
 ⟨d,k.r.keep hc.size (fun b hb=>hc.block b (k.r.foot b hb) (fun h=>k.ap b h hb)),k.rlo,fun j hj hr=>by
  rcases hj with hj | hj
  · exact k.ap j hj hr
  · have:=k.r.foot j hr;omega⟩
theorem Two.ref (k:Two w0 w Td Tr hd hr D E) (r:Ref3 w Tr hr E' w2):Two w0 w2 Td (grow Tr w w2) hd hr D E':=
 ⟨⟨k.d.at_.keep r.fr.size (fun b hb=>r.fr.block b (k.d.at_.foot b hb) (k.ap b hb)),r.fr.below k.d.below k.rlo k.d.below.size,k.d.lo⟩,r.at_,fun j hj=>by
   rcases hj with hj | hj
   · exact k.rlo j hj
   · have:=k.d.below.size;omega,fun j hj hr=>by
   rcases hr with hr | hr
   · exact k.ap j hj hr
   · have:=k.d.at_.foot j hj;omega⟩
theorem Two.on (k:Two w0 w Td Tr hd hr D E) (hb:Below w.heap.size w w2):Two w0 w2 Td Tr hd hr D E:=⟨k.d.on hb,k.r.below hb,k.rlo,k.ap⟩
theorem Two.drewN (k:Two w0 w Td Tr hd hr D E) (n:Nat):Two w0 (w.drewN n) Td Tr hd hr D E:=k.on (drewN_below (Below.refl _ _) n)
theorem Two.drew (k:Two w0 w Td Tr hd hr D E):Two w0 w.drew Td Tr hd hr D E:=k.on (Below.refl _ _).drew
theorem Two.new (k:Two w0 w Td Tr hd hr D E) {b:Nat} (hb:w.heap.size≤b): ¬Td b∧ ¬Tr b∧w0.heap.size≤b:=
 ⟨fun h=>by have:=k.d.at_.foot b h;omega,fun h=>by have:=k.r.foot b h;omega,by have:=k.d.below.size;omega⟩
theorem Two.old (k:Two w0 w Td Tr hd hr D E) {b:Nat} (hb:b < w0.heap.size): ¬Td b∧ ¬Tr b:=
 ⟨fun h=>by have:=k.d.lo b h;omega,fun h=>by have:=k.rlo b h;omega⟩
end
structure Free (w:World) (Td Tr:Nat→Prop) (b:Nat):Prop where
 td: ¬Td b
 tr: ¬Tr b
 lt:b < w.heap.size
theorem Ref3.past {w w1 w2:World} {T:Nat→Prop} {h:Nat} {D':DM} (hf: ∀j,T j→j < w.heap.size) (hb:Below w.heap.size w w1) (b:Ref3 w1 T h D' w2):Ref3 w T h D' w2:=
 ⟨b.at_.mono (fun j hj=>by
  rcases hj with hj | hj
  · exact .inl hj
  · exact .inr ⟨Nat.le_trans hb.size hj.1,hj.2⟩) (fun j hj=>by
  rcases hj with hj | hj
  · exact Nat.lt_of_lt_of_le (hf j hj) (Nat.le_trans hb.size b.fr.size)
  · exact hj.2),(Chg.of_below hb).trans (b.fr.mono (fun _ hj=> .inl hj))⟩
theorem Ref3.block {w w1:World} {T:Nat→Prop} {h:Nat} {D':DM} (a:Ref3 w T h D' w1) {g:Nat} {t:TypeId} {cs:Array Value} (hB:BlockIs w g t cs) (hT: ¬T g):BlockIs w1 g t cs∧ ¬grow T w w1 g:=⟨hB.keep (a.fr.block g hB.lt hT),fun e=>by
 rcases e with e | e
 · exact hT e
 · have:=hB.lt;omega⟩
theorem RefAt3.three {w:World} {T:Nat→Prop} {h:Nat} {D:DM} (k:RefAt3 w T h D): ∃X c1,w.cell? ⟨h,0,none⟩=some (.slice X D.cells.length c1)∧w.cell? ⟨h,3,none⟩=some (.int .i64 (D.turns:Int))∧w.cell? ⟨h,5,none⟩=some (.bool D.down):=by
 obtain⟨cv,wv,C,L,ar,tu,cr,dn,R,M⟩:=k
 obtain⟨X,c1,e1,_,_⟩:=R.cslice
 obtain⟨h0,_,_,h3,_,h5⟩:=R.cell6
 refine⟨X,c1,?_,?_,?_⟩
 · rw [h0,e1,M.cells,List.length_map]
 · rw [h3,M.tu]
 · rw [h5,M.dn]
end Go.Proofs.YtpaikolnampcfaaGreatDoor
