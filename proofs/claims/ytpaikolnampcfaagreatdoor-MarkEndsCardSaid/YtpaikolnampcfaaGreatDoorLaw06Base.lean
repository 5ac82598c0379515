/- Which copies have none: damaged, Damaged. -/
import Derived.Test.YtpaikolnampcfaaGreatDoorMarkOpen
import Derived.Test.YtpaikolnampcfaaGreatDoorKitInts
import Derived.Test.YtpaikolnampcfaaGreatDoorMarkAwake
namespace Go.Proofs.YtpaikolnampcfaaGreatDoor
set_option maxRecDepth 100000
set_option maxHeartbeats 8000000
open Go.RowKit
structure OutB (w w1:World) (v:Value) (n:Nat) (xs:List Int):Prop where
 own:w1.ownsRow w.heap.size 3 1 v n (i64s xs)
 bl:Below w.heap.size w w1
section
variable {w w1 w2 : World} {v : Value} {n : Nat} {xs : List Int}
theorem OutB.nil (w:World):OutB w w (.slice none 0 0) 0 []:=⟨World.ownsRow_nil _ _ _ _,Below.refl _ _⟩
theorem OutB.below (k:OutB w w1 v n xs) (hb:Below w1.heap.size w1 w2):OutB w w2 v n xs:=⟨own_keep k.own (fun b e=>hb.block b (own_lt k.own e)),k.bl.trans (hb.mono k.bl.size)⟩
theorem OutB.put {v':Value} {z:Int} (k:OutB w w1 v n xs) (ho:w2.ownsRow w.heap.size 3 1 v' (n+1) (i64s xs++ [.int .i64 z])) (hg:w1.grownBy w2 v.ownBlock):OutB w w2 v' (n+1) (xs++ [z]):=
 ⟨own_same ho rfl (by unfold i64s;rw [List.map_append];rfl),k.bl.grown hg k.bl.size (fun b e=>(k.own.lt b e).1)⟩
theorem OutB.row {ys:List Int} (k:OutB w w1 v n xs) (hy:xs=ys):w1.ownsRow w.heap.size 3 1 v ys.length (i64s ys):=by
 subst hy
 refine own_same k.own ?_ rfl
 have:=k.own.1
 unfold i64s at this
 rw [List.length_map]at this
 omega
end
section
variable {δ : SenD} {w0 w : World} {T : Nat → Prop} {h : Nat} {D : DM}
structure DamB (w w1:World) (v:Value) (n:Nat) (xs:List Int) (g cap:Nat) (tw:List Value):Prop where
 out:OutB w w1 v n xs
 row:w1.ownsRow w.heap.size 158 8 (.slice (some ⟨g,0,none⟩) 2 cap) 2 tw
theorem DamB.below {w w1 w2:World} {v:Value} {n:Nat} {xs:List Int} {g cap:Nat} {tw:List Value} (k:DamB w w1 v n xs g cap tw) (hb:Below w1.heap.size w1 w2):DamB w w2 v n xs g cap tw:=⟨k.out.below hb,own_keep k.row (fun b e=>hb.block b (own_lt k.row e))⟩
theorem DamB.cells {w w1:World} {v:Value} {n:Nat} {xs:List Int} {g cap:Nat} {tw:List Value} (k:DamB w w1 v n xs g cap tw): ∀i u,tw[i]? =some u→w1.cell? ⟨g,i,none⟩=some u:=fun i u e=>by
 have h:=k.row.cells (g:=g) rfl i u e
 have hadd:(⟨g,0,none⟩:Addr).add i=⟨g,i,none⟩:=by unfold Addr.add;split<;>simp_all
 rwa [hadd]at h
theorem DamB.put {w w1 w2:World} {v v':Value} {n:Nat} {xs:List Int} {g cap:Nat} {tw:List Value} {z:Int} (k:DamB w w1 v n xs g cap tw) (ho:w2.ownsRow w.heap.size 3 1 v' (n+1) (i64s xs++ [.int .i64 z])) (hg:w1.grownBy w2 v.ownBlock):DamB w w2 v' (n+1) (xs++ [z]) g cap tw:=
 ⟨k.out.put ho hg,own_keep k.row (fun b e=>hg.block b (own_lt k.row e) (fun e2=>by
  obtain rfl:g=b:=by simpa [Value.ownBlock] using e
  rcases k.row.2 with⟨h1,_⟩ | ⟨g1,c1,cur1,h1,_,h2,_⟩
  · cases h1
  · obtain⟨rfl,rfl⟩:g=g1∧cap=c1:=by simpa using h1
    rcases k.out.own.2 with⟨h3,_⟩ | ⟨g3,c3,cur3,h3,_,h4,_⟩
    · rw [h3]at e2;simp [Value.ownBlock]at e2
    · rw [h3]at e2
      obtain rfl:g=g3:=by simpa [Value.ownBlock] using e2
      rw [h2]at h4
      simp at h4))⟩
theorem cell_one_new1 (W:World) (o:Obj) (x:Value) (t:TypeId): ∀j u,[x][j]? =some u→((W.alloc o).alloc (.cells #[x] t)).cell? ((⟨W.heap.size+1,0,none⟩:Addr).add j)=some u:=by
 have h:=cell_one_new (W.alloc o) x t
 rwa [World.size_alloc]at h
theorem bad_none (h:seenK D 2≠0∨seenK D 3≠0):badK D= []:=by unfold badK;rw [if_pos h]
theorem bad_some (h2:seenK D 2=0) (h3:seenK D 3=0):badK D=((if(markB 2 (D.read 2).1).2≠0 then [2]else [])++(if(markB 2 (D.read 3).1).2≠0 then [3]else []))++((if(markB 3 (D.read 4).1).2≠0 then [4]else [])++(if(markB 3 (D.read 5).1).2≠0 then [5]else [])):=by
 unfold badK
 rw [if_neg (by rintro(hn | hn);exact hn h2;exact hn h3)]
 rfl
theorem look_sort {k:Int} (hk:sortK k):lookE D k=seenK D k:=by unfold lookE;rw [if_pos hk]
def badP (D:DM):Nat→List Int
 | 0=> []
 | q+1=>badP D q++badOf D ((q:Int)+2)
def seenQ (D:DM) (q:Nat):Prop:= ∀i:Nat,i < q→seenK D ((i:Int)+2)=0
theorem seenQ_snoc {q:Nat} (h:seenQ D q) (he:seenK D ((q:Int)+2)=0):seenQ D (q+1):=fun i hi=>by
 by_cases e:i=q
 · subst e;exact he
 · exact h i (by omega)
theorem badP_all (h:seenQ D 2):badK D=badP D 2:=by
 have h0:seenK D 2=0:=h 0 (by decide)
 have h1:seenK D 3=0:=h 1 (by decide)
 unfold badK
 rw [if_neg (by rintro(hn | hn);exact hn h0;exact hn h1)]
 rfl
theorem badP_err {q:Nat} (hq:q < 2) (he:seenK D ((q:Int)+2)≠0):badK D= []:=by
 obtain rfl | rfl:q=0∨q=1:=by omega
 · exact bad_none (.inl he)
 · exact bad_none (.inr he)
def upI (xs:List Int) (p e0 e1:Int):Nat→List Int
 | 0=>xs
 | 1=>xs++(if e0≠0 then [p]else [])
 | _=>(xs++(if e0≠0 then [p]else []))++(if e1≠0 then [p+1]else [])
theorem kdamaged_any (σ:Sen) (τ:SenU) (κ:SenK) (hC:GlAt σ w0) (hU:GlU τ w0) (hD:GlD δ w0) (hM:GlK κ w0) (k:OwnT w0 w T h D) (g:Nat) (hB:BlockIs w g 27 #[.int .i64 2,.int .i64 3]):
 Calls Tryz.prog 63 #[.pointer (some ⟨h,0,none⟩),.slice (some ⟨g,0,none⟩) 2 2] w fun e w'=> ∃v,e= .returned v∧w'.ownsRow w.heap.size 3 1 v (badK D).length (i64s (badK D))∧Below w.heap.size w w':=by
 obtain⟨i0,hi,hz0,hz1,hz2⟩:=info_parts infoInt
 have HT:=qh (And.intro hi (And.intro hz0 (And.intro hz1 hz2)))
 have HL:=qh (fun W (h1:Below w.heap.size w W) kk hwf=>klook_any σ τ κ hC hU hD hM (k.on h1) kk hwf)
 have HB:=qh hB
 have HAll:=qh (badP_all (D:=D))
 have HErr:=qh (fun q hq he=>badP_err (D:=D) (q:=q) hq he)
 have HStep:=qh (fun q:Nat=>show badP D (q+1)=badP D q++badOf D ((q:Int)+2)from rfl)
 have S0:Hid (OutB w w (.slice none 0 0) 0 []):=qh (OutB.nil w)
 clear hC hU hD hM k hB hi hz0 hz1 hz2
 go_enter Tryz.func63,Tryz.ntmps63
 go_wp2_with fail
 go_loopg [5,14] 2 (fun gk out i wx=> ∃(q:Nat) (xs:List Int),gk=2 - q∧q≤2∧i= .int .i64 (q:Int)∧Hid (badP D q=xs∧seenQ D q)∧xs.length≤2 * q∧Hid (OutB w wx out xs.length xs))
 case atStart=>exact⟨0,[],rfl,by decide,rfl,qh ⟨rfl,fun i hi=>absurd hi (Nat.not_lt_zero _)⟩,Nat.le_refl _,S0⟩
 case round=>
  obtain⟨q,xs,hgk,hq,rfl,hP,hxl,hS⟩:=hrel
  have Hgk:=qh hgk
  clear hgk S0
  by_cases hlt:q < 2
  · have hqi:(q:Int) < 2:=by omega
    have HEq:=HErr.out q hlt
    have HSn:=seenQ_snoc hP.out.2
    have HSt:=HStep.out q
    have ck:=cell_below (show w.cell? ⟨g,q,none⟩=some (.int .i64 ((q:Int)+2))from by
     obtain rfl | rfl:q=0∨q=1:=by omega
     · exact HB.out.cell 0
     · exact HB.out.cell 1) hS.out.bl
    have hsk:sortK ((q:Int)+2):=by unfold sortK;omega
    obtain⟨kk,hkk⟩: ∃kk:Int,(q:Int)+2=kk:=⟨_,rfl⟩
    rw [hkk]at HEq HSn HSt ck hsk
    have HLk:=HL.out _ hS.out.bl kk (by unfold wfK;rcases hsk with rfl | rfl<;>decide)
    unfold LookAt at HLk
    rw [look_sort hsk]at HLk
    rw [hP.out.1]at HSt
    unfold badOf at HSt
    obtain⟨s,hs⟩: ∃s,seenK D kk=s:=⟨_,rfl⟩
    rw [hs]at HLk HEq HSn
    obtain⟨p,hp⟩: ∃p,placeK kk=p:=⟨_,rfl⟩
    rw [hp]at HLk HSt
    obtain⟨r0,hr0⟩: ∃r,(D.read p).1=r:=⟨_,rfl⟩
    obtain⟨r1,hr1⟩: ∃r,(D.read ((p:Int)+1)).1=r:=⟨_,rfl⟩
    rw [hr0,hr1]at HLk HSt
    obtain⟨q0,hq0⟩: ∃q,markB kk r0=q:=⟨_,rfl⟩
    obtain⟨q1,hq1⟩: ∃q,markB kk r1=q:=⟨_,rfl⟩
    rw [hq0,hq1]at HSt
    have HA:=qh HLk
    have Hq0:=qh hq0
    have Hq1:=qh hq1
    have HE:=qh HEq
    have HN:=qh HSn
    obtain⟨⟨av,ai,ax,ak,ao⟩,e0⟩:=q0
    obtain⟨⟨bv,bi,bt,bk,bo⟩,e1⟩:=q1
    simp only at HSt
    have HU:=qh HSt
    clear hkk hs hp hr0 hr1 hq0 hq1 hsk HLk HEq HSn HSt HL HErr HStep HAll HB
    by_cases hs0:s=0
    rotate_left
    · have Hs:=qh hs0
      have Hg:=qh (HE.out hs0)
      clear hs0
      go_wp2_with fail
      refine HA.out.mono ?_
      rintro e w1 ⟨v,lv,rfl,hR,hb1⟩
      obtain⟨_,rfl,hv⟩:s≠0∧v= .slice none 0 0∧KErr κ s lv:=by
       rcases hR with hR | ⟨hn,_⟩
       · exact hR
       · exact absurd hn Hs.out
      obtain⟨tv,xv,rfl⟩:=hv.some Hs.out
      have S1:=qh (hS.out.below hb1)
      clear hR hv hb1 HA ck hS
      go_wp2_with fail
      go_ret
      exact⟨_,rfl,by rw [Hg.out];exact World.ownsRow_nil _ _ _ _,S1.out.bl⟩
    · have Hs:=qh hs0
      clear hs0
      go_wp2_with fail
      refine HA.out.mono ?_
      rintro e w1 ⟨v,lv,rfl,hR,hb1⟩
      obtain⟨_,rfl,_,A0,A1,l0,l1,hTw,h0,h1⟩:s=0∧lv= .nilIface∧sortK kk∧Twins κ _ w1 kk p r0 r1 v:=by
       rcases hR with⟨hn,_⟩ | hR
       · exact absurd Hs.out hn
       · exact hR
      obtain⟨g2,cap2,rfl,hg2⟩:=own_form8 hTw.own (by decide)
      rw [Hq0.out,Hq1.out]at hTw
      rw [Hq0.out]at h0
      rw [Hq1.out]at h1
      simp only at hTw h0 h1
      have H0:=qh h0
      have H1:=qh h1
      have D1:Hid (DamB w w1 _ xs.length xs g2 cap2 _):=qh ⟨hS.out.below hb1,own_mono hTw.own hS.out.bl.size⟩
      clear hR hb1 hTw h0 h1 HA ck hS hg2
      go_wp2_with fail
      go_loopg [5,28] 2 (fun gi out2 i2 wx2=> ∃(j:Nat) (ys:List Int),gi=2 - j∧j≤2∧i2= .int .i64 (j:Int)∧Hid (upI xs p e0 e1 j=ys)∧ys.length≤xs.length+j∧Hid (DamB w wx2 out2 ys.length ys g2 cap2 (twinC p A0 r0.length ⟨av,ai,ax,ak,ao⟩ l0++twinC ((p:Int)+1) A1 r1.length ⟨bv,bi,bt,bk,bo⟩ l1)))
      case atStart=>exact⟨0,xs,rfl,by decide,rfl,qh rfl,Nat.le_refl _,D1⟩
      case round=>
       obtain⟨j,ys,hgi,hj,rfl,hY,hyl,hI⟩:=hrel
       have Hgi:=qh hgi
       clear hgi D1
       by_cases hj2:j < 2
       · obtain rfl | rfl:j=0∨j=1:=by omega
         · by_cases he:e0=0
           · subst he
             obtain rfl:=H0.out.zero
             have y0:=hI.out.cells 0 _ rfl
             have y1:=hI.out.cells 1 _ rfl
             have y2:=hI.out.cells 2 _ rfl
             have y3:=hI.out.cells 3 _ rfl
             have y4:=hI.out.cells 4 _ rfl
             have y5:=hI.out.cells 5 _ rfl
             have y6:=hI.out.cells 6 _ rfl
             have y7:=hI.out.cells 7 _ rfl
             have O2:=qh (hI.out.below (below_new _ (.cells #[.int .i64 (p:Int),.slice A0 r0.length r0.length,.int .i64 av,.int .i64 ai,.int .i64 ax,.int .i64 ak,.int .i64 ao,.nilIface] 158)))
             go_wp2_with fail
             clear y0 y1 y2 y3 y4 y5 y6 y7
             go_roundg (2 - (0+1))
             case measure=>rw [Hgi.out];omega
             case rel=>exact⟨0+1,ys,rfl,by decide,by go_num,qh (by rw [← hY.out];simp [upI]),(by omega),O2⟩
           · obtain⟨t0,x0,rfl⟩:=H0.out.some he
             have He:=qh he
             clear he
             have y0:=hI.out.cells 0 _ rfl
             have y1:=hI.out.cells 1 _ rfl
             have y2:=hI.out.cells 2 _ rfl
             have y3:=hI.out.cells 3 _ rfl
             have y4:=hI.out.cells 4 _ rfl
             have y5:=hI.out.cells 5 _ rfl
             have y6:=hI.out.cells 6 _ rfl
             have y7:=hI.out.cells 7 _ rfl
             have hb6:ys.length+1≤7:=by omega
             have HK:=qh ((hI.out.below (below_new _ (.cells #[.int .i64 (p:Int),.slice A0 r0.length r0.length,.int .i64 av,.int .i64 ai,.int .i64 ax,.int .i64 ak,.int .i64 ao,.iface t0 x0] 158))).below (below_new _ (.cells #[.int .i64 (p:Int)] 3)))
             go_wp2_with (at_builtin;refine wpList_append_own _ rfl _ _ 56 rfl w.heap.size 3 i0 (.int .i64 0) 1 8 Tryz.underlying56 HT.out.1 HT.out.2.1 HT.out.2.2.1 HT.out.2.2.2 rfl (by decide) _ _ _ rfl HK.out.out.own ⟨wr.heap.size+1,0,none⟩ 1 1 [.int .i64 (p:Int)] rfl rfl (cell_one_new1 wr (.cells #[.int .i64 (p:Int),.slice A0 r0.length r0.length,.int .i64 av,.int .i64 ai,.int .i64 ax,.int .i64 ak,.int .i64 ao,.iface t0 x0] 158) _ _) (fun u hu=>by rw [List.mem_singleton.1 hu];rfl) (Nat.le_trans hb6 (by decide)) (by omega) HK.out.out.bl.size ?_)
             intro u2 W2 hown hgrow _
             have O2:=qh (HK.out.put hown hgrow)
             clear hown hgrow HK y0 y1 y2 y3 y4 y5 y6 y7
             go_wp2_with fail
             go_roundg (2 - (0+1))
             case measure=>rw [Hgi.out];omega
             case rel=>exact⟨0+1,ys++ [(p:Int)],rfl,by decide,by go_num,qh (by rw [← hY.out];simp [upI,He.out]),(by simp only [List.length_append,List.length_cons,List.length_nil];omega),by rw [List.length_append];exact O2⟩
         · by_cases he:e1=0
           · subst he
             obtain rfl:=H1.out.zero
             have y0:=hI.out.cells 8 _ rfl
             have y1:=hI.out.cells 9 _ rfl
             have y2:=hI.out.cells 10 _ rfl
             have y3:=hI.out.cells 11 _ rfl
             have y4:=hI.out.cells 12 _ rfl
             have y5:=hI.out.cells 13 _ rfl
             have y6:=hI.out.cells 14 _ rfl
             have y7:=hI.out.cells 15 _ rfl
             have O2:=qh (hI.out.below (below_new _ (.cells #[.int .i64 ((p:Int)+1),.slice A1 r1.length r1.length,.int .i64 bv,.int .i64 bi,.int .i64 bt,.int .i64 bk,.int .i64 bo,.nilIface] 158)))
             go_wp2_with fail
             clear y0 y1 y2 y3 y4 y5 y6 y7
             go_roundg (2 - (1+1))
             case measure=>rw [Hgi.out];omega
             case rel=>exact⟨1+1,ys,rfl,by decide,by go_num,qh (by rw [← hY.out];simp [upI]),(by omega),O2⟩
           · obtain⟨t0,x0,rfl⟩:=H1.out.some he
             have He:=qh he
             clear he
             have y0:=hI.out.cells 8 _ rfl
             have y1:=hI.out.cells 9 _ rfl
             have y2:=hI.out.cells 10 _ rfl
             have y3:=hI.out.cells 11 _ rfl
             have y4:=hI.out.cells 12 _ rfl
             have y5:=hI.out.cells 13 _ rfl
             have y6:=hI.out.cells 14 _ rfl
             have y7:=hI.out.cells 15 _ rfl
             have hb6:ys.length+1≤7:=by omega
             have HK:=qh ((hI.out.below (below_new _ (.cells #[.int .i64 ((p:Int)+1),.slice A1 r1.length r1.length,.int .i64 bv,.int .i64 bi,.int .i64 bt,.int .i64 bk,.int .i64 bo,.iface t0 x0] 158))).below (below_new _ (.cells #[.int .i64 ((p:Int)+1)] 3)))
             go_wp2_with (at_builtin;refine wpList_append_own _ rfl _ _ 56 rfl w.heap.size 3 i0 (.int .i64 0) 1 8 Tryz.underlying56 HT.out.1 HT.out.2.1 HT.out.2.2.1 HT.out.2.2.2 rfl (by decide) _ _ _ rfl HK.out.out.own ⟨wr.heap.size+1,0,none⟩ 1 1 [.int .i64 ((p:Int)+1)] rfl rfl (cell_one_new1 wr (.cells #[.int .i64 ((p:Int)+1),.slice A1 r1.length r1.length,.int .i64 bv,.int .i64 bi,.int .i64 bt,.int .i64 bk,.int .i64 bo,.iface t0 x0] 158) _ _) (fun u hu=>by rw [List.mem_singleton.1 hu];rfl) (Nat.le_trans hb6 (by decide)) (by omega) HK.out.out.bl.size ?_)
             intro u2 W2 hown hgrow _
             have O2:=qh (HK.out.put hown hgrow)
             clear hown hgrow HK y0 y1 y2 y3 y4 y5 y6 y7
             go_wp2_with fail
             go_roundg (2 - (1+1))
             case measure=>rw [Hgi.out];omega
             case rel=>exact⟨1+1,ys++ [((p:Int)+1)],rfl,by decide,by go_num,qh (by rw [← hY.out];simp [upI,He.out]),(by simp only [List.length_append,List.length_cons,List.length_nil];omega),by rw [List.length_append];exact O2⟩
       · obtain rfl:j=2:=by omega
         go_wp2_with fail
         go_roundg (2 - (q+1))
         case measure=>rw [Hgk.out];omega
         case rel=>exact⟨q+1,ys,rfl,by omega,by go_num,qh ⟨by rw [HU.out, ← hY.out, ← List.append_assoc];rfl,HN.out Hs.out⟩,by omega,qh hI.out.out⟩
  · obtain rfl:q=2:=by omega
    go_wp2_with fail
    go_ret
    exact⟨_,rfl,hS.out.row (hP.out.1.symm.trans (HAll.out hP.out.2).symm),hS.out.bl⟩
end
open Go.RowKit
section
variable {δ : SenD} {w0 w : World} {T : Nat → Prop} {h : Nat} {D : DM}
theorem kDamaged_any (σ:Sen) (τ:SenU) (κ:SenK) (hC:GlAt σ w0) (hU:GlU τ w0) (hD:GlD δ w0) (hM:GlK κ w0) (k:OwnT w0 w T h D):
 Calls Tryz.prog 22 #[.pointer (some ⟨h,0,none⟩)] w fun e w'=> ∃v,e= .returned v∧w'.ownsRow w.heap.size 3 1 v (badK D).length (i64s (badK D))∧Below w.heap.size w w':=by
 have hb:=below_new w (.cells #[.int .i64 2,.int .i64 3] 27)
 have HD:=qh (kdamaged_any σ τ κ hC hU hD hM (k.on hb) w.heap.size (BlockIs.made w 27 #[.int .i64 2,.int .i64 3]))
 have Hb:=qh hb
 clear hC hU hD hM k hb
 go_enter Tryz.func22,Tryz.ntmps22
 go_wp2_with fail
 refine HD.out.mono ?_
 rintro e w2 ⟨v,rfl,ho,hb2⟩
 have Ho:=qh (And.intro ho hb2)
 clear ho hb2 HD
 go_wp2_with fail
 go_ret
 exact⟨_,rfl,own_mono Ho.out.1 Hb.out.size,Hb.out.trans (Ho.out.2.mono Hb.out.size)⟩
end
open Go.RowKit
structure Box (w:World) (T:Nat→Prop) (b:Nat) (t:TypeId) (cs:Array Value):Prop where
 blk:BlockIs w b t cs
 off: ¬T b
section
variable {w0 w w' : World} {T : Nat → Prop} {h b : Nat} {D D' : DM} {t : TypeId} {cs : Array Value}
theorem Box.step (k:Box w T b t cs) (s:Stp w0 w T h D' w'):Box w' (grow T w w') b t cs:=⟨(s.block k.blk k.off).1,(s.block k.blk k.off).2⟩
theorem Box.made (k:OwnT w0 w T h D) (t:TypeId) (cs:Array Value):Box (w.alloc (.cells cs t)) T w.heap.size t cs:=⟨BlockIs.made _ _ _,fun ht=>by have:=k.foot _ ht;omega⟩
end
structure Gls (σ:Sen) (τ:SenU) (δ:SenD) (κ:SenK) (w:World):Prop where
 c:GlAt σ w
 u:GlU τ w
 d:GlD δ w
 s:GlS δ w
 k:GlK κ w
theorem Gls.below {σ:Sen} {τ:SenU} {δ:SenD} {κ:SenK} {w w':World} (h:Gls σ τ δ κ w) (hb:Below w.heap.size w w'):Gls σ τ δ κ w':=⟨h.c.below hb,h.u.below hb,h.d.below hb,h.s.below hb,h.k.below hb⟩
theorem wf2 :wfK 2:=by unfold wfK;decide
theorem wf3 :wfK 3:=by unfold wfK;decide
theorem awake_any (σ:Sen) (τ:SenU) (δ:SenD) (κ:SenK) (w:World) (hG:Gls σ τ δ κ w):
 Calls Tryz.prog 8 #[] w fun e w'=>e= .returned (.bool true)∧Below w.heap.size w w':=by
 obtain⟨f1,p1,i1,g2,g3,bd,hF⟩:=mark_awake
 have HG:=qh hG
 have HN:=qh (OwnT.new (Below.refl w.heap.size w) 6 (by decide) (by decide))
 have Hms:=qh (And.intro f1 (And.intro p1 (And.intro i1 (And.intro g2 (And.intro g3 (And.intro bd hF))))))
 have F1:=qh (few_formatK (Few.new (B:=6)))
 obtain⟨D1,hD1⟩: ∃D,formatK (DM.new 6)=D:=⟨_,rfl⟩
 obtain⟨D0,hD0⟩: ∃D,DM.new 6=D:=⟨_,rfl⟩
 have F0:=qh (Few.new (B:=6))
 rw [hD0]at hD1 F0 HN
 rw [hD0,hD1]at Hms F1
 have Hq1:=qh hD1
 clear f1 p1 i1 g2 g3 bd hF hG hD0 hD1
 go_enter Tryz.func8,Tryz.ntmps8
 go_wp2_with fail
 refine HN.out.mono ?_
 rintro e w1 ⟨h,rfl,k1,hb1⟩
 have hbm:=below_new w1 (.cells #[.int .i64 1,.int .i64 4,.int .i64 2,.int .i64 2,.int .i64 0] 26)
 have K2:=qh (k1.on hbm)
 have M2:=qh (Box.made k1 26 #[.int .i64 1,.int .i64 4,.int .i64 2,.int .i64 2,.int .i64 0])
 have HF:=kformat_any κ HG.out.d HG.out.k K2.out F0.out (by decide)
 rw [Hq1.out]at HF
 have HFm:=qh HF
 obtain⟨w2,hw2⟩: ∃w2,w1.alloc (.cells #[.int .i64 1,.int .i64 4,.int .i64 2,.int .i64 2,.int .i64 0] 26)=w2:=⟨_,rfl⟩
 rw [hw2]at K2 M2 HFm
 have Hw2:=qh hw2
 clear k1 hb1 hbm HF HN hw2
 rw [Hms.out.1]at HFm
 go_wp2_with fail
 rw [Hw2.out]
 refine HFm.out.mono ?_
 rintro e w3 ⟨rfl,hS⟩
 have M3:=qh (M2.out.step hS)
 have K3:=qh hS.own
 have HP:=kput_any κ HG.out.d HG.out.k hS.own F1.out (by decide) 2 wf2 m06
 rw [Hms.out.2.1]at HP
 have HPm:=qh HP
 rw [show m06.val= .agg #[.int .i64 1,.int .i64 4,.int .i64 2,.int .i64 2,.int .i64 0]from rfl]at HPm
 clear hS HP HFm
 obtain⟨⟨c0,c1,c2,c3,c4⟩,_⟩:=cells_five M3.out.blk
 go_wp2_with fail
 refine HPm.out.mono ?_
 rintro e w4 ⟨rfl,hS⟩
 have M4:=qh (M3.out.step hS)
 have HW:=wipe_stp HG.out.d HG.out.s hS.own 3
 rw [Hms.out.2.2.1]at HW
 have HWm:=qh HW
 clear hS HW HPm c0 c1 c2 c3 c4
 go_wp2_with fail
 refine HWm.out.mono ?_
 rintro e w5 ⟨rfl,hS⟩
 have M5:=qh (M4.out.step hS)
 have K5:=qh hS.own
 have HGt:=kGet_any σ τ κ HG.out.c HG.out.u HG.out.d HG.out.k hS.own 2 wf2
 rw [Hms.out.2.2.2.1]at HGt
 have HGm:=qh HGt
 rw [show m06.val= .agg #[.int .i64 1,.int .i64 4,.int .i64 2,.int .i64 2,.int .i64 0]from rfl]at HGm
 clear hS HGt HWm
 go_wp2_with fail
 refine HGm.out.mono ?_
 rintro e w6 ⟨rfl,hb6⟩
 have hb7:=hb6.trans ((below_new w6 (.cells #[.int .i64 1,.int .i64 4,.int .i64 2,.int .i64 2,.int .i64 0] 26)).mono hb6.size)
 have K7:=qh (K5.out.on hb7)
 have M7:=qh (M5.out.blk.below hb7 M5.out.blk.lt)
 have X7:=qh (BlockIs.made w6 26 #[.int .i64 1,.int .i64 4,.int .i64 2,.int .i64 2,.int .i64 0])
 have HHt:=kGet_any σ τ κ HG.out.c HG.out.u HG.out.d HG.out.k K7.out 3 wf3
 rw [Hms.out.2.2.2.2.1]at HHt
 have HHm:=qh HHt
 rw [show noMark.val= .agg #[.int .i64 0,.int .i64 0,.int .i64 0,.int .i64 0,.int .i64 0]from rfl]at HHm
 obtain⟨w7,hw7⟩: ∃w7,w6.alloc (.cells #[.int .i64 1,.int .i64 4,.int .i64 2,.int .i64 2,.int .i64 0] 26)=w7:=⟨_,rfl⟩
 rw [hw7]at K7 M7 X7 HHm
 have Hw7:=qh hw7
 clear hb6 hb7 HHt hw7 HGm K5 M5
 go_wp2_with fail
 rw [Hw7.out]
 refine HHm.out.mono ?_
 rintro e w8 ⟨rfl,hb8⟩
 have hb9:=hb8.trans ((below_new w8 (.cells #[.int .i64 0,.int .i64 0,.int .i64 0,.int .i64 0,.int .i64 0] 26)).mono hb8.size)
 have K9:=qh (K7.out.on hb9)
 have M9:=qh (M7.out.below hb9 M7.out.lt)
 have X9:=qh (X7.out.below hb9 X7.out.lt)
 have Y9:=qh (BlockIs.made w8 26 #[.int .i64 0,.int .i64 0,.int .i64 0,.int .i64 0,.int .i64 0])
 have HDt:=kDamaged_any σ τ κ HG.out.c HG.out.u HG.out.d HG.out.k K9.out
 rw [Hms.out.2.2.2.2.2.1]at HDt
 have HDm:=qh HDt
 obtain⟨w9,hw9⟩: ∃w9,w8.alloc (.cells #[.int .i64 0,.int .i64 0,.int .i64 0,.int .i64 0,.int .i64 0] 26)=w9:=⟨_,rfl⟩
 rw [hw9]at K9 M9 X9 Y9 HDm
 have Hw9:=qh hw9
 clear hb8 hb9 HDt hw9 HHm K7 M7 X7
 go_wp2_with fail
 rw [Hw9.out]
 refine HDm.out.mono ?_
 rintro e w10 ⟨v,rfl,ho,hb10⟩
 obtain⟨g,cap,rfl,hg⟩:=own_form8 ho (by decide)
 have l0:w10.cell? ⟨g,0,none⟩=some (.int .i64 3):=ho.cells (g:=g) rfl 0 _ rfl
 have B10:=qh (K9.out.below.trans (hb10.mono K9.out.below.size))
 obtain⟨⟨m0,m1,m2,m3,m4⟩,_⟩:=cells_five (M9.out.below hb10 M9.out.lt)
 obtain⟨⟨x0,x1,x2,x3,x4⟩,_⟩:=cells_five (X9.out.below hb10 X9.out.lt)
 obtain⟨⟨y0,y1,y2,y3,y4⟩,_⟩:=cells_five (Y9.out.below hb10 Y9.out.lt)
 clear ho hb10 HDm
 rw [show [(3:Int)].length=1 from rfl]
 go_wp2_with fail
 go_ret
 exact⟨rfl,B10.out⟩
end Go.Proofs.YtpaikolnampcfaaGreatDoor
