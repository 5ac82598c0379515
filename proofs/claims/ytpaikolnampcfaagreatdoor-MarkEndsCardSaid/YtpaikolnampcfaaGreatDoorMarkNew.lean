/- What is seen of a sort's copies. -/
import Derived.Test.YtpaikolnampcfaaGreatDoorMarkTold
import Derived.Test.YtpaikolnampcfaaGreatDoorMarkLay
namespace Go.Proofs.YtpaikolnampcfaaGreatDoor
set_option maxRecDepth 100000
set_option maxHeartbeats 8000000
open Go.RowKit
theorem infoTwin :(Tryz.prog.info? 158).map (fun i=>(i.zero,i.size,i.bytes))=some (some (.agg #[.int .i64 0,.slice none 0 0,.int .i64 0,.int .i64 0,.int .i64 0,.int .i64 0,.int .i64 0,.nilIface]),8,88):=by kernel_rfl
def twinC (n:Int) (A:Option Addr) (c:Nat) (m:MarkV) (l:Value):List Value:= [.int .i64 n,.slice A c c,.int .i64 m.ver,.int .i64 m.idx,.int .i64 m.term,.int .i64 m.kind,.int .i64 m.void,l]
structure TwB (w w1:World) (v:Value) (n:Nat) (xs:List Value) (hs:List (Option Addr × List Int)):Prop where
 own:w1.ownsRow w.heap.size 158 8 v n xs
 bl:Below w.heap.size w w1
 held: ∀p∈hs,BytesAt w1 p.1 p.2∧ ∀a,p.1=some a→some a.block≠v.ownBlock∧a.block < w1.heap.size
section
variable {w w1 w2 : World} {v : Value} {n : Nat} {xs : List Value} {hs : List (Option Addr × List Int)}
theorem TwB.nil (w:World):TwB w w (.slice none 0 0) 0 [] []:=⟨World.ownsRow_nil _ _ _ _,Below.refl _ _,fun p hp=>by cases hp⟩
theorem TwB.below (k:TwB w w1 v n xs hs) (hb:Below w1.heap.size w1 w2):TwB w w2 v n xs hs:=
 ⟨own_keep k.own (fun b e=>hb.block b (own_lt k.own e)),k.bl.trans (hb.mono k.bl.size),fun p hp=>⟨(k.held p hp).1.below hb,fun a e=>⟨((k.held p hp).2 a e).1,Nat.lt_of_lt_of_le ((k.held p hp).2 a e).2 hb.size⟩⟩⟩
theorem TwB.add {A:Option Addr} {bs:List Int} (k:TwB w w1 v n xs hs) (hb:Below w1.heap.size w1 w2) (hz:BytesAt w2 A bs) (ho: ∀a,A=some a→w1.heap.size≤a.block∧a.block < w2.heap.size):TwB w w2 v n xs ((A,bs)::hs):=
 have k2:=k.below hb
 ⟨k2.own,k2.bl,fun p hp=>by
  rcases List.mem_cons.1 hp with rfl | hp
  · exact⟨hz,fun a e=>⟨fun h=>by have:=own_lt k.own h.symm;have:=(ho a e).1;omega,(ho a e).2⟩⟩
  · exact k2.held p hp⟩
theorem TwB.put {v':Value} {n':Nat} {ys:List Value} (k:TwB w w1 v n xs hs) (ho:w2.ownsRow w.heap.size 158 8 v' n' ys) (hg:w1.grownBy w2 v.ownBlock) (ha:v'.ownBlock=v.ownBlock∨v'.ownBlock=some w1.heap.size):TwB w w2 v' n' ys hs:=
 ⟨ho,k.bl.grown hg k.bl.size (fun b e=>(k.own.lt b e).1),fun p hp=>⟨(k.held p hp).1.far hg (fun a e=>((k.held p hp).2 a e).1),fun a e=>⟨fun h=>by
  rcases ha with ha | ha
  · exact((k.held p hp).2 a e).1 (h.trans ha)
  · have h1:=h.trans ha
    have:=((k.held p hp).2 a e).2
    have:=Option.some.inj h1
    omega,Nat.lt_of_lt_of_le ((k.held p hp).2 a e).2 hg.size⟩⟩⟩
end
theorem twin_one (n:Int) (A:Option Addr) (c:Nat) (m:MarkV) (tl:TypeId) (xl:Value): ∀u∈twinC n A c m (.iface tl xl),u.oneCell'=true:=by
 intro u hu
 simp only [twinC,List.mem_cons,List.not_mem_nil,or_false]at hu
 rcases hu with rfl | rfl | rfl | rfl | rfl | rfl | rfl | rfl<;>rfl
theorem twin_one0 (n:Int) (A:Option Addr) (c:Nat) (m:MarkV): ∀u∈twinC n A c m .nilIface,u.oneCell'=true:=by
 intro u hu
 simp only [twinC,List.mem_cons,List.not_mem_nil,or_false]at hu
 rcases hu with rfl | rfl | rfl | rfl | rfl | rfl | rfl | rfl<;>rfl
theorem twin_one_of {κ:SenK} {e:Int} {l:Value} (h:KErr κ e l) (n:Int) (A:Option Addr) (c:Nat) (m:MarkV): ∀u∈twinC n A c m l,u.oneCell'=true:=by
 by_cases he:e=0
 · subst he
   obtain rfl:=h.zero
   exact twin_one0 n A c m
 · obtain⟨tl,xl,rfl⟩:=h.some he
   exact twin_one n A c m tl xl
theorem kerr_cells {κ:SenK} {e:Int} {l:Value} (h:KErr κ e l):l.cells= #[l]:=by
 by_cases he:e=0
 · subst he
   obtain rfl:=h.zero
   rfl
 · obtain⟨tl,xl,rfl⟩:=h.some he
   rfl
theorem twin_new (W:World) (n:Int) (A:Option Addr) (c:Nat) (m:MarkV) (l:Value) (t:TypeId): ∀j u,(twinC n A c m l)[j]? =some u→(W.alloc (.cells #[.int .i64 n,.slice A c c,.int .i64 m.ver,.int .i64 m.idx,.int .i64 m.term,.int .i64 m.kind,.int .i64 m.void,l] t)).cell? ((⟨W.heap.size,0,none⟩:Addr).add j)=some u:=by
 intro j u hj
 have hadd:(⟨W.heap.size,0,none⟩:Addr).add j=⟨W.heap.size,j,none⟩:=by unfold Addr.add;split<;>simp_all
 rw [hadd]
 have h:=cell_of_row (W.alloc (.cells #[.int .i64 n,.slice A c c,.int .i64 m.ver,.int .i64 m.idx,.int .i64 m.term,.int .i64 m.kind,.int .i64 m.void,l] t)) W.heap.size j #[.int .i64 n,.slice A c c,.int .i64 m.ver,.int .i64 m.idx,.int .i64 m.term,.int .i64 m.kind,.int .i64 m.void,l] t (0,0) (heap_alloc_new W _)
 rw [h]
 simpa [twinC] using hj
theorem twin_new1 (W:World) (o:Obj) (n:Int) (A:Option Addr) (c:Nat) (m:MarkV) (l:Value) (t:TypeId): ∀j u,(twinC n A c m l)[j]? =some u→((W.alloc o).alloc (.cells #[.int .i64 n,.slice A c c,.int .i64 m.ver,.int .i64 m.idx,.int .i64 m.term,.int .i64 m.kind,.int .i64 m.void,l] t)).cell? ((⟨W.heap.size+1,0,none⟩:Addr).add j)=some u:=by
 have h:=twin_new (W.alloc o) n A c m l t
 rwa [World.size_alloc]at h
theorem read_len {D:DM} (h:D.Ok) (n:Int):(D.read n).1.length≤256:=by
 unfold DM.read
 split
 · exact Nat.zero_le _
 · split
   · next hn=>
     have h0:n.toNat < D.cells.length:=by have h1:0≤n:=hn.1;have h2:=hn.2;omega
     exact Nat.le_of_eq (h.seen h0).1
   · exact Nat.zero_le _
def Twins (κ:SenK) (w w':World) (k:Int) (p:Nat) (b0 b1:List Int) (v:Value):Prop:=
 ∃A0 A1 l0 l1,TwB w w' v 2 (twinC p A0 b0.length (markB k b0).1 l0++twinC ((p:Int)+1) A1 b1.length (markB k b1).1 l1) [(A1,b1),(A0,b0)]∧KErr κ (markB k b0).2 l0∧KErr κ (markB k b1).2 l1
def SeenR (κ:SenK) (w w':World) (k:Int) (p:Nat) (r0 r1:List Int × Int) (v lv:Value):Prop:=
 ((if r0.2≠0 then r0.2 else r1.2)≠0∧v= .slice none 0 0∧KErr κ (if r0.2≠0 then r0.2 else r1.2) lv)∨((if r0.2≠0 then r0.2 else r1.2)=0∧lv= .nilIface∧Twins κ w w' k p r0.1 r1.1 v)
def SeenAt (κ:SenK) (w w':World) (D:DM) (k:Int) (v lv:Value):Prop:=SeenR κ w w' k (placeK k) (D.read (placeK k)) (D.read ((placeK k:Int)+1)) v lv
section
variable {δ : SenD} {w0 w : World} {T : Nat → Prop} {h : Nat} {D : DM}
theorem kseen_any (σ:Sen) (τ:SenU) (κ:SenK) (hC:GlAt σ w0) (hU:GlU τ w0) (hD:GlD δ w0) (hM:GlK κ w0) (k:OwnT w0 w T h D) (kk:Int) (hk:sortK kk) (g:Nat) (hB:BlockIs w g 3 #[.int .i64 (placeK kk:Int),.int .i64 ((placeK kk:Int)+1)]):
 Calls Tryz.prog 127 #[.pointer (some ⟨h,0,none⟩),.int .i64 kk,.slice (some ⟨g,0,none⟩) 2 2] w fun e w'=> ∃v lv,e= .returned (.tuple #[v,lv])∧SeenAt κ w w' D kk v lv∧Below w.heap.size w w':=by
 obtain⟨i0,hi,hz0,hz1,hz2⟩:=info_parts infoTwin
 have HT:=qh (And.intro hi (And.intro hz0 (And.intro hz1 hz2)))
 have HI:=qh (show GlAt σ w∧GlU τ w∧GlK κ w from⟨hC.below k.below,hU.below k.below,hM.below k.below⟩)
 have HRd:=qh (fun W (hb:Below w.heap.size w W) n=>(read_any δ (k.on hb).at_ ((k.on hb).gl hD) n))
 have HO:=qh (fun W (hb:Below w.heap.size w W) A b hz hl=>kof_any σ τ κ W (HI.out.1.below hb) (HI.out.2.1.below hb) (HI.out.2.2.below hb) kk hk A b b.length hz (Nat.le_refl _) (show b.length≤9223372036854775807 from hl))
 have HB:=qh hB
 have hlen:=read_len k.at_.ok
 unfold SeenAt
 obtain⟨p,hp⟩: ∃p,placeK kk=p:=⟨_,rfl⟩
 rw [hp]at HB ⊢
 obtain⟨r0,hr0⟩: ∃r,D.read (p:Int)=r:=⟨_,rfl⟩
 obtain⟨r1,hr1⟩: ∃r,D.read ((p:Int)+1)=r:=⟨_,rfl⟩
 have Hr1:=qh hr1
 rw [hr0,hr1]
 have hl0:r0.1.length≤256:=by rw [← hr0];exact hlen _
 have hl1:r1.1.length≤256:=by rw [← hr1];exact hlen _
 have HR1:=HRd.out w (Below.refl _ _) (p:Int)
 rw [hr0]at HR1
 obtain⟨b0,e0⟩:=r0
 obtain⟨b1,e1⟩:=r1
 simp only at hl0 hl1 HR1
 have c0:w.cell? ⟨g,0,none⟩=some (.int .i64 (p:Int)):=HB.out.cell 0
 have HRa:=qh HR1
 have HL:=qh (And.intro hl0 hl1)
 have HOa:=qh (fun W hb A hz=>HO.out W hb A b0 hz (by omega))
 have HOb:=qh (fun W hb A hz=>HO.out W hb A b1 hz (by omega))
 obtain⟨q0,hq0⟩: ∃q,markB kk b0=q:=⟨_,rfl⟩
 obtain⟨q1,hq1⟩: ∃q,markB kk b1=q:=⟨_,rfl⟩
 rw [hq0]at HOa
 rw [hq1]at HOb
 have Hq0:=qh hq0
 have Hq1:=qh hq1
 obtain⟨⟨mv,mi,mt,mk,mo⟩,en0⟩:=q0
 obtain⟨⟨nv,ni,nt,nk,no⟩,en1⟩:=q1
 unfold MarkV.val at HOa HOb
 simp only at HOa HOb
 clear hC hU hD hM k hB hlen hp hr0 hr1 hk HR1 hl0 hl1 HO hq0 hq1 hi hz0 hz1 hz2
 by_cases he0:e0=0
 · subst he0
   by_cases he1:e1=0
   · subst he1
     go_enter Tryz.func127,Tryz.ntmps127
     go_wp2_with fail
     refine wp_loop_rounds 3 ?_
     rw [rounds_succ]
     go_wp2_with fail
     refine HRa.out.mono ?_
     rintro e w1 ⟨v,rfl,hv,hb1⟩
     obtain⟨A0,rfl,hz,hA⟩:=hv.bytes
     have K1:=qh ((TwB.nil w).add hb1 hz hA)
     clear hv hb1 hz hA HRa c0
     go_wp2_with fail
     refine(kfailed_any κ _ _ _).mono ?_
     rintro e w2 ⟨v,rfl,hv,hbf⟩
     obtain rfl:=hv.zero
     have K2:=qh (K1.out.below hbf)
     have HOc:=qh (HOa.out w2 K2.out.bl A0 (K2.out.held _ List.mem_cons_self).1)
     clear hv hbf K1
     go_wp2_with fail
     refine HOc.out.mono ?_
     rintro e w3 ⟨l0,rfl,hl,hb3⟩
     have Hl0:=qh hl
     have K3:=qh (K2.out.below hb3)
     clear hl hb3 HOc K2
     have hcl:=kerr_cells Hl0.out
     unfold Value.cells at hcl
     have hM4:=BlockIs.made w3 26 #[.int .i64 mv,.int .i64 mi,.int .i64 mt,.int .i64 mk,.int .i64 mo]
     obtain⟨⟨y0,y1,y2,y3,y4⟩,_⟩:=cells_five hM4
     have K5:=qh ((K3.out.below (below_new w3 (.cells #[.int .i64 mv,.int .i64 mi,.int .i64 mt,.int .i64 mk,.int .i64 mo] 26))).below (below_new _ (.cells #[.int .i64 (p:Int),.slice A0 b0.length b0.length,.int .i64 mv,.int .i64 mi,.int .i64 mt,.int .i64 mk,.int .i64 mo,l0] 158)))
     clear hM4
     go_wp2_with (at_builtin;refine wpList_append_own_at _ rfl _ _ 154 rfl w.heap.size 158 i0 (.agg #[.int .i64 0,.slice none 0 0,.int .i64 0,.int .i64 0,.int .i64 0,.int .i64 0,.int .i64 0,.nilIface]) 8 88 Tryz.underlying154 HT.out.1 HT.out.2.1 HT.out.2.2.1 HT.out.2.2.2 rfl (by decide) _ _ _ rfl K5.out.own ⟨w3.heap.size+1,0,none⟩ 1 1 (twinC (p:Int) A0 b0.length ⟨mv,mi,mt,mk,mo⟩ l0) rfl rfl (twin_new1 w3 (.cells #[.int .i64 mv,.int .i64 mi,.int .i64 mt,.int .i64 mk,.int .i64 mo] 26) (p:Int) A0 b0.length ⟨mv,mi,mt,mk,mo⟩ l0 158) (twin_one_of Hl0.out _ _ _ _) (by decide) (by decide) K5.out.bl.size ?_)
     intro vv1 w6 hown hgrow _ hat
     have K6:Hid (TwB w w6 vv1 1 (twinC (p:Int) A0 b0.length ⟨mv,mi,mt,mk,mo⟩ l0) [(A0,b0)]):=qh (K5.out.put hown hgrow (hat.imp id fun e=>e.trans (by rw [World.size_alloc,World.size_alloc])))
     clear hown hgrow hat y0 y1 y2 y3 y4 K3 K5
     go_wp2_with fail
     rw [rounds_succ]
     have c1:w6.cell? ⟨g,1,none⟩=some (.int .i64 ((p:Int)+1)):=cell_below (HB.out.cell 1) K6.out.bl
     have HR2:=HRd.out w6 K6.out.bl ((p:Int)+1)
     rw [Hr1.out]at HR2
     simp only at HR2
     have HRb:=qh HR2
     clear HR2
     go_wp2_with fail
     refine HRb.out.mono ?_
     rintro e w7 ⟨v,rfl,hv,hb7⟩
     obtain⟨A1,rfl,hz,hA⟩:=hv.bytes
     have K7:=qh (K6.out.add hb7 hz hA)
     clear hv hb7 hz hA HRb c1
     go_wp2_with fail
     refine(kfailed_any κ _ _ _).mono ?_
     rintro e w8 ⟨v,rfl,hv,hbf⟩
     obtain rfl:=hv.zero
     have K8:=qh (K7.out.below hbf)
     have HOc:=qh (HOb.out w8 K8.out.bl A1 (K8.out.held _ List.mem_cons_self).1)
     clear hv hbf K7
     go_wp2_with fail
     refine HOc.out.mono ?_
     rintro e w9 ⟨l1,rfl,hl,hb9⟩
     have Hl1:=qh hl
     have K9:=qh (K8.out.below hb9)
     clear hl hb9 HOc K8
     have hcl:=kerr_cells Hl1.out
     unfold Value.cells at hcl
     have hM4:=BlockIs.made w9 26 #[.int .i64 nv,.int .i64 ni,.int .i64 nt,.int .i64 nk,.int .i64 no]
     obtain⟨⟨y0,y1,y2,y3,y4⟩,_⟩:=cells_five hM4
     have K5:=qh ((K9.out.below (below_new w9 (.cells #[.int .i64 nv,.int .i64 ni,.int .i64 nt,.int .i64 nk,.int .i64 no] 26))).below (below_new _ (.cells #[.int .i64 ((p:Int)+1),.slice A1 b1.length b1.length,.int .i64 nv,.int .i64 ni,.int .i64 nt,.int .i64 nk,.int .i64 no,l1] 158)))
     clear hM4
     go_wp2_with (at_builtin;refine wpList_append_own_at _ rfl _ _ 154 rfl w.heap.size 158 i0 (.agg #[.int .i64 0,.slice none 0 0,.int .i64 0,.int .i64 0,.int .i64 0,.int .i64 0,.int .i64 0,.nilIface]) 8 88 Tryz.underlying154 HT.out.1 HT.out.2.1 HT.out.2.2.1 HT.out.2.2.2 rfl (by decide) _ _ _ rfl K5.out.own ⟨w9.heap.size+1,0,none⟩ 1 1 (twinC ((p:Int)+1) A1 b1.length ⟨nv,ni,nt,nk,no⟩ l1) rfl rfl (twin_new1 w9 (.cells #[.int .i64 nv,.int .i64 ni,.int .i64 nt,.int .i64 nk,.int .i64 no] 26) ((p:Int)+1) A1 b1.length ⟨nv,ni,nt,nk,no⟩ l1 158) (twin_one_of Hl1.out _ _ _ _) (by decide) (by decide) K5.out.bl.size ?_)
     intro vv2 w10 hown hgrow _ hat
     have Kz:=qh (K5.out.put hown hgrow (hat.imp id fun e=>e.trans (by rw [World.size_alloc,World.size_alloc])))
     clear hown hgrow hat y0 y1 y2 y3 y4 K9 K5
     go_wp2_with fail
     rw [rounds_succ]
     go_wp2_with fail
     go_ret2
     refine⟨_,_,rfl,.inr ⟨by rw [if_neg (fun hn=>hn rfl)],rfl,A0,A1,l0,l1,?_,?_,?_⟩,Kz.out.bl⟩
     · rw [Hq0.out,Hq1.out];exact Kz.out
     · rw [Hq0.out];exact Hl0.out
     · rw [Hq1.out];exact Hl1.out
   · have He1:=qh he1
     clear he1
     go_enter Tryz.func127,Tryz.ntmps127
     go_wp2_with fail
     refine wp_loop_rounds 3 ?_
     rw [rounds_succ]
     go_wp2_with fail
     refine HRa.out.mono ?_
     rintro e w1 ⟨v,rfl,hv,hb1⟩
     obtain⟨A0,rfl,hz,hA⟩:=hv.bytes
     have K1:=qh ((TwB.nil w).add hb1 hz hA)
     clear hv hb1 hz hA HRa c0
     go_wp2_with fail
     refine(kfailed_any κ _ _ _).mono ?_
     rintro e w2 ⟨v,rfl,hv,hbf⟩
     obtain rfl:=hv.zero
     have K2:=qh (K1.out.below hbf)
     have HOc:=qh (HOa.out w2 K2.out.bl A0 (K2.out.held _ List.mem_cons_self).1)
     clear hv hbf K1
     go_wp2_with fail
     refine HOc.out.mono ?_
     rintro e w3 ⟨l0,rfl,hl,hb3⟩
     have Hl0:=qh hl
     have K3:=qh (K2.out.below hb3)
     clear hl hb3 HOc K2
     have hcl:=kerr_cells Hl0.out
     unfold Value.cells at hcl
     have hM4:=BlockIs.made w3 26 #[.int .i64 mv,.int .i64 mi,.int .i64 mt,.int .i64 mk,.int .i64 mo]
     obtain⟨⟨y0,y1,y2,y3,y4⟩,_⟩:=cells_five hM4
     have K5:=qh ((K3.out.below (below_new w3 (.cells #[.int .i64 mv,.int .i64 mi,.int .i64 mt,.int .i64 mk,.int .i64 mo] 26))).below (below_new _ (.cells #[.int .i64 (p:Int),.slice A0 b0.length b0.length,.int .i64 mv,.int .i64 mi,.int .i64 mt,.int .i64 mk,.int .i64 mo,l0] 158)))
     clear hM4
     go_wp2_with (at_builtin;refine wpList_append_own_at _ rfl _ _ 154 rfl w.heap.size 158 i0 (.agg #[.int .i64 0,.slice none 0 0,.int .i64 0,.int .i64 0,.int .i64 0,.int .i64 0,.int .i64 0,.nilIface]) 8 88 Tryz.underlying154 HT.out.1 HT.out.2.1 HT.out.2.2.1 HT.out.2.2.2 rfl (by decide) _ _ _ rfl K5.out.own ⟨w3.heap.size+1,0,none⟩ 1 1 (twinC (p:Int) A0 b0.length ⟨mv,mi,mt,mk,mo⟩ l0) rfl rfl (twin_new1 w3 (.cells #[.int .i64 mv,.int .i64 mi,.int .i64 mt,.int .i64 mk,.int .i64 mo] 26) (p:Int) A0 b0.length ⟨mv,mi,mt,mk,mo⟩ l0 158) (twin_one_of Hl0.out _ _ _ _) (by decide) (by decide) K5.out.bl.size ?_)
     intro vv1 w6 hown hgrow _ hat
     have K6:Hid (TwB w w6 vv1 1 (twinC (p:Int) A0 b0.length ⟨mv,mi,mt,mk,mo⟩ l0) [(A0,b0)]):=qh (K5.out.put hown hgrow (hat.imp id fun e=>e.trans (by rw [World.size_alloc,World.size_alloc])))
     clear hown hgrow hat y0 y1 y2 y3 y4 K3 K5
     go_wp2_with fail
     rw [rounds_succ]
     have c1:w6.cell? ⟨g,1,none⟩=some (.int .i64 ((p:Int)+1)):=cell_below (HB.out.cell 1) K6.out.bl
     have HR2:=HRd.out w6 K6.out.bl ((p:Int)+1)
     rw [Hr1.out]at HR2
     simp only at HR2
     have HRb:=qh HR2
     clear HR2
     go_wp2_with fail
     refine HRb.out.mono ?_
     rintro e w7 ⟨v,rfl,hv,hb7⟩
     obtain⟨A1,rfl,hz,hA⟩:=hv.bytes
     have K7:=qh (K6.out.add hb7 hz hA)
     clear hv hb7 hz hA HRb c1
     go_wp2_with fail
     refine(kfailed_any κ _ _ _).mono ?_
     rintro e w8 ⟨v,rfl,hv,hbf⟩
     obtain⟨tv,xv,rfl⟩:=hv.some He1.out
     have Hv:=qh hv
     have K8:=qh (K7.out.below hbf)
     clear hv hbf K7
     go_wp2_with fail
     go_ret2
     exact⟨_,_,rfl,.inl ⟨by rw [if_neg (fun hn=>hn rfl)];exact He1.out,rfl,by rw [if_neg (fun hn=>hn rfl)];exact Hv.out⟩,K8.out.bl⟩
 · have He0:=qh he0
   clear he0
   go_enter Tryz.func127,Tryz.ntmps127
   go_wp2_with fail
   refine wp_loop_rounds 3 ?_
   rw [rounds_succ]
   go_wp2_with fail
   refine HRa.out.mono ?_
   rintro e w1 ⟨v,rfl,hv,hb1⟩
   obtain⟨A0,rfl,hz,hA⟩:=hv.bytes
   have K1:=qh ((TwB.nil w).add hb1 hz hA)
   clear hv hb1 hz hA HRa c0
   go_wp2_with fail
   refine(kfailed_any κ _ _ _).mono ?_
   rintro e w2 ⟨v,rfl,hv,hbf⟩
   obtain⟨tv,xv,rfl⟩:=hv.some He0.out
   have Hv:=qh hv
   have K2:=qh (K1.out.below hbf)
   clear hv hbf K1
   go_wp2_with fail
   go_ret2
   exact⟨_,_,rfl,.inl ⟨by rw [if_pos He0.out];exact He0.out,rfl,by rw [if_pos He0.out];exact Hv.out⟩,K2.out.bl⟩
end
open Go.RowKit
theorem TwB.mono {w ws w1:World} {v:Value} {n:Nat} {xs:List Value} {hs:List (Option Addr × List Int)} (k:TwB ws w1 v n xs hs) (hb:Below w.heap.size w ws):TwB w w1 v n xs hs:=
 ⟨⟨k.own.1,k.own.2.imp id fun⟨g,cap,cur,e1,e2,e3⟩=>⟨g,cap,cur,e1,Nat.le_trans hb.size e2,e3⟩⟩,hb.trans (k.bl.mono hb.size),k.held⟩
theorem SeenAt.mono {κ:SenK} {w ws w1:World} {D:DM} {k:Int} {v lv:Value} (h:SeenAt κ ws w1 D k v lv) (hb:Below w.heap.size w ws):SeenAt κ w w1 D k v lv:=by
 rcases h with h | ⟨h1,h2,A0,A1,l0,l1,h3,h4⟩
 · exact .inl h
 · exact .inr ⟨h1,h2,A0,A1,l0,l1,h3.mono hb,h4⟩
section
variable {δ : SenD} {w0 w : World} {T : Nat → Prop} {h : Nat} {D : DM}
theorem klook_sort (σ:Sen) (τ:SenU) (κ:SenK) (hC:GlAt σ w0) (hU:GlU τ w0) (hD:GlD δ w0) (hM:GlK κ w0) (k:OwnT w0 w T h D) (kk:Int) (hk:sortK kk):
 Calls Tryz.prog 105 #[.pointer (some ⟨h,0,none⟩),.int .i64 kk] w fun e w'=> ∃v lv,e= .returned (.tuple #[v,lv])∧SeenAt κ w w' D kk v lv∧Below w.heap.size w w':=by
 have hwf:wfK kk:=by rcases hk with rfl | rfl<;>(unfold wfK;decide)
 have hP:=placed_any κ _ (hM.below k.below) kk hwf
 rw [if_pos hk,show placeV kk= .agg #[.int .i64 (placeK kk:Int),.int .i64 ((placeK kk:Int)+1)] by unfold placeV;rw [if_pos hk]]at hP
 have HP:=qh hP
 have HS:=qh (fun W hb g hB=>kseen_any σ τ κ hC hU hD hM (OwnT.on (w':=W) k hb) kk hk g hB)
 obtain⟨p,hp⟩: ∃p,placeK kk=p:=⟨_,rfl⟩
 rw [hp]at HP HS
 clear hC hU hD hM k hk hwf hP hp
 go_enter Tryz.func105,Tryz.ntmps105
 go_wp2_with fail
 refine HP.out.mono ?_
 rintro e w2 ⟨v,rfl,hv,hb2⟩
 obtain rfl:=hv.zero
 have hb3:=hb2.trans ((below_new w2 (.cells #[.int .i64 (p:Int),.int .i64 ((p:Int)+1)] 82)).mono hb2.size)
 have hb4:=hb3.trans ((below_new _ (.cells #[.int .i64 (p:Int),.int .i64 ((p:Int)+1)] 3)).mono hb3.size)
 have hB:=BlockIs.made (w2.alloc (.cells #[.int .i64 (p:Int),.int .i64 ((p:Int)+1)] 82)) 3 #[.int .i64 (p:Int),.int .i64 ((p:Int)+1)]
 have hs:=HS.out _ hb4 _ hB
 rw [World.size_alloc]at hs
 have HS2:=qh hs
 have B4:=qh hb4
 clear hv hb2 hb3 hb4 hB hs HP
 go_wp2_with fail
 refine HS2.out.mono ?_
 rintro e w5 ⟨v,lv,rfl,hS,hb5⟩
 have S5:=qh (And.intro (hS.mono B4.out) (B4.out.trans (hb5.mono B4.out.size)))
 clear hS hb5
 go_wp2_with fail
 go_ret2
 exact⟨_,_,rfl,S5.out.1,S5.out.2⟩
theorem klook_none (κ:SenK) (hM:GlK κ w) (dv:Value) (kk:Int) (hwf:wfK kk) (hk: ¬sortK kk):
 Calls Tryz.prog 105 #[dv,.int .i64 kk] w fun e w'=> ∃lv,e= .returned (.tuple #[.slice none 0 0,lv])∧KErr κ 2 lv∧Below w.heap.size w w':=by
 have hP:=placed_any κ _ hM kk hwf
 rw [if_neg hk,show placeV kk= .agg #[.int .i64 0,.int .i64 0] by unfold placeV;rw [if_neg hk]]at hP
 have HP:=qh hP
 clear hM hk hwf hP
 go_enter Tryz.func105,Tryz.ntmps105
 go_wp2_with fail
 refine HP.out.mono ?_
 rintro e w2 ⟨v,rfl,hv,hb2⟩
 obtain⟨tv,xv,rfl⟩:=hv.some (by decide)
 have Hv:=qh hv
 have hb3:=qh (hb2.trans ((below_new w2 (.cells #[.int .i64 0,.int .i64 0] 82)).mono hb2.size))
 clear hv hb2 HP
 go_wp2_with fail
 go_ret2
 exact⟨_,rfl,Hv.out,hb3.out⟩
end
structure NIn (w w1:World) (g gb:Nat) (xs:List Value) (ms:Array Value):Prop where
 row: ∀i v,xs[i]? =some v→w1.cell? ⟨g,i,none⟩=some v
 res:BlockIs w1 w.heap.size 26 #[.int .i64 0,.int .i64 0,.int .i64 0,.int .i64 0,.int .i64 0]
 best:BlockIs w1 gb 26 ms
 bl:Below w.heap.size w w1
 lo:w.heap.size < gb
 gl:g < w.heap.size
section
variable {w w1 w2 : World} {g gb : Nat} {xs : List Value} {ms : Array Value}
theorem NIn.below (k:NIn w w1 g gb xs ms) (hb:Below w1.heap.size w1 w2):NIn w w2 g gb xs ms:=
 ⟨fun i v e=>cell_below (k.row i v e) hb,k.res.below hb k.res.lt,k.best.below hb k.best.lt,k.bl.trans (hb.mono k.bl.size),k.lo,k.gl⟩
theorem NIn.put {x0 x1 x2 x3 x4:Value} (k:NIn w w1 g gb xs #[x0,x1,x2,x3,x4]) (a0 a1 a2 a3 a4:Value):NIn w (put5 w1 gb a0 a1 a2 a3 a4) g gb xs #[a0,a1,a2,a3,a4]:=
 have hne: ∀b,b≠gb→(put5 w1 gb a0 a1 a2 a3 a4).heap[b]? =w1.heap[b]? :=fun b hb=>keep_five w1 gb a0 a1 a2 a3 a4 hb
 ⟨fun i v e=>(World.cell?_of_block (a:=⟨g,i,none⟩) (hne g (by have:=k.lo;have:=k.gl;omega))).trans (k.row i v e),k.res.keep (hne _ (by have:=k.lo;omega)),set_five k.best a0 a1 a2 a3 a4,
  below_five k.bl (Nat.le_of_lt k.lo) a0 a1 a2 a3 a4,k.lo,k.gl⟩
theorem twins_cells {w w1:World} {g cap:Nat} {xs:List Value} {hs:List (Option Addr × List Int)} (k:TwB w w1 (.slice (some ⟨g,0,none⟩) 2 cap) 2 xs hs): ∀i v,xs[i]? =some v→w1.cell? ⟨g,i,none⟩=some v:=fun i v e=>by
 have h:=k.own.cells (g:=g) rfl i v e
 have hadd:(⟨g,0,none⟩:Addr).add i=⟨g,i,none⟩:=by unfold Addr.add;split<;>simp_all
 rwa [hadd]at h
theorem own_form8 {w:World} {B:Nat} {e:TypeId} {size n:Nat} {v:Value} {xs:List Value} (h:w.ownsRow B e size v n xs) (hn:0 < n): ∃g cap,v= .slice (some ⟨g,0,none⟩) n cap∧g < w.heap.size:=by
 obtain⟨g,cap,e,_,hl,_⟩:=own_form h hn
 exact⟨g,cap,e,hl⟩
end
theorem knewer_a (κ:SenK) (w:World) (hM:GlK κ w) (g cap:Nat) (p:Nat) (A0 A1:Option Addr) (c0 c1:Nat) (mv mi mt mk mo nv ni nt nk no:Int) (t0:TypeId) (x0:Value) (t1:TypeId) (x1:Value)
 (hr: ∀i v,(twinC p A0 c0 ⟨mv,mi,mt,mk,mo⟩ (.iface t0 x0)++twinC ((p:Int)+1) A1 c1 ⟨nv,ni,nt,nk,no⟩ (.iface t1 x1))[i]? =some v→w.cell? ⟨g,i,none⟩=some v) (hg:g < w.heap.size):
 Calls Tryz.prog 107 #[.slice (some ⟨g,0,none⟩) 2 cap] w fun e w'=>e= .returned (.tuple #[noMark.val,errK κ.lo])∧Below w.heap.size w w':=by
 have hb1:=below_new w (.cells #[.int .i64 0,.int .i64 0,.int .i64 0,.int .i64 0,.int .i64 0] 26)
 have hb2:=below_new (w.alloc (.cells #[.int .i64 0,.int .i64 0,.int .i64 0,.int .i64 0,.int .i64 0] 26)) (.cells #[.int .i64 0,.int .i64 0,.int .i64 0,.int .i64 0,.int .i64 0] 26)
 have gl:=(hM.below hb1).lo
 have gl2:=((hM.below hb1).below hb2).lo
 have hR:=BlockIs.made w 26 #[.int .i64 0,.int .i64 0,.int .i64 0,.int .i64 0,.int .i64 0]
 have hB:=BlockIs.made (w.alloc (.cells #[.int .i64 0,.int .i64 0,.int .i64 0,.int .i64 0,.int .i64 0] 26)) 26 #[.int .i64 0,.int .i64 0,.int .i64 0,.int .i64 0,.int .i64 0]
 rw [World.size_alloc]at hB
 have N1:Hid (NIn w ((w.alloc (.cells #[.int .i64 0,.int .i64 0,.int .i64 0,.int .i64 0,.int .i64 0] 26)).alloc (.cells #[.int .i64 0,.int .i64 0,.int .i64 0,.int .i64 0,.int .i64 0] 26)).drew g (w.heap.size+1) (twinC p A0 c0 ⟨mv,mi,mt,mk,mo⟩ (.iface t0 x0)++twinC ((p:Int)+1) A1 c1 ⟨nv,ni,nt,nk,no⟩ (.iface t1 x1)) #[.int .i64 0,.int .i64 0,.int .i64 0,.int .i64 0,.int .i64 0]):=
  qh ⟨fun i v e=>cell_below (cell_below (hr i v e) hb1) hb2.drew,hR.below hb2.drew hR.lt,hB,hb1.trans (hb2.drew.mono hb1.size),Nat.lt_succ_self _,hg⟩
 unfold errK at gl gl2
 clear hM hb1 hb2 hR hB hr
 unfold noMark MarkV.val
 simp only
 go_enter Tryz.func107,Tryz.ntmps107
 go_wp2_with fail
 go_region
 generalize ((w.alloc (.cells #[.int .i64 0,.int .i64 0,.int .i64 0,.int .i64 0,.int .i64 0] 26)).alloc (.cells #[.int .i64 0,.int .i64 0,.int .i64 0,.int .i64 0,.int .i64 0] 26)).drew=W1 at *
 clear gl gl2
 go_wp2_with fail
 refine wp_loop_rounds 3 ?_
 rw [rounds_succ]
 have y0:=N1.out.row 0 _ rfl
 have y1:=N1.out.row 1 _ rfl
 have y2:=N1.out.row 2 _ rfl
 have y3:=N1.out.row 3 _ rfl
 have y4:=N1.out.row 4 _ rfl
 have y5:=N1.out.row 5 _ rfl
 have y6:=N1.out.row 6 _ rfl
 have y7:=N1.out.row 7 _ rfl
 have N2:=qh (N1.out.below (below_new W1 (.cells #[.int .i64 (p:Int),.slice A0 c0 c0,.int .i64 mv,.int .i64 mi,.int .i64 mt,.int .i64 mk,.int .i64 mo,.iface t0 x0] 158)))
 obtain⟨⟨b0,b1,b2,b3,b4⟩,f0,f1,f2,f3,f4⟩:=cells_five N2.out.best
 go_wp2_with fail
 rw [rounds_succ]
 clear y0 y1 y2 y3 y4 y5 y6 y7 b0 b1 b2 b3 b4 f0 f1 f2 f3 f4
 clear N1
 generalize W1.alloc (.cells #[.int .i64 (p:Int),.slice A0 c0 c0,.int .i64 mv,.int .i64 mi,.int .i64 mt,.int .i64 mk,.int .i64 mo,.iface t0 x0] 158)=W2 at *
 have y0:=N2.out.row 8 _ rfl
 have y1:=N2.out.row 9 _ rfl
 have y2:=N2.out.row 10 _ rfl
 have y3:=N2.out.row 11 _ rfl
 have y4:=N2.out.row 12 _ rfl
 have y5:=N2.out.row 13 _ rfl
 have y6:=N2.out.row 14 _ rfl
 have y7:=N2.out.row 15 _ rfl
 have N3:=qh (N2.out.below (below_new W2 (.cells #[.int .i64 ((p:Int)+1),.slice A1 c1 c1,.int .i64 nv,.int .i64 ni,.int .i64 nt,.int .i64 nk,.int .i64 no,.iface t1 x1] 158)))
 obtain⟨⟨b0,b1,b2,b3,b4⟩,f0,f1,f2,f3,f4⟩:=cells_five N3.out.best
 go_wp2_with fail
 rw [rounds_succ]
 clear y0 y1 y2 y3 y4 y5 y6 y7 b0 b1 b2 b3 b4 f0 f1 f2 f3 f4
 clear N2
 generalize W2.alloc (.cells #[.int .i64 ((p:Int)+1),.slice A1 c1 c1,.int .i64 nv,.int .i64 ni,.int .i64 nt,.int .i64 nk,.int .i64 no,.iface t1 x1] 158)=W3 at *
 obtain⟨⟨b0,b1,b2,b3,b4⟩,_⟩:=cells_five N3.out.best
 obtain⟨⟨y0,y1,y2,y3,y4⟩,f0,f1,f2,f3,f4⟩:=cells_five N3.out.res
 have RZ:=qh (set_five N3.out.res (.int .i64 0) (.int .i64 0) (.int .i64 0) (.int .i64 0) (.int .i64 0))
 have BZ:=qh (below_five N3.out.bl (Nat.le_refl _) (.int .i64 0) (.int .i64 0) (.int .i64 0) (.int .i64 0) (.int .i64 0))
 unfold put5 at RZ BZ
 go_wp2_with fail
 clear b0 b1 b2 b3 b4 y0 y1 y2 y3 y4 f0 f1 f2 f3 f4
 generalize (((((W3).setCell ⟨w.heap.size,0,none⟩ (.int .i64 0)).setCell ⟨w.heap.size,1,none⟩ (.int .i64 0)).setCell ⟨w.heap.size,2,none⟩ (.int .i64 0)).setCell ⟨w.heap.size,3,none⟩ (.int .i64 0)).setCell ⟨w.heap.size,4,none⟩ (.int .i64 0)=wz at *
 obtain⟨⟨z0,z1,z2,z3,z4⟩,_⟩:=cells_five RZ.out
 exact bodyPost_ret (v:= .tuple #[.agg #[.int .i64 0,.int .i64 0,.int .i64 0,.int .i64 0,.int .i64 0],errK κ.lo]) (by simp [results,Tryz.results107,go_sem,z0,z1,z2,z3,z4]) rfl ⟨rfl,BZ.out⟩
theorem knewer_b (κ:SenK) (w:World) (hM:GlK κ w) (g cap:Nat) (p:Nat) (A0 A1:Option Addr) (c0 c1:Nat) (mv mi mt mk mo nv ni nt nk no:Int) (t0:TypeId) (x0:Value)
 (hr: ∀i v,(twinC p A0 c0 ⟨mv,mi,mt,mk,mo⟩ (.iface t0 x0)++twinC ((p:Int)+1) A1 c1 ⟨nv,ni,nt,nk,no⟩ .nilIface)[i]? =some v→w.cell? ⟨g,i,none⟩=some v) (hg:g < w.heap.size):
 Calls Tryz.prog 107 #[.slice (some ⟨g,0,none⟩) 2 cap] w fun e w'=>e= .returned (.tuple #[.agg #[.int .i64 nv,.int .i64 ni,.int .i64 nt,.int .i64 nk,.int .i64 no],.nilIface])∧Below w.heap.size w w':=by
 have hb1:=below_new w (.cells #[.int .i64 0,.int .i64 0,.int .i64 0,.int .i64 0,.int .i64 0] 26)
 have hb2:=below_new (w.alloc (.cells #[.int .i64 0,.int .i64 0,.int .i64 0,.int .i64 0,.int .i64 0] 26)) (.cells #[.int .i64 0,.int .i64 0,.int .i64 0,.int .i64 0,.int .i64 0] 26)
 have gl:=(hM.below hb1).lo
 have gl2:=((hM.below hb1).below hb2).lo
 have hR:=BlockIs.made w 26 #[.int .i64 0,.int .i64 0,.int .i64 0,.int .i64 0,.int .i64 0]
 have hB:=BlockIs.made (w.alloc (.cells #[.int .i64 0,.int .i64 0,.int .i64 0,.int .i64 0,.int .i64 0] 26)) 26 #[.int .i64 0,.int .i64 0,.int .i64 0,.int .i64 0,.int .i64 0]
 rw [World.size_alloc]at hB
 have N1:Hid (NIn w ((w.alloc (.cells #[.int .i64 0,.int .i64 0,.int .i64 0,.int .i64 0,.int .i64 0] 26)).alloc (.cells #[.int .i64 0,.int .i64 0,.int .i64 0,.int .i64 0,.int .i64 0] 26)).drew g (w.heap.size+1) (twinC p A0 c0 ⟨mv,mi,mt,mk,mo⟩ (.iface t0 x0)++twinC ((p:Int)+1) A1 c1 ⟨nv,ni,nt,nk,no⟩ .nilIface) #[.int .i64 0,.int .i64 0,.int .i64 0,.int .i64 0,.int .i64 0]):=
  qh ⟨fun i v e=>cell_below (cell_below (hr i v e) hb1) hb2.drew,hR.below hb2.drew hR.lt,hB,hb1.trans (hb2.drew.mono hb1.size),Nat.lt_succ_self _,hg⟩
 unfold errK at gl gl2
 clear hM hb1 hb2 hR hB hr
 go_enter Tryz.func107,Tryz.ntmps107
 go_wp2_with fail
 go_region
 generalize ((w.alloc (.cells #[.int .i64 0,.int .i64 0,.int .i64 0,.int .i64 0,.int .i64 0] 26)).alloc (.cells #[.int .i64 0,.int .i64 0,.int .i64 0,.int .i64 0,.int .i64 0] 26)).drew=W1 at *
 clear gl gl2
 go_wp2_with fail
 refine wp_loop_rounds 3 ?_
 rw [rounds_succ]
 have y0:=N1.out.row 0 _ rfl
 have y1:=N1.out.row 1 _ rfl
 have y2:=N1.out.row 2 _ rfl
 have y3:=N1.out.row 3 _ rfl
 have y4:=N1.out.row 4 _ rfl
 have y5:=N1.out.row 5 _ rfl
 have y6:=N1.out.row 6 _ rfl
 have y7:=N1.out.row 7 _ rfl
 have N2:=qh (N1.out.below (below_new W1 (.cells #[.int .i64 (p:Int),.slice A0 c0 c0,.int .i64 mv,.int .i64 mi,.int .i64 mt,.int .i64 mk,.int .i64 mo,.iface t0 x0] 158)))
 obtain⟨⟨b0,b1,b2,b3,b4⟩,f0,f1,f2,f3,f4⟩:=cells_five N2.out.best
 go_wp2_with fail
 rw [rounds_succ]
 clear y0 y1 y2 y3 y4 y5 y6 y7 b0 b1 b2 b3 b4 f0 f1 f2 f3 f4
 clear N1
 generalize W1.alloc (.cells #[.int .i64 (p:Int),.slice A0 c0 c0,.int .i64 mv,.int .i64 mi,.int .i64 mt,.int .i64 mk,.int .i64 mo,.iface t0 x0] 158)=W2 at *
 have y0:=N2.out.row 8 _ rfl
 have y1:=N2.out.row 9 _ rfl
 have y2:=N2.out.row 10 _ rfl
 have y3:=N2.out.row 11 _ rfl
 have y4:=N2.out.row 12 _ rfl
 have y5:=N2.out.row 13 _ rfl
 have y6:=N2.out.row 14 _ rfl
 have y7:=N2.out.row 15 _ rfl
 have N3:=qh (N2.out.below (below_new W2 (.cells #[.int .i64 ((p:Int)+1),.slice A1 c1 c1,.int .i64 nv,.int .i64 ni,.int .i64 nt,.int .i64 nk,.int .i64 no,.nilIface] 158)))
 obtain⟨⟨b0,b1,b2,b3,b4⟩,f0,f1,f2,f3,f4⟩:=cells_five N3.out.best
 go_wp2_with fail
 rw [rounds_succ]
 clear y0 y1 y2 y3 y4 y5 y6 y7 b0 b1 b2 b3 b4 f0 f1 f2 f3 f4
 have N4:=qh (N3.out.put (.int .i64 nv) (.int .i64 ni) (.int .i64 nt) (.int .i64 nk) (.int .i64 no))
 unfold put5 at N4
 clear N3 N2
 generalize (((((W2.alloc (.cells #[.int .i64 ((p:Int)+1),.slice A1 c1 c1,.int .i64 nv,.int .i64 ni,.int .i64 nt,.int .i64 nk,.int .i64 no,.nilIface] 158)).setCell ⟨w.heap.size+1,0,none⟩ (.int .i64 nv)).setCell ⟨w.heap.size+1,1,none⟩ (.int .i64 ni)).setCell ⟨w.heap.size+1,2,none⟩ (.int .i64 nt)).setCell ⟨w.heap.size+1,3,none⟩ (.int .i64 nk)).setCell ⟨w.heap.size+1,4,none⟩ (.int .i64 no)=W3 at *
 obtain⟨⟨b0,b1,b2,b3,b4⟩,_⟩:=cells_five N4.out.best
 obtain⟨⟨y0,y1,y2,y3,y4⟩,f0,f1,f2,f3,f4⟩:=cells_five N4.out.res
 have RZ:=qh (set_five N4.out.res (.int .i64 nv) (.int .i64 ni) (.int .i64 nt) (.int .i64 nk) (.int .i64 no))
 have BZ:=qh (below_five N4.out.bl (Nat.le_refl _) (.int .i64 nv) (.int .i64 ni) (.int .i64 nt) (.int .i64 nk) (.int .i64 no))
 unfold put5 at RZ BZ
 go_wp2_with fail
 clear b0 b1 b2 b3 b4 y0 y1 y2 y3 y4 f0 f1 f2 f3 f4
 generalize (((((W3).setCell ⟨w.heap.size,0,none⟩ (.int .i64 nv)).setCell ⟨w.heap.size,1,none⟩ (.int .i64 ni)).setCell ⟨w.heap.size,2,none⟩ (.int .i64 nt)).setCell ⟨w.heap.size,3,none⟩ (.int .i64 nk)).setCell ⟨w.heap.size,4,none⟩ (.int .i64 no)=wz at *
 obtain⟨⟨z0,z1,z2,z3,z4⟩,_⟩:=cells_five RZ.out
 exact bodyPost_ret (v:= .tuple #[.agg #[.int .i64 nv,.int .i64 ni,.int .i64 nt,.int .i64 nk,.int .i64 no],.nilIface]) (by simp [results,Tryz.results107,go_sem,z0,z1,z2,z3,z4]) rfl ⟨rfl,BZ.out⟩
theorem knewer_c (κ:SenK) (w:World) (hM:GlK κ w) (g cap:Nat) (p:Nat) (A0 A1:Option Addr) (c0 c1:Nat) (mv mi mt mk mo nv ni nt nk no:Int) (t1:TypeId) (x1:Value)
 (hr: ∀i v,(twinC p A0 c0 ⟨mv,mi,mt,mk,mo⟩ .nilIface++twinC ((p:Int)+1) A1 c1 ⟨nv,ni,nt,nk,no⟩ (.iface t1 x1))[i]? =some v→w.cell? ⟨g,i,none⟩=some v) (hg:g < w.heap.size):
 Calls Tryz.prog 107 #[.slice (some ⟨g,0,none⟩) 2 cap] w fun e w'=>e= .returned (.tuple #[.agg #[.int .i64 mv,.int .i64 mi,.int .i64 mt,.int .i64 mk,.int .i64 mo],.nilIface])∧Below w.heap.size w w':=by
 have hb1:=below_new w (.cells #[.int .i64 0,.int .i64 0,.int .i64 0,.int .i64 0,.int .i64 0] 26)
 have hb2:=below_new (w.alloc (.cells #[.int .i64 0,.int .i64 0,.int .i64 0,.int .i64 0,.int .i64 0] 26)) (.cells #[.int .i64 0,.int .i64 0,.int .i64 0,.int .i64 0,.int .i64 0] 26)
 have gl:=(hM.below hb1).lo
 have gl2:=((hM.below hb1).below hb2).lo
 have hR:=BlockIs.made w 26 #[.int .i64 0,.int .i64 0,.int .i64 0,.int .i64 0,.int .i64 0]
 have hB:=BlockIs.made (w.alloc (.cells #[.int .i64 0,.int .i64 0,.int .i64 0,.int .i64 0,.int .i64 0] 26)) 26 #[.int .i64 0,.int .i64 0,.int .i64 0,.int .i64 0,.int .i64 0]
 rw [World.size_alloc]at hB
 have N1:Hid (NIn w ((w.alloc (.cells #[.int .i64 0,.int .i64 0,.int .i64 0,.int .i64 0,.int .i64 0] 26)).alloc (.cells #[.int .i64 0,.int .i64 0,.int .i64 0,.int .i64 0,.int .i64 0] 26)).drew g (w.heap.size+1) (twinC p A0 c0 ⟨mv,mi,mt,mk,mo⟩ .nilIface++twinC ((p:Int)+1) A1 c1 ⟨nv,ni,nt,nk,no⟩ (.iface t1 x1)) #[.int .i64 0,.int .i64 0,.int .i64 0,.int .i64 0,.int .i64 0]):=
  qh ⟨fun i v e=>cell_below (cell_below (hr i v e) hb1) hb2.drew,hR.below hb2.drew hR.lt,hB,hb1.trans (hb2.drew.mono hb1.size),Nat.lt_succ_self _,hg⟩
 unfold errK at gl gl2
 clear hM hb1 hb2 hR hB hr
 go_enter Tryz.func107,Tryz.ntmps107
 go_wp2_with fail
 go_region
 generalize ((w.alloc (.cells #[.int .i64 0,.int .i64 0,.int .i64 0,.int .i64 0,.int .i64 0] 26)).alloc (.cells #[.int .i64 0,.int .i64 0,.int .i64 0,.int .i64 0,.int .i64 0] 26)).drew=W1 at *
 clear gl gl2
 go_wp2_with fail
 refine wp_loop_rounds 3 ?_
 rw [rounds_succ]
 have y0:=N1.out.row 0 _ rfl
 have y1:=N1.out.row 1 _ rfl
 have y2:=N1.out.row 2 _ rfl
 have y3:=N1.out.row 3 _ rfl
 have y4:=N1.out.row 4 _ rfl
 have y5:=N1.out.row 5 _ rfl
 have y6:=N1.out.row 6 _ rfl
 have y7:=N1.out.row 7 _ rfl
 have N2:=qh (N1.out.below (below_new W1 (.cells #[.int .i64 (p:Int),.slice A0 c0 c0,.int .i64 mv,.int .i64 mi,.int .i64 mt,.int .i64 mk,.int .i64 mo,.nilIface] 158)))
 obtain⟨⟨b0,b1,b2,b3,b4⟩,f0,f1,f2,f3,f4⟩:=cells_five N2.out.best
 go_wp2_with fail
 rw [rounds_succ]
 clear y0 y1 y2 y3 y4 y5 y6 y7 b0 b1 b2 b3 b4 f0 f1 f2 f3 f4
 have N3:=qh (N2.out.put (.int .i64 mv) (.int .i64 mi) (.int .i64 mt) (.int .i64 mk) (.int .i64 mo))
 unfold put5 at N3
 clear N2 N1
 generalize (((((W1.alloc (.cells #[.int .i64 (p:Int),.slice A0 c0 c0,.int .i64 mv,.int .i64 mi,.int .i64 mt,.int .i64 mk,.int .i64 mo,.nilIface] 158)).setCell ⟨w.heap.size+1,0,none⟩ (.int .i64 mv)).setCell ⟨w.heap.size+1,1,none⟩ (.int .i64 mi)).setCell ⟨w.heap.size+1,2,none⟩ (.int .i64 mt)).setCell ⟨w.heap.size+1,3,none⟩ (.int .i64 mk)).setCell ⟨w.heap.size+1,4,none⟩ (.int .i64 mo)=W2 at *
 have y0:=N3.out.row 8 _ rfl
 have y1:=N3.out.row 9 _ rfl
 have y2:=N3.out.row 10 _ rfl
 have y3:=N3.out.row 11 _ rfl
 have y4:=N3.out.row 12 _ rfl
 have y5:=N3.out.row 13 _ rfl
 have y6:=N3.out.row 14 _ rfl
 have y7:=N3.out.row 15 _ rfl
 have N4:=qh (N3.out.below (below_new W2 (.cells #[.int .i64 ((p:Int)+1),.slice A1 c1 c1,.int .i64 nv,.int .i64 ni,.int .i64 nt,.int .i64 nk,.int .i64 no,.iface t1 x1] 158)))
 obtain⟨⟨b0,b1,b2,b3,b4⟩,f0,f1,f2,f3,f4⟩:=cells_five N4.out.best
 go_wp2_with fail
 rw [rounds_succ]
 clear y0 y1 y2 y3 y4 y5 y6 y7 b0 b1 b2 b3 b4 f0 f1 f2 f3 f4
 clear N3
 generalize W2.alloc (.cells #[.int .i64 ((p:Int)+1),.slice A1 c1 c1,.int .i64 nv,.int .i64 ni,.int .i64 nt,.int .i64 nk,.int .i64 no,.iface t1 x1] 158)=W3 at *
 obtain⟨⟨b0,b1,b2,b3,b4⟩,_⟩:=cells_five N4.out.best
 obtain⟨⟨y0,y1,y2,y3,y4⟩,f0,f1,f2,f3,f4⟩:=cells_five N4.out.res
 have RZ:=qh (set_five N4.out.res (.int .i64 mv) (.int .i64 mi) (.int .i64 mt) (.int .i64 mk) (.int .i64 mo))
 have BZ:=qh (below_five N4.out.bl (Nat.le_refl _) (.int .i64 mv) (.int .i64 mi) (.int .i64 mt) (.int .i64 mk) (.int .i64 mo))
 unfold put5 at RZ BZ
 go_wp2_with fail
 clear b0 b1 b2 b3 b4 y0 y1 y2 y3 y4 f0 f1 f2 f3 f4
 generalize (((((W3).setCell ⟨w.heap.size,0,none⟩ (.int .i64 mv)).setCell ⟨w.heap.size,1,none⟩ (.int .i64 mi)).setCell ⟨w.heap.size,2,none⟩ (.int .i64 mt)).setCell ⟨w.heap.size,3,none⟩ (.int .i64 mk)).setCell ⟨w.heap.size,4,none⟩ (.int .i64 mo)=wz at *
 obtain⟨⟨z0,z1,z2,z3,z4⟩,_⟩:=cells_five RZ.out
 exact bodyPost_ret (v:= .tuple #[.agg #[.int .i64 mv,.int .i64 mi,.int .i64 mt,.int .i64 mk,.int .i64 mo],.nilIface]) (by simp [results,Tryz.results107,go_sem,z0,z1,z2,z3,z4]) rfl ⟨rfl,BZ.out⟩
theorem knewer_d (κ:SenK) (w:World) (hM:GlK κ w) (g cap:Nat) (p:Nat) (A0 A1:Option Addr) (c0 c1:Nat) (mv mi mt mk mo nv ni nt nk no:Int) 
 (hr: ∀i v,(twinC p A0 c0 ⟨mv,mi,mt,mk,mo⟩ .nilIface++twinC ((p:Int)+1) A1 c1 ⟨nv,ni,nt,nk,no⟩ .nilIface)[i]? =some v→w.cell? ⟨g,i,none⟩=some v) (hg:g < w.heap.size) (hlt:mv < nv):
 Calls Tryz.prog 107 #[.slice (some ⟨g,0,none⟩) 2 cap] w fun e w'=>e= .returned (.tuple #[.agg #[.int .i64 nv,.int .i64 ni,.int .i64 nt,.int .i64 nk,.int .i64 no],.nilIface])∧Below w.heap.size w w':=by
 have hb1:=below_new w (.cells #[.int .i64 0,.int .i64 0,.int .i64 0,.int .i64 0,.int .i64 0] 26)
 have hb2:=below_new (w.alloc (.cells #[.int .i64 0,.int .i64 0,.int .i64 0,.int .i64 0,.int .i64 0] 26)) (.cells #[.int .i64 0,.int .i64 0,.int .i64 0,.int .i64 0,.int .i64 0] 26)
 have gl:=(hM.below hb1).lo
 have gl2:=((hM.below hb1).below hb2).lo
 have hR:=BlockIs.made w 26 #[.int .i64 0,.int .i64 0,.int .i64 0,.int .i64 0,.int .i64 0]
 have hB:=BlockIs.made (w.alloc (.cells #[.int .i64 0,.int .i64 0,.int .i64 0,.int .i64 0,.int .i64 0] 26)) 26 #[.int .i64 0,.int .i64 0,.int .i64 0,.int .i64 0,.int .i64 0]
 rw [World.size_alloc]at hB
 have N1:Hid (NIn w ((w.alloc (.cells #[.int .i64 0,.int .i64 0,.int .i64 0,.int .i64 0,.int .i64 0] 26)).alloc (.cells #[.int .i64 0,.int .i64 0,.int .i64 0,.int .i64 0,.int .i64 0] 26)).drew g (w.heap.size+1) (twinC p A0 c0 ⟨mv,mi,mt,mk,mo⟩ .nilIface++twinC ((p:Int)+1) A1 c1 ⟨nv,ni,nt,nk,no⟩ .nilIface) #[.int .i64 0,.int .i64 0,.int .i64 0,.int .i64 0,.int .i64 0]):=
  qh ⟨fun i v e=>cell_below (cell_below (hr i v e) hb1) hb2.drew,hR.below hb2.drew hR.lt,hB,hb1.trans (hb2.drew.mono hb1.size),Nat.lt_succ_self _,hg⟩
 unfold errK at gl gl2
 clear hM hb1 hb2 hR hB hr
 go_enter Tryz.func107,Tryz.ntmps107
 go_wp2_with fail
 go_region
 generalize ((w.alloc (.cells #[.int .i64 0,.int .i64 0,.int .i64 0,.int .i64 0,.int .i64 0] 26)).alloc (.cells #[.int .i64 0,.int .i64 0,.int .i64 0,.int .i64 0,.int .i64 0] 26)).drew=W1 at *
 clear gl gl2
 go_wp2_with fail
 refine wp_loop_rounds 3 ?_
 rw [rounds_succ]
 have y0:=N1.out.row 0 _ rfl
 have y1:=N1.out.row 1 _ rfl
 have y2:=N1.out.row 2 _ rfl
 have y3:=N1.out.row 3 _ rfl
 have y4:=N1.out.row 4 _ rfl
 have y5:=N1.out.row 5 _ rfl
 have y6:=N1.out.row 6 _ rfl
 have y7:=N1.out.row 7 _ rfl
 have N2:=qh (N1.out.below (below_new W1 (.cells #[.int .i64 (p:Int),.slice A0 c0 c0,.int .i64 mv,.int .i64 mi,.int .i64 mt,.int .i64 mk,.int .i64 mo,.nilIface] 158)))
 obtain⟨⟨b0,b1,b2,b3,b4⟩,f0,f1,f2,f3,f4⟩:=cells_five N2.out.best
 go_wp2_with fail
 rw [rounds_succ]
 clear y0 y1 y2 y3 y4 y5 y6 y7 b0 b1 b2 b3 b4 f0 f1 f2 f3 f4
 have N3:=qh (N2.out.put (.int .i64 mv) (.int .i64 mi) (.int .i64 mt) (.int .i64 mk) (.int .i64 mo))
 unfold put5 at N3
 clear N2 N1
 generalize (((((W1.alloc (.cells #[.int .i64 (p:Int),.slice A0 c0 c0,.int .i64 mv,.int .i64 mi,.int .i64 mt,.int .i64 mk,.int .i64 mo,.nilIface] 158)).setCell ⟨w.heap.size+1,0,none⟩ (.int .i64 mv)).setCell ⟨w.heap.size+1,1,none⟩ (.int .i64 mi)).setCell ⟨w.heap.size+1,2,none⟩ (.int .i64 mt)).setCell ⟨w.heap.size+1,3,none⟩ (.int .i64 mk)).setCell ⟨w.heap.size+1,4,none⟩ (.int .i64 mo)=W2 at *
 have y0:=N3.out.row 8 _ rfl
 have y1:=N3.out.row 9 _ rfl
 have y2:=N3.out.row 10 _ rfl
 have y3:=N3.out.row 11 _ rfl
 have y4:=N3.out.row 12 _ rfl
 have y5:=N3.out.row 13 _ rfl
 have y6:=N3.out.row 14 _ rfl
 have y7:=N3.out.row 15 _ rfl
 have N4:=qh (N3.out.below (below_new W2 (.cells #[.int .i64 ((p:Int)+1),.slice A1 c1 c1,.int .i64 nv,.int .i64 ni,.int .i64 nt,.int .i64 nk,.int .i64 no,.nilIface] 158)))
 obtain⟨⟨b0,b1,b2,b3,b4⟩,f0,f1,f2,f3,f4⟩:=cells_five N4.out.best
 go_wp2_with fail
 rw [rounds_succ]
 clear y0 y1 y2 y3 y4 y5 y6 y7 b0 b1 b2 b3 b4 f0 f1 f2 f3 f4
 have N5:=qh (N4.out.put (.int .i64 nv) (.int .i64 ni) (.int .i64 nt) (.int .i64 nk) (.int .i64 no))
 unfold put5 at N5
 clear N4 N3
 generalize (((((W2.alloc (.cells #[.int .i64 ((p:Int)+1),.slice A1 c1 c1,.int .i64 nv,.int .i64 ni,.int .i64 nt,.int .i64 nk,.int .i64 no,.nilIface] 158)).setCell ⟨w.heap.size+1,0,none⟩ (.int .i64 nv)).setCell ⟨w.heap.size+1,1,none⟩ (.int .i64 ni)).setCell ⟨w.heap.size+1,2,none⟩ (.int .i64 nt)).setCell ⟨w.heap.size+1,3,none⟩ (.int .i64 nk)).setCell ⟨w.heap.size+1,4,none⟩ (.int .i64 no)=W3 at *
 obtain⟨⟨b0,b1,b2,b3,b4⟩,_⟩:=cells_five N5.out.best
 obtain⟨⟨y0,y1,y2,y3,y4⟩,f0,f1,f2,f3,f4⟩:=cells_five N5.out.res
 have RZ:=qh (set_five N5.out.res (.int .i64 nv) (.int .i64 ni) (.int .i64 nt) (.int .i64 nk) (.int .i64 no))
 have BZ:=qh (below_five N5.out.bl (Nat.le_refl _) (.int .i64 nv) (.int .i64 ni) (.int .i64 nt) (.int .i64 nk) (.int .i64 no))
 unfold put5 at RZ BZ
 go_wp2_with fail
 clear b0 b1 b2 b3 b4 y0 y1 y2 y3 y4 f0 f1 f2 f3 f4
 generalize (((((W3).setCell ⟨w.heap.size,0,none⟩ (.int .i64 nv)).setCell ⟨w.heap.size,1,none⟩ (.int .i64 ni)).setCell ⟨w.heap.size,2,none⟩ (.int .i64 nt)).setCell ⟨w.heap.size,3,none⟩ (.int .i64 nk)).setCell ⟨w.heap.size,4,none⟩ (.int .i64 no)=wz at *
 obtain⟨⟨z0,z1,z2,z3,z4⟩,_⟩:=cells_five RZ.out
 exact bodyPost_ret (v:= .tuple #[.agg #[.int .i64 nv,.int .i64 ni,.int .i64 nt,.int .i64 nk,.int .i64 no],.nilIface]) (by simp [results,Tryz.results107,go_sem,z0,z1,z2,z3,z4]) rfl ⟨rfl,BZ.out⟩
theorem knewer_e (κ:SenK) (w:World) (hM:GlK κ w) (g cap:Nat) (p:Nat) (A0 A1:Option Addr) (c0 c1:Nat) (mv mi mt mk mo nv ni nt nk no:Int) 
 (hr: ∀i v,(twinC p A0 c0 ⟨mv,mi,mt,mk,mo⟩ .nilIface++twinC ((p:Int)+1) A1 c1 ⟨nv,ni,nt,nk,no⟩ .nilIface)[i]? =some v→w.cell? ⟨g,i,none⟩=some v) (hg:g < w.heap.size) (hlt: ¬mv < nv):
 Calls Tryz.prog 107 #[.slice (some ⟨g,0,none⟩) 2 cap] w fun e w'=>e= .returned (.tuple #[.agg #[.int .i64 mv,.int .i64 mi,.int .i64 mt,.int .i64 mk,.int .i64 mo],.nilIface])∧Below w.heap.size w w':=by
 have hb1:=below_new w (.cells #[.int .i64 0,.int .i64 0,.int .i64 0,.int .i64 0,.int .i64 0] 26)
 have hb2:=below_new (w.alloc (.cells #[.int .i64 0,.int .i64 0,.int .i64 0,.int .i64 0,.int .i64 0] 26)) (.cells #[.int .i64 0,.int .i64 0,.int .i64 0,.int .i64 0,.int .i64 0] 26)
 have gl:=(hM.below hb1).lo
 have gl2:=((hM.below hb1).below hb2).lo
 have hR:=BlockIs.made w 26 #[.int .i64 0,.int .i64 0,.int .i64 0,.int .i64 0,.int .i64 0]
 have hB:=BlockIs.made (w.alloc (.cells #[.int .i64 0,.int .i64 0,.int .i64 0,.int .i64 0,.int .i64 0] 26)) 26 #[.int .i64 0,.int .i64 0,.int .i64 0,.int .i64 0,.int .i64 0]
 rw [World.size_alloc]at hB
 have N1:Hid (NIn w ((w.alloc (.cells #[.int .i64 0,.int .i64 0,.int .i64 0,.int .i64 0,.int .i64 0] 26)).alloc (.cells #[.int .i64 0,.int .i64 0,.int .i64 0,.int .i64 0,.int .i64 0] 26)).drew g (w.heap.size+1) (twinC p A0 c0 ⟨mv,mi,mt,mk,mo⟩ .nilIface++twinC ((p:Int)+1) A1 c1 ⟨nv,ni,nt,nk,no⟩ .nilIface) #[.int .i64 0,.int .i64 0,.int .i64 0,.int .i64 0,.int .i64 0]):=
  qh ⟨fun i v e=>cell_below (cell_below (hr i v e) hb1) hb2.drew,hR.below hb2.drew hR.lt,hB,hb1.trans (hb2.drew.mono hb1.size),Nat.lt_succ_self _,hg⟩
 unfold errK at gl gl2
 clear hM hb1 hb2 hR hB hr
 go_enter Tryz.func107,Tryz.ntmps107
 go_wp2_with fail
 go_region
 generalize ((w.alloc (.cells #[.int .i64 0,.int .i64 0,.int .i64 0,.int .i64 0,.int .i64 0] 26)).alloc (.cells #[.int .i64 0,.int .i64 0,.int .i64 0,.int .i64 0,.int .i64 0] 26)).drew=W1 at *
 clear gl gl2
 go_wp2_with fail
 refine wp_loop_rounds 3 ?_
 rw [rounds_succ]
 have y0:=N1.out.row 0 _ rfl
 have y1:=N1.out.row 1 _ rfl
 have y2:=N1.out.row 2 _ rfl
 have y3:=N1.out.row 3 _ rfl
 have y4:=N1.out.row 4 _ rfl
 have y5:=N1.out.row 5 _ rfl
 have y6:=N1.out.row 6 _ rfl
 have y7:=N1.out.row 7 _ rfl
 have N2:=qh (N1.out.below (below_new W1 (.cells #[.int .i64 (p:Int),.slice A0 c0 c0,.int .i64 mv,.int .i64 mi,.int .i64 mt,.int .i64 mk,.int .i64 mo,.nilIface] 158)))
 obtain⟨⟨b0,b1,b2,b3,b4⟩,f0,f1,f2,f3,f4⟩:=cells_five N2.out.best
 go_wp2_with fail
 rw [rounds_succ]
 clear y0 y1 y2 y3 y4 y5 y6 y7 b0 b1 b2 b3 b4 f0 f1 f2 f3 f4
 have N3:=qh (N2.out.put (.int .i64 mv) (.int .i64 mi) (.int .i64 mt) (.int .i64 mk) (.int .i64 mo))
 unfold put5 at N3
 clear N2 N1
 generalize (((((W1.alloc (.cells #[.int .i64 (p:Int),.slice A0 c0 c0,.int .i64 mv,.int .i64 mi,.int .i64 mt,.int .i64 mk,.int .i64 mo,.nilIface] 158)).setCell ⟨w.heap.size+1,0,none⟩ (.int .i64 mv)).setCell ⟨w.heap.size+1,1,none⟩ (.int .i64 mi)).setCell ⟨w.heap.size+1,2,none⟩ (.int .i64 mt)).setCell ⟨w.heap.size+1,3,none⟩ (.int .i64 mk)).setCell ⟨w.heap.size+1,4,none⟩ (.int .i64 mo)=W2 at *
 have y0:=N3.out.row 8 _ rfl
 have y1:=N3.out.row 9 _ rfl
 have y2:=N3.out.row 10 _ rfl
 have y3:=N3.out.row 11 _ rfl
 have y4:=N3.out.row 12 _ rfl
 have y5:=N3.out.row 13 _ rfl
 have y6:=N3.out.row 14 _ rfl
 have y7:=N3.out.row 15 _ rfl
 have N4:=qh (N3.out.below (below_new W2 (.cells #[.int .i64 ((p:Int)+1),.slice A1 c1 c1,.int .i64 nv,.int .i64 ni,.int .i64 nt,.int .i64 nk,.int .i64 no,.nilIface] 158)))
 obtain⟨⟨b0,b1,b2,b3,b4⟩,f0,f1,f2,f3,f4⟩:=cells_five N4.out.best
 go_wp2_with fail
 rw [rounds_succ]
 clear y0 y1 y2 y3 y4 y5 y6 y7 b0 b1 b2 b3 b4 f0 f1 f2 f3 f4
 clear N3
 generalize W2.alloc (.cells #[.int .i64 ((p:Int)+1),.slice A1 c1 c1,.int .i64 nv,.int .i64 ni,.int .i64 nt,.int .i64 nk,.int .i64 no,.nilIface] 158)=W3 at *
 obtain⟨⟨b0,b1,b2,b3,b4⟩,_⟩:=cells_five N4.out.best
 obtain⟨⟨y0,y1,y2,y3,y4⟩,f0,f1,f2,f3,f4⟩:=cells_five N4.out.res
 have RZ:=qh (set_five N4.out.res (.int .i64 mv) (.int .i64 mi) (.int .i64 mt) (.int .i64 mk) (.int .i64 mo))
 have BZ:=qh (below_five N4.out.bl (Nat.le_refl _) (.int .i64 mv) (.int .i64 mi) (.int .i64 mt) (.int .i64 mk) (.int .i64 mo))
 unfold put5 at RZ BZ
 go_wp2_with fail
 clear b0 b1 b2 b3 b4 y0 y1 y2 y3 y4 f0 f1 f2 f3 f4
 generalize (((((W3).setCell ⟨w.heap.size,0,none⟩ (.int .i64 mv)).setCell ⟨w.heap.size,1,none⟩ (.int .i64 mi)).setCell ⟨w.heap.size,2,none⟩ (.int .i64 mt)).setCell ⟨w.heap.size,3,none⟩ (.int .i64 mk)).setCell ⟨w.heap.size,4,none⟩ (.int .i64 mo)=wz at *
 obtain⟨⟨z0,z1,z2,z3,z4⟩,_⟩:=cells_five RZ.out
 exact bodyPost_ret (v:= .tuple #[.agg #[.int .i64 mv,.int .i64 mi,.int .i64 mt,.int .i64 mk,.int .i64 mo],.nilIface]) (by simp [results,Tryz.results107,go_sem,z0,z1,z2,z3,z4]) rfl ⟨rfl,BZ.out⟩
end Go.Proofs.YtpaikolnampcfaaGreatDoor
