/- The newer one of what is seen; are both copies alike. -/
import Derived.Test.YtpaikolnampcfaaGreatDoorMarkNew
import Derived.Test.YtpaikolnampcfaaGreatDoorKitBits
import Derived.Deep.QuietTactic
import Derived.BigQuiet
import Derived.Deep.RegionWith
namespace Go.Proofs.YtpaikolnampcfaaGreatDoor
set_option maxRecDepth 100000
set_option maxHeartbeats 8000000
open Go.RowKit
theorem knewer_any (κ:SenK) (base w:World) (hM:GlK κ w) (kk:Int) (p:Nat) (b0 b1:List Int) (v:Value) (hT:Twins κ base w kk p b0 b1 v):
 Calls Tryz.prog 107 #[v] w fun e w'=> ∃lv,e= .returned (.tuple #[(newerK (markB kk b0) (markB kk b1)).1.val,lv])∧KErr κ (newerK (markB kk b0) (markB kk b1)).2 lv∧Below w.heap.size w w':=by
 obtain⟨A0,A1,l0,l1,hB,h0,h1⟩:=hT
 obtain⟨g,cap,rfl,hg⟩:=own_form8 hB.own (by decide)
 have hr:=twins_cells hB
 obtain⟨q0,hq0⟩: ∃q,markB kk b0=q:=⟨_,rfl⟩
 obtain⟨q1,hq1⟩: ∃q,markB kk b1=q:=⟨_,rfl⟩
 rw [hq0,hq1]at hr
 rw [hq0]at h0
 rw [hq1]at h1
 rw [hq0,hq1]
 obtain⟨⟨mv,mi,mt,mk,mo⟩,e0⟩:=q0
 obtain⟨⟨nv,ni,nt,nk,no⟩,e1⟩:=q1
 simp only at h0 h1 hr
 unfold newerK
 by_cases he0:e0=0
 · subst he0
   obtain rfl:=h0.zero
   rw [if_neg (by rintro⟨hn,_⟩;exact hn rfl)]
   by_cases he1:e1=0
   · subst he1
     obtain rfl:=h1.zero
     by_cases hlt:mv < nv
     · rw [if_pos (.inr ⟨rfl,hlt⟩)]
       exact(knewer_d κ w hM g cap p A0 A1 b0.length b1.length mv mi mt mk mo nv ni nt nk no hr hg hlt).mono fun e w' ⟨he,hb⟩=>⟨_,he,.inl ⟨rfl,rfl⟩,hb⟩
     · rw [if_neg (by rintro(hn | hn);exact hn rfl;exact hlt hn.2)]
       exact(knewer_e κ w hM g cap p A0 A1 b0.length b1.length mv mi mt mk mo nv ni nt nk no hr hg hlt).mono fun e w' ⟨he,hb⟩=>⟨_,he,.inl ⟨rfl,rfl⟩,hb⟩
   · obtain⟨t1,x1,rfl⟩:=h1.some he1
     rw [if_neg (by rintro(hn | hn);exact hn rfl;exact he1 hn.1)]
     exact(knewer_c κ w hM g cap p A0 A1 b0.length b1.length mv mi mt mk mo nv ni nt nk no t1 x1 hr hg).mono fun e w' ⟨he,hb⟩=>⟨_,he,.inl ⟨rfl,rfl⟩,hb⟩
 · obtain⟨t0,x0,rfl⟩:=h0.some he0
   by_cases he1:e1=0
   · subst he1
     obtain rfl:=h1.zero
     rw [if_neg (by rintro⟨_,hn⟩;exact hn rfl),if_pos (.inl he0)]
     exact(knewer_b κ w hM g cap p A0 A1 b0.length b1.length mv mi mt mk mo nv ni nt nk no t0 x0 hr hg).mono fun e w' ⟨he,hb⟩=>⟨_,he,.inl ⟨rfl,rfl⟩,hb⟩
   · obtain⟨t1,x1,rfl⟩:=h1.some he1
     rw [if_pos ⟨he0,he1⟩]
     exact(knewer_a κ w hM g cap p A0 A1 b0.length b1.length mv mi mt mk mo nv ni nt nk no t0 x0 t1 x1 hr hg).mono fun e w' ⟨he,hb⟩=>⟨_,he,.inr (.inr (.inr (.inr (.inl ⟨rfl,rfl⟩)))),hb⟩
theorem bytesEqual_is (w:World) (A B:Option Addr) (xs ys:List Int) (c d:Nat) (r:Bool) (hx:BytesAt w A xs) (hy:BytesAt w B ys) (hr:decide (xs=ys)=r):
 Calls Tryz.prog 129 #[.slice A xs.length c,.slice B ys.length d] w fun e w'=>e= .returned (.bool r)∧w'=w:=
 (bytesEqual_any w A B xs ys c d hx hy).mono fun e w' ⟨h1,h2⟩=>⟨by rw [h1,hr],h2.symm⟩
theorem kalike_y (w:World) (g cap:Nat) (p:Nat) (A0 A1:Option Addr) (b0 b1:List Int) (mv mi mt mk mo nv ni nt nk no:Int) (l0 l1:Value) (o0:l0.oneCell'=true) (o1:l1.oneCell'=true)
 (hr: ∀i v,(twinC p A0 b0.length ⟨mv,mi,mt,mk,mo⟩ l0++twinC ((p:Int)+1) A1 b1.length ⟨nv,ni,nt,nk,no⟩ l1)[i]? =some v→w.cell? ⟨g,i,none⟩=some v) (z0:BytesAt w A0 b0) (z1:BytesAt w A1 b1) (hbb:b1=b0):
 Calls Tryz.prog 108 #[.slice (some ⟨g,0,none⟩) 2 cap] w fun e w'=>e= .returned (.bool true)∧Below w.heap.size w w':=by
 have HR:=qh hr
 have HZ:=qh (And.intro z0 z1)
 have Hbb:=qh hbb
 have hst0:=fun(w:World) (a:Addr)=>run_store Tryz.prog w a l0 .plain o0
 have hst1:=fun(w:World) (a:Addr)=>run_store Tryz.prog w a l1 .plain o1
 have Hst0:=qh hst0
 have Hst1:=qh hst1
 clear hr z0 z1 hbb o0 o1 hst0 hst1
 go_enter Tryz.func108,Tryz.ntmps108
 go_wp2_with fail
 refine wp_loop_rounds 3 ?_
 rw [rounds_succ]
 have y0:=HR.out 0 _ rfl
 have y1:=HR.out 1 _ rfl
 have y2:=HR.out 2 _ rfl
 have y3:=HR.out 3 _ rfl
 have y4:=HR.out 4 _ rfl
 have y5:=HR.out 5 _ rfl
 have y6:=HR.out 6 _ rfl
 have y7:=HR.out 7 _ rfl
 have hst:=Hst0.out
 go_wp2_with fail
 clear y0 y1 y2 y3 y4 y5 y6 y7 hst
 have B1:=qh (below_new w (.cells #[.int .i64 (p:Int),.slice A0 b0.length b0.length,.int .i64 mv,.int .i64 mi,.int .i64 mt,.int .i64 mk,.int .i64 mo,l0] 158))
 have d1:(w.alloc (.cells #[.int .i64 (p:Int),.slice A0 b0.length b0.length,.int .i64 mv,.int .i64 mi,.int .i64 mt,.int .i64 mk,.int .i64 mo,l0] 158)).cell? ⟨w.heap.size,1,none⟩=some (.slice A0 b0.length b0.length):=(BlockIs.made w 158 #[.int .i64 (p:Int),.slice A0 b0.length b0.length,.int .i64 mv,.int .i64 mi,.int .i64 mt,.int .i64 mk,.int .i64 mo,l0]).cell 1
 have y1:=cell_below (HR.out 1 _ rfl) B1.out
 have HE:=qh (fun n=>bytesEqual_is (World.drewN _ n) A0 A0 b0 b0 b0.length b0.length true (HZ.out.1.below (drewN_below B1.out n)) (HZ.out.1.below (drewN_below B1.out n)) (decide_eq_true rfl))
 generalize w.alloc (.cells #[.int .i64 (p:Int),.slice A0 b0.length b0.length,.int .i64 mv,.int .i64 mi,.int .i64 mt,.int .i64 mk,.int .i64 mo,l0] 158)=W1 at *
 go_quiet ((go_at_call 129;exact(HE.out _).mono fun e w'' ⟨h1,h2⟩=>⟨h1,_,h2⟩))
 clear d1 y1 HE
 have B2:=qh (drewN_below B1.out nq)
 generalize W1.drewN nq=W2 at *
 go_wp2_with fail
 rw [rounds_succ]
 have y0:=cell_below (HR.out 8 _ rfl) B2.out
 have y1:=cell_below (HR.out 9 _ rfl) B2.out
 have y2:=cell_below (HR.out 10 _ rfl) B2.out
 have y3:=cell_below (HR.out 11 _ rfl) B2.out
 have y4:=cell_below (HR.out 12 _ rfl) B2.out
 have y5:=cell_below (HR.out 13 _ rfl) B2.out
 have y6:=cell_below (HR.out 14 _ rfl) B2.out
 have y7:=cell_below (HR.out 15 _ rfl) B2.out
 have hst:=Hst1.out
 go_wp2_with fail
 clear y0 y1 y2 y3 y4 y5 y6 y7 hst
 have hb3:=below_new W2 (.cells #[.int .i64 ((p:Int)+1),.slice A1 b1.length b1.length,.int .i64 nv,.int .i64 ni,.int .i64 nt,.int .i64 nk,.int .i64 no,l1] 158)
 have B3:=qh (B2.out.trans (hb3.mono B2.out.size))
 have d1:(W2.alloc (.cells #[.int .i64 ((p:Int)+1),.slice A1 b1.length b1.length,.int .i64 nv,.int .i64 ni,.int .i64 nt,.int .i64 nk,.int .i64 no,l1] 158)).cell? ⟨W2.heap.size,1,none⟩=some (.slice A1 b1.length b1.length):=(BlockIs.made W2 158 #[.int .i64 ((p:Int)+1),.slice A1 b1.length b1.length,.int .i64 nv,.int .i64 ni,.int .i64 nt,.int .i64 nk,.int .i64 no,l1]).cell 1
 have y1:=cell_below (HR.out 1 _ rfl) B3.out
 have HE:=qh (fun n=>bytesEqual_is (World.drewN _ n) A1 A0 b1 b0 b1.length b0.length true (HZ.out.2.below (drewN_below B3.out n)) (HZ.out.1.below (drewN_below B3.out n)) (decide_eq_true Hbb.out))
 clear hb3
 generalize W2.alloc (.cells #[.int .i64 ((p:Int)+1),.slice A1 b1.length b1.length,.int .i64 nv,.int .i64 ni,.int .i64 nt,.int .i64 nk,.int .i64 no,l1] 158)=W3 at *
 go_quiet ((go_at_call 129;exact(HE.out _).mono fun e w'' ⟨h1,h2⟩=>⟨h1,_,h2⟩))
 clear d1 y1 HE
 go_wp2_with fail
 rw [rounds_succ]
 go_wp2_with fail
 go_ret
 exact⟨rfl,drewN_below B3.out _⟩
theorem kalike_n (w:World) (g cap:Nat) (p:Nat) (A0 A1:Option Addr) (b0 b1:List Int) (mv mi mt mk mo nv ni nt nk no:Int) (l0 l1:Value) (o0:l0.oneCell'=true) (o1:l1.oneCell'=true)
 (hr: ∀i v,(twinC p A0 b0.length ⟨mv,mi,mt,mk,mo⟩ l0++twinC ((p:Int)+1) A1 b1.length ⟨nv,ni,nt,nk,no⟩ l1)[i]? =some v→w.cell? ⟨g,i,none⟩=some v) (z0:BytesAt w A0 b0) (z1:BytesAt w A1 b1) (hbb: ¬b1=b0):
 Calls Tryz.prog 108 #[.slice (some ⟨g,0,none⟩) 2 cap] w fun e w'=>e= .returned (.bool false)∧Below w.heap.size w w':=by
 have HR:=qh hr
 have HZ:=qh (And.intro z0 z1)
 have Hbb:=qh hbb
 have hst0:=fun(w:World) (a:Addr)=>run_store Tryz.prog w a l0 .plain o0
 have hst1:=fun(w:World) (a:Addr)=>run_store Tryz.prog w a l1 .plain o1
 have Hst0:=qh hst0
 have Hst1:=qh hst1
 clear hr z0 z1 hbb o0 o1 hst0 hst1
 go_enter Tryz.func108,Tryz.ntmps108
 go_wp2_with fail
 refine wp_loop_rounds 3 ?_
 rw [rounds_succ]
 have y0:=HR.out 0 _ rfl
 have y1:=HR.out 1 _ rfl
 have y2:=HR.out 2 _ rfl
 have y3:=HR.out 3 _ rfl
 have y4:=HR.out 4 _ rfl
 have y5:=HR.out 5 _ rfl
 have y6:=HR.out 6 _ rfl
 have y7:=HR.out 7 _ rfl
 have hst:=Hst0.out
 go_wp2_with fail
 clear y0 y1 y2 y3 y4 y5 y6 y7 hst
 have B1:=qh (below_new w (.cells #[.int .i64 (p:Int),.slice A0 b0.length b0.length,.int .i64 mv,.int .i64 mi,.int .i64 mt,.int .i64 mk,.int .i64 mo,l0] 158))
 have d1:(w.alloc (.cells #[.int .i64 (p:Int),.slice A0 b0.length b0.length,.int .i64 mv,.int .i64 mi,.int .i64 mt,.int .i64 mk,.int .i64 mo,l0] 158)).cell? ⟨w.heap.size,1,none⟩=some (.slice A0 b0.length b0.length):=(BlockIs.made w 158 #[.int .i64 (p:Int),.slice A0 b0.length b0.length,.int .i64 mv,.int .i64 mi,.int .i64 mt,.int .i64 mk,.int .i64 mo,l0]).cell 1
 have y1:=cell_below (HR.out 1 _ rfl) B1.out
 have HE:=qh (fun n=>bytesEqual_is (World.drewN _ n) A0 A0 b0 b0 b0.length b0.length true (HZ.out.1.below (drewN_below B1.out n)) (HZ.out.1.below (drewN_below B1.out n)) (decide_eq_true rfl))
 generalize w.alloc (.cells #[.int .i64 (p:Int),.slice A0 b0.length b0.length,.int .i64 mv,.int .i64 mi,.int .i64 mt,.int .i64 mk,.int .i64 mo,l0] 158)=W1 at *
 go_quiet ((go_at_call 129;exact(HE.out _).mono fun e w'' ⟨h1,h2⟩=>⟨h1,_,h2⟩))
 clear d1 y1 HE
 have B2:=qh (drewN_below B1.out nq)
 generalize W1.drewN nq=W2 at *
 go_wp2_with fail
 rw [rounds_succ]
 have y0:=cell_below (HR.out 8 _ rfl) B2.out
 have y1:=cell_below (HR.out 9 _ rfl) B2.out
 have y2:=cell_below (HR.out 10 _ rfl) B2.out
 have y3:=cell_below (HR.out 11 _ rfl) B2.out
 have y4:=cell_below (HR.out 12 _ rfl) B2.out
 have y5:=cell_below (HR.out 13 _ rfl) B2.out
 have y6:=cell_below (HR.out 14 _ rfl) B2.out
 have y7:=cell_below (HR.out 15 _ rfl) B2.out
 have hst:=Hst1.out
 go_wp2_with fail
 clear y0 y1 y2 y3 y4 y5 y6 y7 hst
 have hb3:=below_new W2 (.cells #[.int .i64 ((p:Int)+1),.slice A1 b1.length b1.length,.int .i64 nv,.int .i64 ni,.int .i64 nt,.int .i64 nk,.int .i64 no,l1] 158)
 have B3:=qh (B2.out.trans (hb3.mono B2.out.size))
 have d1:(W2.alloc (.cells #[.int .i64 ((p:Int)+1),.slice A1 b1.length b1.length,.int .i64 nv,.int .i64 ni,.int .i64 nt,.int .i64 nk,.int .i64 no,l1] 158)).cell? ⟨W2.heap.size,1,none⟩=some (.slice A1 b1.length b1.length):=(BlockIs.made W2 158 #[.int .i64 ((p:Int)+1),.slice A1 b1.length b1.length,.int .i64 nv,.int .i64 ni,.int .i64 nt,.int .i64 nk,.int .i64 no,l1]).cell 1
 have y1:=cell_below (HR.out 1 _ rfl) B3.out
 have HE:=qh (fun n=>bytesEqual_is (World.drewN _ n) A1 A0 b1 b0 b1.length b0.length false (HZ.out.2.below (drewN_below B3.out n)) (HZ.out.1.below (drewN_below B3.out n)) (decide_eq_false Hbb.out))
 clear hb3
 generalize W2.alloc (.cells #[.int .i64 ((p:Int)+1),.slice A1 b1.length b1.length,.int .i64 nv,.int .i64 ni,.int .i64 nt,.int .i64 nk,.int .i64 no,l1] 158)=W3 at *
 go_quiet ((go_at_call 129;exact(HE.out _).mono fun e w'' ⟨h1,h2⟩=>⟨h1,_,h2⟩))
 clear d1 y1 HE
 go_wp2_with fail
 go_ret
 exact⟨rfl,drewN_below B3.out _⟩
open Go.RowKit
theorem kalike_any (κ:SenK) (base w:World) (kk:Int) (p:Nat) (b0 b1:List Int) (v:Value) (hT:Twins κ base w kk p b0 b1 v):
 Calls Tryz.prog 108 #[v] w fun e w'=>e= .returned (.bool (decide (b1=b0)))∧Below w.heap.size w w':=by
 obtain⟨A0,A1,l0,l1,hB,h0,h1⟩:=hT
 obtain⟨g,cap,rfl,hg⟩:=own_form8 hB.own (by decide)
 have hr:=twins_cells hB
 have z1:=(hB.held _ List.mem_cons_self).1
 have z0:=(hB.held _ (List.mem_cons_of_mem _ List.mem_cons_self)).1
 have o0:=twin_one_of h0 0 none 0 noMark l0 (by simp [twinC])
 have o1:=twin_one_of h1 0 none 0 noMark l1 (by simp [twinC])
 obtain⟨q0,hq0⟩: ∃q,(markB kk b0).1=q:=⟨_,rfl⟩
 obtain⟨q1,hq1⟩: ∃q,(markB kk b1).1=q:=⟨_,rfl⟩
 rw [hq0,hq1]at hr
 obtain⟨mv,mi,mt,mk,mo⟩:=q0
 obtain⟨nv,ni,nt,nk,no⟩:=q1
 by_cases hbb:b1=b0
 · rw [decide_eq_true hbb]
   exact kalike_y w g cap p A0 A1 b0 b1 mv mi mt mk mo nv ni nt nk no l0 l1 o0 o1 hr z0 z1 hbb
 · rw [decide_eq_false hbb]
   exact kalike_n w g cap p A0 A1 b0 b1 mv mi mt mk mo nv ni nt nk no l0 l1 o0 o1 hr z0 z1 hbb
theorem Twins.below {κ:SenK} {base w w':World} {kk:Int} {p:Nat} {b0 b1:List Int} {v:Value} (h:Twins κ base w kk p b0 b1 v) (hb:Below w.heap.size w w'):Twins κ base w' kk p b0 b1 v:=by
 obtain⟨A0,A1,l0,l1,hB,h0,h1⟩:=h
 exact⟨A0,A1,l0,l1,hB.below hb,h0,h1⟩
def lookE (D:DM) (k:Int):Int:=if sortK k then seenK D k else 2
def LookAt (κ:SenK) (base w':World) (D:DM) (k:Int) (v lv:Value):Prop:=
 (lookE D k≠0∧v= .slice none 0 0∧KErr κ (lookE D k) lv)∨(lookE D k=0∧lv= .nilIface∧sortK k∧Twins κ base w' k (placeK k) (D.read (placeK k)).1 (D.read ((placeK k:Int)+1)).1 v)
theorem getK_look (D:DM) (k:Int):getK D k=if lookE D k≠0 then(noMark,lookE D k)else newerK (markB k (D.read (placeK k)).1) (markB k (D.read ((placeK k:Int)+1)).1):=by
 unfold getK lookE
 by_cases hk:sortK k
 · rw [if_neg (fun hn=>hn hk),if_pos hk]
 · rw [if_pos hk,if_neg hk,if_pos (by decide)]
structure Aft (w0 w wK W W':World) (T:Nat→Prop) (h:Nat) (D':DM):Prop where
 own:OwnT w0 W' (grow T wK W) h D'
 fr:Chg T w W'
section
variable {δ : SenD} {w0 w wK W W' W2 : World} {T : Nat → Prop} {h : Nat} {D D' : DM}
theorem Aft.of (hb:Below w.heap.size w wK) (b:Stp w0 wK T h D' W):Aft w0 w wK W W T h D':=
 ⟨b.own,(Chg.of_below hb).trans (b.fr.mono (fun _ hj=> .inl hj))⟩
theorem Aft.below (a:Aft w0 w wK W W' T h D') (hb:Below W'.heap.size W' W2):Aft w0 w wK W W2 T h D':=⟨a.own.on hb,a.fr.on hb⟩
theorem Aft.put (a:Aft w0 w wK W W' T h D') (hw:w0.heap.size≤w.heap.size) {q:Nat} (hq:w.heap.size≤q) (hn: ¬grow T wK W q) (x0 x1 x2 x3 x4:Value):Aft w0 w wK W (put5 W' q x0 x1 x2 x3 x4) T h D':=
 ⟨⟨a.own.at_.keep (Nat.le_of_eq (size_five _ _ _ _ _ _ _).symm) (fun _ hj=>keep_five _ _ _ _ _ _ _ (fun e=>hn (e ▸ hj))),below_five a.own.below (Nat.le_trans hw hq) _ _ _ _ _,a.own.lo⟩,
   ((((a.fr.set (.inr hq) _).set (.inr hq) _).set (.inr hq) _).set (.inr hq) _).set (.inr hq) _⟩
theorem Aft.stp (k:OwnT w0 w T h D) (hs:w.heap.size≤wK.heap.size) (a:Aft w0 w wK W W' T h D'):Stp w0 w T h D' W':=
 ⟨a.own.mono (fun j hj=>by
  rcases hj with hj | hj
  · exact .inl hj
  · exact .inr ⟨by omega,a.own.foot j (.inr hj)⟩) (grow_lt k.foot a.fr.size) (fun j hj=>by
  rcases hj with hj | hj
  · exact k.lo j hj
  · exact Nat.le_trans k.below.size hj.1),a.fr⟩
theorem klook_any (σ:Sen) (τ:SenU) (κ:SenK) (hC:GlAt σ w0) (hU:GlU τ w0) (hD:GlD δ w0) (hM:GlK κ w0) (k:OwnT w0 w T h D) (kk:Int) (hwf:wfK kk):
 Calls Tryz.prog 105 #[.pointer (some ⟨h,0,none⟩),.int .i64 kk] w fun e w'=> ∃v lv,e= .returned (.tuple #[v,lv])∧LookAt κ w w' D kk v lv∧Below w.heap.size w w':=by
 unfold LookAt lookE
 by_cases hk:sortK kk
 · refine(klook_sort σ τ κ hC hU hD hM k kk hk).mono fun e w' ⟨v,lv,h1,h2,h3⟩=>⟨v,lv,h1,?_,h3⟩
   rw [if_pos hk]
   rcases h2 with⟨a,b,c⟩ | ⟨a,b,c⟩
   · exact .inl ⟨a,b,c⟩
   · exact .inr ⟨a,b,hk,c⟩
 · refine(klook_none κ (hM.below k.below) _ kk hwf hk).mono fun e w' ⟨lv,h1,h2,h3⟩=>⟨_,lv,h1,?_,h3⟩
   rw [if_neg hk]
   exact .inl ⟨by decide,rfl,h2⟩
theorem kget_any (σ:Sen) (τ:SenU) (κ:SenK) (hC:GlAt σ w0) (hU:GlU τ w0) (hD:GlD δ w0) (hM:GlK κ w0) (k:OwnT w0 w T h D) (kk:Int) (hwf:wfK kk):
 Calls Tryz.prog 70 #[.pointer (some ⟨h,0,none⟩),.int .i64 kk] w fun e w'=> ∃lv,e= .returned (.tuple #[(getK D kk).1.val,lv])∧KErr κ (getK D kk).2 lv∧Below w.heap.size w w':=by
 have hb0:=below_new w (.cells #[.int .i64 0,.int .i64 0,.int .i64 0,.int .i64 0,.int .i64 0] 26)
 have HR0:=qh (BlockIs.made w 26 #[.int .i64 0,.int .i64 0,.int .i64 0,.int .i64 0,.int .i64 0])
 have HL:=qh (klook_any σ τ κ hC hU hD hM (k.on hb0) kk hwf)
 have Hb0:=qh hb0
 have HM:=qh (hM.below k.below)
 have Hgk:=qh (getK_look D kk)
 rw [Hgk.out]
 unfold LookAt at HL
 by_cases he:lookE D kk=0
 · rw [if_neg (fun hn=>hn he)]
   have hN:=fun W (h1:Below w.heap.size w W) v (hT:Twins κ _ W kk (placeK kk) (D.read (placeK kk)).1 (D.read ((placeK kk:Int)+1)).1 v)=>knewer_any κ (w.alloc (.cells #[.int .i64 0,.int .i64 0,.int .i64 0,.int .i64 0,.int .i64 0] 26)) W (HM.out.below h1) kk _ _ _ v hT
   obtain⟨r,hr⟩: ∃r,newerK (markB kk (D.read (placeK kk)).1) (markB kk (D.read ((placeK kk:Int)+1)).1)=r:=⟨_,rfl⟩
   rw [hr]at hN ⊢
   obtain⟨⟨v0,i0,t0,k0,o0⟩,en⟩:=r
   unfold MarkV.val at hN ⊢
   simp only at hN ⊢
   have HN:=qh hN
   have He:=qh he
   clear hb0 hC hU hD hM k hwf hr hN he
   go_enter Tryz.func70,Tryz.ntmps70
   go_wp2_with fail
   refine HL.out.mono ?_
   rintro e w2 ⟨v,lv,rfl,hS,hb2⟩
   obtain⟨_,rfl,_,hT⟩:lookE D kk=0∧lv= .nilIface∧sortK kk∧Twins κ _ w2 kk (placeK kk) (D.read (placeK kk)).1 (D.read ((placeK kk:Int)+1)).1 v:=by
    rcases hS with⟨hn,_⟩ | hS
    · exact absurd He.out hn
    · exact hS
   have B2:=qh (Hb0.out.trans (hb2.mono Hb0.out.size))
   have R2:=qh (HR0.out.below hb2 HR0.out.lt)
   have HN2:=qh (HN.out w2 B2.out v hT)
   clear hS hT hb2 HL HN
   go_wp2_with fail
   refine HN2.out.mono ?_
   rintro e w3 ⟨lv,rfl,hv,hb3⟩
   have Hv:=qh hv
   have B3:=qh (B2.out.trans (hb3.mono B2.out.size))
   have R3:=qh (R2.out.below hb3 R2.out.lt)
   clear hv hb3 HN2
   obtain⟨⟨y0,y1,y2,y3,y4⟩,f0,f1,f2,f3,f4⟩:=cells_five R3.out
   have RZ:=qh (set_five R3.out (.int .i64 v0) (.int .i64 i0) (.int .i64 t0) (.int .i64 k0) (.int .i64 o0))
   have BZ:=qh (below_five B3.out (Nat.le_refl _) (.int .i64 v0) (.int .i64 i0) (.int .i64 t0) (.int .i64 k0) (.int .i64 o0))
   unfold put5 at RZ BZ
   go_wp2_with fail
   clear y0 y1 y2 y3 y4 f0 f1 f2 f3 f4
   generalize (((((w3).setCell ⟨w.heap.size,0,none⟩ (.int .i64 v0)).setCell ⟨w.heap.size,1,none⟩ (.int .i64 i0)).setCell ⟨w.heap.size,2,none⟩ (.int .i64 t0)).setCell ⟨w.heap.size,3,none⟩ (.int .i64 k0)).setCell ⟨w.heap.size,4,none⟩ (.int .i64 o0)=wz at *
   obtain⟨⟨z0,z1,z2,z3,z4⟩,_⟩:=cells_five RZ.out
   exact bodyPost_ret (v:= .tuple #[.agg #[.int .i64 v0,.int .i64 i0,.int .i64 t0,.int .i64 k0,.int .i64 o0],lv]) (by simp [results,Tryz.results70,go_sem,z0,z1,z2,z3,z4]) rfl ⟨_,rfl,Hv.out,BZ.out⟩
 · rw [if_pos he]
   have Hval:Hid (noMark.val= .agg #[.int .i64 0,.int .i64 0,.int .i64 0,.int .i64 0,.int .i64 0]):=qh rfl
   simp only
   rw [Hval.out]
   obtain⟨en,hen⟩: ∃en,lookE D kk=en:=⟨_,rfl⟩
   rw [hen]at HL he ⊢
   have He:=qh he
   clear hb0 hC hU hD hM k hwf he hen
   go_enter Tryz.func70,Tryz.ntmps70
   go_wp2_with fail
   refine HL.out.mono ?_
   rintro e w2 ⟨v,lv,rfl,hS,hb2⟩
   obtain⟨_,rfl,hv⟩:en≠0∧v= .slice none 0 0∧KErr κ en lv:=by
    rcases hS with hS | ⟨hn,_⟩
    · exact hS
    · exact absurd hn He.out
   obtain⟨tv,xv,rfl⟩:=hv.some He.out
   have Hv:=qh hv
   have B2:=qh (Hb0.out.trans (hb2.mono Hb0.out.size))
   have R2:=qh (HR0.out.below hb2 HR0.out.lt)
   clear hS hv hb2 HL
   obtain⟨⟨y0,y1,y2,y3,y4⟩,f0,f1,f2,f3,f4⟩:=cells_five R2.out
   have RZ:=qh (set_five R2.out (.int .i64 0) (.int .i64 0) (.int .i64 0) (.int .i64 0) (.int .i64 0))
   have BZ:=qh (below_five B2.out (Nat.le_refl _) (.int .i64 0) (.int .i64 0) (.int .i64 0) (.int .i64 0) (.int .i64 0))
   unfold put5 at RZ BZ
   go_wp2_with fail
   clear y0 y1 y2 y3 y4 f0 f1 f2 f3 f4
   generalize (((((w2).setCell ⟨w.heap.size,0,none⟩ (.int .i64 0)).setCell ⟨w.heap.size,1,none⟩ (.int .i64 0)).setCell ⟨w.heap.size,2,none⟩ (.int .i64 0)).setCell ⟨w.heap.size,3,none⟩ (.int .i64 0)).setCell ⟨w.heap.size,4,none⟩ (.int .i64 0)=wz at *
   obtain⟨⟨z0,z1,z2,z3,z4⟩,_⟩:=cells_five RZ.out
   exact bodyPost_ret (v:= .tuple #[.agg #[.int .i64 0,.int .i64 0,.int .i64 0,.int .i64 0,.int .i64 0],.iface tv xv]) (by simp [results,Tryz.results70,go_sem,z0,z1,z2,z3,z4]) rfl ⟨_,rfl,Hv.out,BZ.out⟩
theorem kGet_any (σ:Sen) (τ:SenU) (κ:SenK) (hC:GlAt σ w0) (hU:GlU τ w0) (hD:GlD δ w0) (hM:GlK κ w0) (k:OwnT w0 w T h D) (kk:Int) (hwf:wfK kk):
 Calls Tryz.prog 29 #[.pointer (some ⟨h,0,none⟩),.int .i64 kk] w fun e w'=>e= .returned (.tuple #[(getK D kk).1.val,.int .i64 (getK D kk).2])∧Below w.heap.size w w':=by
 have hb0:=below_new w (.cells #[.int .i64 0,.int .i64 0,.int .i64 0,.int .i64 0,.int .i64 0] 26)
 have HR0:=qh (BlockIs.made w 26 #[.int .i64 0,.int .i64 0,.int .i64 0,.int .i64 0,.int .i64 0])
 have HL:=qh (kget_any σ τ κ hC hU hD hM (k.on hb0) kk hwf)
 have Hb0:=qh hb0
 have HM:=qh (hM.below k.below)
 obtain⟨r,hr⟩: ∃r,getK D kk=r:=⟨_,rfl⟩
 rw [hr]at HL ⊢
 obtain⟨⟨v0,i0,t0,k0,o0⟩,en⟩:=r
 unfold MarkV.val at HL ⊢
 simp only at HL ⊢
 clear hb0 hC hU hD hM k hwf hr
 go_enter Tryz.func29,Tryz.ntmps29
 go_wp2_with fail
 refine HL.out.mono ?_
 rintro e w4 ⟨v,rfl,hv,hb4⟩
 have Hv:=qh hv
 have hb5:=hb4.trans ((below_new w4 (.cells #[.int .i64 v0,.int .i64 i0,.int .i64 t0,.int .i64 k0,.int .i64 o0] 26)).mono hb4.size)
 have B5:=qh (Hb0.out.trans (hb5.mono Hb0.out.size))
 have R5:=qh (HR0.out.below hb5 HR0.out.lt)
 have M5:=qh (BlockIs.made w4 26 #[.int .i64 v0,.int .i64 i0,.int .i64 t0,.int .i64 k0,.int .i64 o0])
 clear hv hb4 hb5 HL
 go_wp2_with fail
 generalize (w4.alloc (.cells #[.int .i64 v0,.int .i64 i0,.int .i64 t0,.int .i64 k0,.int .i64 o0] 26))=w5 at *
 generalize w4.heap.size=gm at *
 obtain⟨⟨q0,q1,q2,q3,q4⟩,_⟩:=cells_five M5.out
 obtain⟨⟨y0,y1,y2,y3,y4⟩,f0,f1,f2,f3,f4⟩:=cells_five R5.out
 have HEr:=qh (kerrno_any κ w5 (HM.out.below B5.out) _ v Hv.out)
 have HEd:=qh (kerrno_any κ w5.drew ((HM.out.below B5.out).below (Below.refl _ _).drew) _ v Hv.out)
 go_region_with (first
  | (go_at_call 41;(first | (with_reducible refine HEr.out.mono ?_) | (with_reducible refine HEd.out.mono ?_));rintro e wx ⟨rfl,hbx⟩;have hbx':Below w5.heap.size w5 wx:=(by first | exact hbx | exact undrew hbx);have MX:=qh (M5.out.below hbx' M5.out.lt);have RX:=qh (R5.out.below hbx' R5.out.lt);have BX:=qh (B5.out.trans (hbx'.mono B5.out.size));obtain⟨⟨q0',q1',q2',q3',q4'⟩,_⟩:=cells_five MX.out;obtain⟨⟨y0',y1',y2',y3',y4'⟩,g0,g1,g2,g3,g4⟩:=cells_five RX.out;clear hbx hbx')
  | fail)
 all_goals
  have RZ:=qh (set_five RX.out (.int .i64 v0) (.int .i64 i0) (.int .i64 t0) (.int .i64 k0) (.int .i64 o0))
  have BZ:=qh (below_five BX.out (Nat.le_refl _) (.int .i64 v0) (.int .i64 i0) (.int .i64 t0) (.int .i64 k0) (.int .i64 o0))
  unfold put5 at RZ BZ
  clear y0 y1 y2 y3 y4 f0 f1 f2 f3 f4 y0' y1' y2' y3' y4' g0 g1 g2 g3 g4 q0 q1 q2 q3 q4 q0' q1' q2' q3' q4'
  generalize ((((wx.setCell ⟨w.heap.size,0,none⟩ (.int .i64 v0)).setCell ⟨w.heap.size,1,none⟩ (.int .i64 i0)).setCell ⟨w.heap.size,2,none⟩ (.int .i64 t0)).setCell ⟨w.heap.size,3,none⟩ (.int .i64 k0)).setCell ⟨w.heap.size,4,none⟩ (.int .i64 o0)=wz at *
  obtain⟨⟨z0,z1,z2,z3,z4⟩,_⟩:=cells_five RZ.out
  go_wp2_with fail
  exact bodyPost_ret (v:= .tuple #[.agg #[.int .i64 v0,.int .i64 i0,.int .i64 t0,.int .i64 k0,.int .i64 o0],.int .i64 en]) (by simp [results,Tryz.results29,go_sem,z0,z1,z2,z3,z4]) rfl ⟨rfl,by first | exact BZ.out | exact⟨BZ.out.os,BZ.out.tape,BZ.out.output,BZ.out.size,BZ.out.block⟩⟩
end
open Go.RowKit
section
variable {δ : SenD} {w0 w wK W W' W2 : World} {T : Nat → Prop} {h : Nat} {D D' : DM}
theorem kopen_any (σ:Sen) (τ:SenU) (κ:SenK) (hC:GlAt σ w0) (hU:GlU τ w0) (hD:GlD δ w0) (hM:GlK κ w0) (k:OwnT w0 w T h D) {q:Nat} (hF:D.Few q) (hq:q≤990000) (kk:Int) (hwf:wfK kk):
 Calls Tryz.prog 71 #[.pointer (some ⟨h,0,none⟩),.int .i64 kk] w fun e w2=> ∃lv,e= .returned (.tuple #[(openK D kk).1.1.val,lv])∧KErr κ (openK D kk).1.2 lv∧Stp w0 w T h (openK D kk).2 w2:=by
 have hb0:=below_new w (.cells #[.int .i64 0,.int .i64 0,.int .i64 0,.int .i64 0,.int .i64 0] 26)
 have HR0:=qh (BlockIs.made w 26 #[.int .i64 0,.int .i64 0,.int .i64 0,.int .i64 0,.int .i64 0])
 have HL:=qh (klook_any σ τ κ hC hU hD hM (k.on hb0) kk hwf)
 have Hb0:=qh hb0
 have HM:=qh (hM.below k.below)
 have HK:=qh k
 have Hgk:=qh (getK_look D kk)
 unfold LookAt at HL
 by_cases he:lookE D kk=0
 · have hgk:=Hgk.out
   rw [if_neg (fun hn=>hn he)]at hgk
   have hN:=fun W (h1:Below w.heap.size w W) v (hT:Twins κ _ W kk (placeK kk) (D.read (placeK kk)).1 (D.read ((placeK kk:Int)+1)).1 v)=>knewer_any κ (w.alloc (.cells #[.int .i64 0,.int .i64 0,.int .i64 0,.int .i64 0,.int .i64 0] 26)) W (HM.out.below h1) kk _ _ _ v hT
   rw [← hgk]at hN
   have HLy:=qh (fun wK (h1:Below w.heap.size w wK) (hg:(getK D kk).2=0)=>klay_sort κ hD hM (k.on h1) hF (by omega) kk (getK_right hg).1 _ (getK_right hg).2)
   have Hop:Hid (openK D kk=if(getK D kk).2≠0∨(D.read (placeK kk)).1=(D.read ((placeK kk:Int)+1)).1 then(getK D kk,D)else if(layK D kk (getK D kk).1).1≠0 then((noMark,(layK D kk (getK D kk).1).1),(layK D kk (getK D kk).1).2)else(getK D kk,(layK D kk (getK D kk).1).2)):=qh rfl
   obtain⟨r,hr⟩: ∃r,getK D kk=r:=⟨_,rfl⟩
   rw [hr]at hN HLy Hop
   obtain⟨⟨v0,i0,t0,k0,o0⟩,en⟩:=r
   unfold MarkV.val at hN HLy
   simp only at hN HLy Hop
   have HN:=qh hN
   have He:=qh he
   clear hb0 hC hU hD hM k hwf hr hN he hgk hF Hgk
   by_cases hen:en=0
   rotate_left
   · have Hen:=qh hen
     have Hop2:Hid (openK D kk=((⟨v0,i0,t0,k0,o0⟩,en),D)):=qh (by rw [Hop.out,if_pos (.inl hen)])
     rw [Hop2.out]
     unfold MarkV.val
     simp only
     clear hen HLy Hop
     go_enter Tryz.func71,Tryz.ntmps71
     go_wp2_with fail
     refine HL.out.mono ?_
     rintro e w2 ⟨v,lv,rfl,hS,hb2⟩
     obtain⟨_,rfl,_,hT⟩:lookE D kk=0∧lv= .nilIface∧sortK kk∧Twins κ _ w2 kk (placeK kk) (D.read (placeK kk)).1 (D.read ((placeK kk:Int)+1)).1 v:=by
      rcases hS with⟨hn,_⟩ | hS
      · exact absurd He.out hn
      · exact hS
     have B2:=qh (Hb0.out.trans (hb2.mono Hb0.out.size))
     have R2:=qh (HR0.out.below hb2 HR0.out.lt)
     have HN2:=qh (HN.out w2 B2.out v hT)
     have T2:=qh hT
     clear hS hT hb2 HL HN
     go_wp2_with fail
     refine HN2.out.mono ?_
     rintro e w3 ⟨lv,rfl,hv,hb3⟩
     have hb4:=hb3.trans ((below_new w3 (.cells #[.int .i64 v0,.int .i64 i0,.int .i64 t0,.int .i64 k0,.int .i64 o0] 26)).mono hb3.size)
     have T4:=qh (T2.out.below hb4)
     have B4:=qh (B2.out.trans (hb4.mono B2.out.size))
     have R4:=qh (R2.out.below hb4 R2.out.lt)
     have M4:=qh (BlockIs.made w3 26 #[.int .i64 v0,.int .i64 i0,.int .i64 t0,.int .i64 k0,.int .i64 o0])
     have HNQ:=qh (show w3.heap.size≠w.heap.size by have:=R2.out.lt;have:=hb3.size;omega)
     obtain⟨tv,xv,rfl⟩:=hv.some Hen.out
     have Hv:=qh hv
     clear hv hb3 hb4 HN2
     obtain⟨⟨q0,q1,q2,q3,q4⟩,_⟩:=cells_five M4.out
     obtain⟨⟨y0,y1,y2,y3,y4⟩,f0,f1,f2,f3,f4⟩:=cells_five R4.out
     have RZ:=qh (set_five R4.out (.int .i64 v0) (.int .i64 i0) (.int .i64 t0) (.int .i64 k0) (.int .i64 o0))
     have BZ:=qh (below_five B4.out (Nat.le_refl _) (.int .i64 v0) (.int .i64 i0) (.int .i64 t0) (.int .i64 k0) (.int .i64 o0))
     unfold put5 at RZ BZ
     go_wp2_with fail
     clear q0 q1 q2 q3 q4 y0 y1 y2 y3 y4 f0 f1 f2 f3 f4
     generalize ((((((w3.alloc (.cells #[.int .i64 v0,.int .i64 i0,.int .i64 t0,.int .i64 k0,.int .i64 o0] 26))).setCell ⟨w.heap.size,0,none⟩ (.int .i64 v0)).setCell ⟨w.heap.size,1,none⟩ (.int .i64 i0)).setCell ⟨w.heap.size,2,none⟩ (.int .i64 t0)).setCell ⟨w.heap.size,3,none⟩ (.int .i64 k0)).setCell ⟨w.heap.size,4,none⟩ (.int .i64 o0)=wz at *
     obtain⟨⟨z0,z1,z2,z3,z4⟩,_⟩:=cells_five RZ.out
     exact bodyPost_ret (v:= .tuple #[.agg #[.int .i64 v0,.int .i64 i0,.int .i64 t0,.int .i64 k0,.int .i64 o0],.iface tv xv]) (by simp [results,Tryz.results71,go_sem,z0,z1,z2,z3,z4]) rfl ⟨_,rfl,Hv.out,Stp.below HK.out BZ.out⟩
   · subst hen
     have Hly2:=qh (fun wK h1=>HLy.out wK h1 rfl)
     obtain⟨b0,hb0⟩: ∃b,(D.read (placeK kk)).1=b:=⟨_,rfl⟩
     obtain⟨b1,hb1⟩: ∃b,(D.read ((placeK kk:Int)+1)).1=b:=⟨_,rfl⟩
     rw [hb0,hb1]at Hop
     rw [hb0,hb1]at HL
     have HN':=HN.out
     rw [hb0,hb1]at HN'
     clear HN
     have HN:=qh HN'
     clear HN' hb0 hb1 HLy
     by_cases hbb:b1=b0
     · have Hbb:=qh hbb
       have Hop2:Hid (openK D kk=((⟨v0,i0,t0,k0,o0⟩,0),D)):=qh (by rw [Hop.out,if_pos (.inr hbb.symm)])
       rw [Hop2.out]
       unfold MarkV.val
       simp only
       clear hbb Hop Hly2
       go_enter Tryz.func71,Tryz.ntmps71
       go_wp2_with fail
       refine HL.out.mono ?_
       rintro e w2 ⟨v,lv,rfl,hS,hb2⟩
       obtain⟨_,rfl,_,hT⟩:lookE D kk=0∧lv= .nilIface∧sortK kk∧Twins κ _ w2 kk (placeK kk) b0 b1 v:=by
        rcases hS with⟨hn,_⟩ | hS
        · exact absurd He.out hn
        · exact hS
       have B2:=qh (Hb0.out.trans (hb2.mono Hb0.out.size))
       have R2:=qh (HR0.out.below hb2 HR0.out.lt)
       have HN2:=qh (HN.out w2 B2.out v hT)
       have T2:=qh hT
       clear hS hT hb2 HL HN
       go_wp2_with fail
       refine HN2.out.mono ?_
       rintro e w3 ⟨lv,rfl,hv,hb3⟩
       have hb4:=hb3.trans ((below_new w3 (.cells #[.int .i64 v0,.int .i64 i0,.int .i64 t0,.int .i64 k0,.int .i64 o0] 26)).mono hb3.size)
       have T4:=qh (T2.out.below hb4)
       have B4:=qh (B2.out.trans (hb4.mono B2.out.size))
       have R4:=qh (R2.out.below hb4 R2.out.lt)
       have M4:=qh (BlockIs.made w3 26 #[.int .i64 v0,.int .i64 i0,.int .i64 t0,.int .i64 k0,.int .i64 o0])
       have HNQ:=qh (show w3.heap.size≠w.heap.size by have:=R2.out.lt;have:=hb3.size;omega)
       obtain rfl:=hv.zero
       have HA:=qh (kalike_any κ _ _ kk (placeK kk) b0 b1 v T4.out)
       clear hv hb3 hb4 HN2
       rw [decide_eq_true Hbb.out]at HA
       obtain⟨w4,hw4⟩: ∃w4,w3.alloc (.cells #[.int .i64 v0,.int .i64 i0,.int .i64 t0,.int .i64 k0,.int .i64 o0] 26)=w4:=⟨_,rfl⟩
       rw [hw4]at HA B4 R4 M4
       have Hw4:=qh hw4
       clear hw4
       go_wp2_with fail
       rw [Hw4.out]
       refine HA.out.mono ?_
       rintro e w5 ⟨rfl,hb5⟩
       have M5:=qh (M4.out.below hb5 M4.out.lt)
       have B5:=qh (B4.out.trans (hb5.mono B4.out.size))
       have R5:=qh (R4.out.below hb5 R4.out.lt)
       clear hb5 HA
       obtain⟨⟨q0,q1,q2,q3,q4⟩,_⟩:=cells_five M5.out
       obtain⟨⟨y0,y1,y2,y3,y4⟩,f0,f1,f2,f3,f4⟩:=cells_five R5.out
       have RZ:=qh (set_five R5.out (.int .i64 v0) (.int .i64 i0) (.int .i64 t0) (.int .i64 k0) (.int .i64 o0))
       have BZ:=qh (below_five B5.out (Nat.le_refl _) (.int .i64 v0) (.int .i64 i0) (.int .i64 t0) (.int .i64 k0) (.int .i64 o0))
       unfold put5 at RZ BZ
       go_wp2_with fail
       clear q0 q1 q2 q3 q4 y0 y1 y2 y3 y4 f0 f1 f2 f3 f4
       generalize (((((w5).setCell ⟨w.heap.size,0,none⟩ (.int .i64 v0)).setCell ⟨w.heap.size,1,none⟩ (.int .i64 i0)).setCell ⟨w.heap.size,2,none⟩ (.int .i64 t0)).setCell ⟨w.heap.size,3,none⟩ (.int .i64 k0)).setCell ⟨w.heap.size,4,none⟩ (.int .i64 o0)=wz at *
       obtain⟨⟨z0,z1,z2,z3,z4⟩,_⟩:=cells_five RZ.out
       exact bodyPost_ret (v:= .tuple #[.agg #[.int .i64 v0,.int .i64 i0,.int .i64 t0,.int .i64 k0,.int .i64 o0],.nilIface]) (by simp [results,Tryz.results71,go_sem,z0,z1,z2,z3,z4]) rfl ⟨_,rfl,.inl ⟨rfl,rfl⟩,Stp.below HK.out BZ.out⟩
     · have Hbb:=qh hbb
       have Hop3:Hid (openK D kk=if(layK D kk ⟨v0,i0,t0,k0,o0⟩).1≠0 then((noMark,(layK D kk ⟨v0,i0,t0,k0,o0⟩).1),(layK D kk ⟨v0,i0,t0,k0,o0⟩).2)else((⟨v0,i0,t0,k0,o0⟩,0),(layK D kk ⟨v0,i0,t0,k0,o0⟩).2)):=qh (by rw [Hop.out,if_neg (by rintro(hn | hn);exact hn rfl;exact hbb hn.symm)])
       obtain⟨r,hr⟩: ∃r,layK D kk ⟨v0,i0,t0,k0,o0⟩=r:=⟨_,rfl⟩
       rw [hr]at Hop3 Hly2
       obtain⟨ey,Dy⟩:=r
       simp only at Hop3 Hly2
       clear hbb Hop hr
       by_cases hey:ey=0
       · subst hey
         have Hop4:Hid (openK D kk=((⟨v0,i0,t0,k0,o0⟩,0),Dy)):=qh (by rw [Hop3.out,if_neg (fun hn=>hn rfl)])
         rw [Hop4.out]
         unfold MarkV.val
         simp only
         clear Hop3
         go_enter Tryz.func71,Tryz.ntmps71
         go_wp2_with fail
         refine HL.out.mono ?_
         rintro e w2 ⟨v,lv,rfl,hS,hb2⟩
         obtain⟨_,rfl,_,hT⟩:lookE D kk=0∧lv= .nilIface∧sortK kk∧Twins κ _ w2 kk (placeK kk) b0 b1 v:=by
          rcases hS with⟨hn,_⟩ | hS
          · exact absurd He.out hn
          · exact hS
         have B2:=qh (Hb0.out.trans (hb2.mono Hb0.out.size))
         have R2:=qh (HR0.out.below hb2 HR0.out.lt)
         have HN2:=qh (HN.out w2 B2.out v hT)
         have T2:=qh hT
         clear hS hT hb2 HL HN
         go_wp2_with fail
         refine HN2.out.mono ?_
         rintro e w3 ⟨lv,rfl,hv,hb3⟩
         have hb4:=hb3.trans ((below_new w3 (.cells #[.int .i64 v0,.int .i64 i0,.int .i64 t0,.int .i64 k0,.int .i64 o0] 26)).mono hb3.size)
         have T4:=qh (T2.out.below hb4)
         have B4:=qh (B2.out.trans (hb4.mono B2.out.size))
         have R4:=qh (R2.out.below hb4 R2.out.lt)
         have M4:=qh (BlockIs.made w3 26 #[.int .i64 v0,.int .i64 i0,.int .i64 t0,.int .i64 k0,.int .i64 o0])
         have HNQ:=qh (show w3.heap.size≠w.heap.size by have:=R2.out.lt;have:=hb3.size;omega)
         obtain rfl:=hv.zero
         have HA:=qh (kalike_any κ _ _ kk (placeK kk) b0 b1 v T4.out)
         have Hsz:=qh (show w2.heap.size≤w3.heap.size from hb3.size)
         clear hv hb3 hb4 HN2
         rw [decide_eq_false Hbb.out]at HA
         obtain⟨w4,hw4⟩: ∃w4,w3.alloc (.cells #[.int .i64 v0,.int .i64 i0,.int .i64 t0,.int .i64 k0,.int .i64 o0] 26)=w4:=⟨_,rfl⟩
         rw [hw4]at HA B4 R4 M4
         have Hw4:=qh hw4
         clear hw4
         go_wp2_with fail
         rw [Hw4.out]
         refine HA.out.mono ?_
         rintro e w5 ⟨rfl,hb5⟩
         have M5:=qh (M4.out.below hb5 M4.out.lt)
         have B5:=qh (B4.out.trans (hb5.mono B4.out.size))
         have R5:=qh (R4.out.below hb5 R4.out.lt)
         clear hb5 HA
         obtain⟨⟨q0,q1,q2,q3,q4⟩,_⟩:=cells_five M5.out
         have HY:=qh (Hly2.out w5 B5.out)
         go_wp2_with fail
         refine HY.out.mono ?_
         rintro e w6 ⟨lv,rfl,hv,hS⟩
         have hf5:=HK.out.foot
         have hnr: ¬T w.heap.size:=fun ht=>by have:=hf5 _ ht;omega
         have hnm: ¬T w3.heap.size:=fun ht=>by have h1:=hf5 _ ht;have h2:=R2.out.lt;have h3:=Hsz.out;omega
         have R6:=qh (hS.block R5.out hnr).1
         have M6:=qh (hS.block M5.out hnm).1
         have A6:=qh (Aft.of B5.out hS)
         have Hng:=qh (hS.off R5.out.lt hnr)
         obtain rfl:=hv.zero
         clear hv hS hnr hnm hf5 HY q0 q1 q2 q3 q4
         obtain⟨⟨q0,q1,q2,q3,q4⟩,_⟩:=cells_five M6.out
         obtain⟨⟨y0,y1,y2,y3,y4⟩,f0,f1,f2,f3,f4⟩:=cells_five R6.out
         have RZ:=qh (set_five R6.out (.int .i64 v0) (.int .i64 i0) (.int .i64 t0) (.int .i64 k0) (.int .i64 o0))
         have BZ:=qh (A6.out.put HK.out.below.size (Nat.le_refl _) Hng.out (.int .i64 v0) (.int .i64 i0) (.int .i64 t0) (.int .i64 k0) (.int .i64 o0))
         unfold put5 at RZ BZ
         go_wp2_with fail
         clear q0 q1 q2 q3 q4 y0 y1 y2 y3 y4 f0 f1 f2 f3 f4
         generalize (((((w6).setCell ⟨w.heap.size,0,none⟩ (.int .i64 v0)).setCell ⟨w.heap.size,1,none⟩ (.int .i64 i0)).setCell ⟨w.heap.size,2,none⟩ (.int .i64 t0)).setCell ⟨w.heap.size,3,none⟩ (.int .i64 k0)).setCell ⟨w.heap.size,4,none⟩ (.int .i64 o0)=wz at *
         obtain⟨⟨z0,z1,z2,z3,z4⟩,_⟩:=cells_five RZ.out
         exact bodyPost_ret (v:= .tuple #[.agg #[.int .i64 v0,.int .i64 i0,.int .i64 t0,.int .i64 k0,.int .i64 o0],.nilIface]) (by simp [results,Tryz.results71,go_sem,z0,z1,z2,z3,z4]) rfl ⟨_,rfl,.inl ⟨rfl,rfl⟩,BZ.out.stp HK.out B5.out.size⟩
       · have Hey:=qh hey
         have Hop4:Hid (openK D kk=((noMark,ey),Dy)):=qh (by rw [Hop3.out,if_pos hey])
         rw [Hop4.out]
         have Hval:Hid (noMark.val= .agg #[.int .i64 0,.int .i64 0,.int .i64 0,.int .i64 0,.int .i64 0]):=qh rfl
         simp only
         rw [Hval.out]
         clear Hop3 hey
         go_enter Tryz.func71,Tryz.ntmps71
         go_wp2_with fail
         refine HL.out.mono ?_
         rintro e w2 ⟨v,lv,rfl,hS,hb2⟩
         obtain⟨_,rfl,_,hT⟩:lookE D kk=0∧lv= .nilIface∧sortK kk∧Twins κ _ w2 kk (placeK kk) b0 b1 v:=by
          rcases hS with⟨hn,_⟩ | hS
          · exact absurd He.out hn
          · exact hS
         have B2:=qh (Hb0.out.trans (hb2.mono Hb0.out.size))
         have R2:=qh (HR0.out.below hb2 HR0.out.lt)
         have HN2:=qh (HN.out w2 B2.out v hT)
         have T2:=qh hT
         clear hS hT hb2 HL HN
         go_wp2_with fail
         refine HN2.out.mono ?_
         rintro e w3 ⟨lv,rfl,hv,hb3⟩
         have hb4:=hb3.trans ((below_new w3 (.cells #[.int .i64 v0,.int .i64 i0,.int .i64 t0,.int .i64 k0,.int .i64 o0] 26)).mono hb3.size)
         have T4:=qh (T2.out.below hb4)
         have B4:=qh (B2.out.trans (hb4.mono B2.out.size))
         have R4:=qh (R2.out.below hb4 R2.out.lt)
         have M4:=qh (BlockIs.made w3 26 #[.int .i64 v0,.int .i64 i0,.int .i64 t0,.int .i64 k0,.int .i64 o0])
         have HNQ:=qh (show w3.heap.size≠w.heap.size by have:=R2.out.lt;have:=hb3.size;omega)
         obtain rfl:=hv.zero
         have HA:=qh (kalike_any κ _ _ kk (placeK kk) b0 b1 v T4.out)
         have Hsz:=qh (show w2.heap.size≤w3.heap.size from hb3.size)
         clear hv hb3 hb4 HN2
         rw [decide_eq_false Hbb.out]at HA
         obtain⟨w4,hw4⟩: ∃w4,w3.alloc (.cells #[.int .i64 v0,.int .i64 i0,.int .i64 t0,.int .i64 k0,.int .i64 o0] 26)=w4:=⟨_,rfl⟩
         rw [hw4]at HA B4 R4 M4
         have Hw4:=qh hw4
         clear hw4
         go_wp2_with fail
         rw [Hw4.out]
         refine HA.out.mono ?_
         rintro e w5 ⟨rfl,hb5⟩
         have M5:=qh (M4.out.below hb5 M4.out.lt)
         have B5:=qh (B4.out.trans (hb5.mono B4.out.size))
         have R5:=qh (R4.out.below hb5 R4.out.lt)
         clear hb5 HA
         obtain⟨⟨q0,q1,q2,q3,q4⟩,_⟩:=cells_five M5.out
         have HY:=qh (Hly2.out w5 B5.out)
         go_wp2_with fail
         refine HY.out.mono ?_
         rintro e w6 ⟨lv,rfl,hv,hS⟩
         have hf5:=HK.out.foot
         have hnr: ¬T w.heap.size:=fun ht=>by have:=hf5 _ ht;omega
         have hnm: ¬T w3.heap.size:=fun ht=>by have h1:=hf5 _ ht;have h2:=R2.out.lt;have h3:=Hsz.out;omega
         have R6:=qh (hS.block R5.out hnr).1
         have M6:=qh (hS.block M5.out hnm).1
         have A6:=qh (Aft.of B5.out hS)
         have Hng:=qh (hS.off R5.out.lt hnr)
         obtain⟨tv,xv,rfl⟩:=hv.some Hey.out
         have Hv:=qh hv
         clear hv hS hnr hnm hf5 HY q0 q1 q2 q3 q4
         obtain⟨⟨y0,y1,y2,y3,y4⟩,f0,f1,f2,f3,f4⟩:=cells_five R6.out
         have RZ:=qh (set_five R6.out (.int .i64 0) (.int .i64 0) (.int .i64 0) (.int .i64 0) (.int .i64 0))
         have BZ:=qh (A6.out.put HK.out.below.size (Nat.le_refl _) Hng.out (.int .i64 0) (.int .i64 0) (.int .i64 0) (.int .i64 0) (.int .i64 0))
         unfold put5 at RZ BZ
         go_wp2_with fail
         clear y0 y1 y2 y3 y4 f0 f1 f2 f3 f4
         generalize (((((w6).setCell ⟨w.heap.size,0,none⟩ (.int .i64 0)).setCell ⟨w.heap.size,1,none⟩ (.int .i64 0)).setCell ⟨w.heap.size,2,none⟩ (.int .i64 0)).setCell ⟨w.heap.size,3,none⟩ (.int .i64 0)).setCell ⟨w.heap.size,4,none⟩ (.int .i64 0)=wz at *
         obtain⟨⟨z0,z1,z2,z3,z4⟩,_⟩:=cells_five RZ.out
         exact bodyPost_ret (v:= .tuple #[.agg #[.int .i64 0,.int .i64 0,.int .i64 0,.int .i64 0,.int .i64 0],.iface tv xv]) (by simp [results,Tryz.results71,go_sem,z0,z1,z2,z3,z4]) rfl ⟨_,rfl,Hv.out,BZ.out.stp HK.out B5.out.size⟩
 · have Hop2:Hid (openK D kk=((noMark,lookE D kk),D)):=qh (by
    have hgk:getK D kk=(noMark,lookE D kk):=by rw [Hgk.out,if_pos he]
    unfold openK
    rw [hgk,if_pos (.inl he)])
   rw [Hop2.out]
   have Hval:Hid (noMark.val= .agg #[.int .i64 0,.int .i64 0,.int .i64 0,.int .i64 0,.int .i64 0]):=qh rfl
   simp only
   rw [Hval.out]
   obtain⟨en,hen⟩: ∃en,lookE D kk=en:=⟨_,rfl⟩
   rw [hen]at HL he ⊢
   have He:=qh he
   clear hb0 hC hU hD hM k hwf he hen hF
   go_enter Tryz.func71,Tryz.ntmps71
   go_wp2_with fail
   refine HL.out.mono ?_
   rintro e w2 ⟨v,lv,rfl,hS,hb2⟩
   obtain⟨_,rfl,hv⟩:en≠0∧v= .slice none 0 0∧KErr κ en lv:=by
    rcases hS with hS | ⟨hn,_⟩
    · exact hS
    · exact absurd hn He.out
   obtain⟨tv,xv,rfl⟩:=hv.some He.out
   have Hv:=qh hv
   have B2:=qh (Hb0.out.trans (hb2.mono Hb0.out.size))
   have R2:=qh (HR0.out.below hb2 HR0.out.lt)
   clear hS hv hb2 HL
   obtain⟨⟨y0,y1,y2,y3,y4⟩,f0,f1,f2,f3,f4⟩:=cells_five R2.out
   have RZ:=qh (set_five R2.out (.int .i64 0) (.int .i64 0) (.int .i64 0) (.int .i64 0) (.int .i64 0))
   have BZ:=qh (below_five B2.out (Nat.le_refl _) (.int .i64 0) (.int .i64 0) (.int .i64 0) (.int .i64 0) (.int .i64 0))
   unfold put5 at RZ BZ
   go_wp2_with fail
   clear y0 y1 y2 y3 y4 f0 f1 f2 f3 f4
   generalize (((((w2).setCell ⟨w.heap.size,0,none⟩ (.int .i64 0)).setCell ⟨w.heap.size,1,none⟩ (.int .i64 0)).setCell ⟨w.heap.size,2,none⟩ (.int .i64 0)).setCell ⟨w.heap.size,3,none⟩ (.int .i64 0)).setCell ⟨w.heap.size,4,none⟩ (.int .i64 0)=wz at *
   obtain⟨⟨z0,z1,z2,z3,z4⟩,_⟩:=cells_five RZ.out
   exact bodyPost_ret (v:= .tuple #[.agg #[.int .i64 0,.int .i64 0,.int .i64 0,.int .i64 0,.int .i64 0],.iface tv xv]) (by simp [results,Tryz.results71,go_sem,z0,z1,z2,z3,z4]) rfl ⟨_,rfl,Hv.out,Stp.below HK.out BZ.out⟩
theorem aft_drew {w0 w wK W W':World} {T:Nat→Prop} {h:Nat} {D':DM} (a:Aft w0 w wK W W' T h D'):Aft w0 w wK W W'.drew T h D':=a.below (Below.refl _ _).drew
theorem kOpen_any (σ:Sen) (τ:SenU) (κ:SenK) (hC:GlAt σ w0) (hU:GlU τ w0) (hD:GlD δ w0) (hM:GlK κ w0) (k:OwnT w0 w T h D) {q:Nat} (hF:D.Few q) (hq:q≤990000) (kk:Int) (hwf:wfK kk):
 Calls Tryz.prog 30 #[.pointer (some ⟨h,0,none⟩),.int .i64 kk] w fun e w'=>e= .returned (.tuple #[(openK D kk).1.1.val,.int .i64 (openK D kk).1.2])∧Stp w0 w T h (openK D kk).2 w':=by
 have hb0:=below_new w (.cells #[.int .i64 0,.int .i64 0,.int .i64 0,.int .i64 0,.int .i64 0] 26)
 have HR0:=qh (BlockIs.made w 26 #[.int .i64 0,.int .i64 0,.int .i64 0,.int .i64 0,.int .i64 0])
 have HL:=qh (kopen_any σ τ κ hC hU hD hM (k.on hb0) hF hq kk hwf)
 have Hb0:=qh hb0
 have HM:=qh hM
 have HK:=qh k
 obtain⟨r,hr⟩: ∃r,openK D kk=r:=⟨_,rfl⟩
 rw [hr]at HL ⊢
 obtain⟨⟨⟨v0,i0,t0,k0,o0⟩,en⟩,D1⟩:=r
 unfold MarkV.val at HL ⊢
 simp only at HL ⊢
 clear hb0 hC hU hD hM k hwf hr hF
 go_enter Tryz.func30,Tryz.ntmps30
 go_wp2_with fail
 refine HL.out.mono ?_
 rintro e w4 ⟨v,rfl,hv,hS⟩
 have Hv:=qh hv
 have hbn:=below_new w4 (.cells #[.int .i64 v0,.int .i64 i0,.int .i64 t0,.int .i64 k0,.int .i64 o0] 26)
 have hnr: ¬T w.heap.size:=fun ht=>by have:=HK.out.foot _ ht;omega
 have R4:=hS.block HR0.out hnr
 have Hng:=qh R4.2
 have R5:=qh (R4.1.below hbn R4.1.lt)
 have A5:=qh ((Aft.of Hb0.out hS).below hbn)
 have M5:=qh (BlockIs.made w4 26 #[.int .i64 v0,.int .i64 i0,.int .i64 t0,.int .i64 k0,.int .i64 o0])
 have HNQ:=qh (show w4.heap.size≠w.heap.size by have:=R4.1.lt;omega)
 clear hv hS hbn hnr R4 HL
 go_wp2_with fail
 generalize (w4.alloc (.cells #[.int .i64 v0,.int .i64 i0,.int .i64 t0,.int .i64 k0,.int .i64 o0] 26))=w5 at *
 generalize w4.heap.size=gm at *
 obtain⟨⟨q0,q1,q2,q3,q4⟩,_⟩:=cells_five M5.out
 obtain⟨⟨y0,y1,y2,y3,y4⟩,f0,f1,f2,f3,f4⟩:=cells_five R5.out
 have HEr:=qh (kerrno_any κ w5 (HM.out.below A5.out.own.below) _ v Hv.out)
 have HEd:=qh (kerrno_any κ w5.drew ((HM.out.below A5.out.own.below).below (Below.refl _ _).drew) _ v Hv.out)
 go_region_with (first
  | (go_at_call 41;(first | (with_reducible refine HEr.out.mono ?_) | (with_reducible refine HEd.out.mono ?_));rintro e wx ⟨rfl,hbx⟩;have hbx':Below w5.heap.size w5 wx:=(by first | exact hbx | exact undrew hbx);have MX:=qh (M5.out.below hbx' M5.out.lt);have RX:=qh (R5.out.below hbx' R5.out.lt);have BX:=qh (A5.out.below hbx');obtain⟨⟨q0',q1',q2',q3',q4'⟩,_⟩:=cells_five MX.out;obtain⟨⟨y0',y1',y2',y3',y4'⟩,g0,g1,g2,g3,g4⟩:=cells_five RX.out;clear hbx hbx')
  | fail)
 all_goals
  have RZ:=qh (set_five RX.out (.int .i64 v0) (.int .i64 i0) (.int .i64 t0) (.int .i64 k0) (.int .i64 o0))
  have BZ:=qh (BX.out.put HK.out.below.size (Nat.le_refl _) Hng.out (.int .i64 v0) (.int .i64 i0) (.int .i64 t0) (.int .i64 k0) (.int .i64 o0))
  unfold put5 at RZ BZ
  clear y0 y1 y2 y3 y4 f0 f1 f2 f3 f4 y0' y1' y2' y3' y4' g0 g1 g2 g3 g4 q0 q1 q2 q3 q4 q0' q1' q2' q3' q4'
  generalize ((((wx.setCell ⟨w.heap.size,0,none⟩ (.int .i64 v0)).setCell ⟨w.heap.size,1,none⟩ (.int .i64 i0)).setCell ⟨w.heap.size,2,none⟩ (.int .i64 t0)).setCell ⟨w.heap.size,3,none⟩ (.int .i64 k0)).setCell ⟨w.heap.size,4,none⟩ (.int .i64 o0)=wz at *
  obtain⟨⟨z0,z1,z2,z3,z4⟩,_⟩:=cells_five RZ.out
  go_wp2_with fail
  exact bodyPost_ret (v:= .tuple #[.agg #[.int .i64 v0,.int .i64 i0,.int .i64 t0,.int .i64 k0,.int .i64 o0],.int .i64 en]) (by simp [results,Tryz.results30,go_sem,z0,z1,z2,z3,z4]) rfl ⟨rfl,by first | exact BZ.out.stp HK.out Hb0.out.size | exact(aft_drew BZ.out).stp HK.out Hb0.out.size⟩
end
end Go.Proofs.YtpaikolnampcfaaGreatDoor
