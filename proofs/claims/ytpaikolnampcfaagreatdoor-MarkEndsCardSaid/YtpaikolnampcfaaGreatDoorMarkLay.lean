/- A mark's block: the package's. -/
import Derived.Test.YtpaikolnampcfaaGreatDoorMarkAwake
import Derived.Test.YtpaikolnampcfaaGreatDoorMarkPlace
import Derived.Test.YtpaikolnampcfaaGreatDoorMarkRight
import Derived.Test.YtpaikolnampcfaaGreatDoorUnitSealR
import Derived.Test.YtpaikolnampcfaaGreatDoorMarkErr
import Derived.Test.YtpaikolnampcfaaGreatDoorDevStp
import Derived.Test.YtpaikolnampcfaaGreatDoorKitBits
import Derived.Deep.RegionHeld3
namespace Go.Proofs.YtpaikolnampcfaaGreatDoor
set_option maxRecDepth 100000
set_option maxHeartbeats 4000000
open Go.RowKit
theorem field_put1 {w:World} {S:Nat→Prop} {g:Nat} {bs:List Int} (h:WrAt w S g (some bs)) (wd n:Int) (h0:0≤top wd) (h1:0≤n) (h2:n≤top wd):
 Calls Tryz.prog 131 #[.pointer (some ⟨g,0,none⟩),.int .i64 wd,.slice (some ⟨w.heap.size,0,none⟩) 1 1] (w.alloc (.cells #[.int .i64 n] 3)) fun e w'=>e= .returned (.tuple #[])∧Put (w.alloc (.cells #[.int .i64 n] 3)) S g (some (bs++le wd.toNat n)) w':=by
 have hn: ∀z∈ [n], -9223372036854775808≤z∧z≤9223372036854775807:=fun z hz=>by
  obtain rfl:=List.mem_singleton.1 hz
  rcases top_cases wd with⟨_,t⟩ | ⟨_,t⟩ | ⟨_,t⟩ | ⟨_,t⟩ | ⟨_,_,_,_,t⟩<;>omega
 have hk:=field_any _ S g _ (h.below (below_new w (.cells #[.int .i64 n] 3))) wd _ 1 [n] (intsAt_lit w [n] hn) (by simp)
 rw [fieldsB_one wd n h0 h1 h2]at hk
 exact hk
theorem fieldsB_two (x y:Int) (hx:0≤x∧x≤1099511627776) (hy:0≤y∧y≤1099511627776):fieldsB 6 [x,y]=some (le 6 x++le 6 y):=by
 have t6:top 6=1099511627776:=rfl
 unfold fieldsB
 rw [if_neg (by rw [t6];decide),if_pos]
 · simp
 · unfold inTop
   simp [t6]
   omega
theorem field_put2 {w:World} {S:Nat→Prop} {g:Nat} {bs:List Int} (h:WrAt w S g (some bs)) (x y:Int) (hx:0≤x∧x≤1099511627776) (hy:0≤y∧y≤1099511627776):
 Calls Tryz.prog 131 #[.pointer (some ⟨g,0,none⟩),.int .i64 6,.slice (some ⟨w.heap.size,0,none⟩) 2 2] (w.alloc (.cells #[.int .i64 x,.int .i64 y] 3)) fun e w'=>e= .returned (.tuple #[])∧Put (w.alloc (.cells #[.int .i64 x,.int .i64 y] 3)) S g (some (bs++(le 6 x++le 6 y))) w':=by
 have hn: ∀z∈ [x,y], -9223372036854775808≤z∧z≤9223372036854775807:=fun z hz=>by
  simp only [List.mem_cons,List.not_mem_nil,or_false]at hz
  rcases hz with rfl | rfl<;>omega
 have hk:=field_any _ S g _ (h.below (below_new w (.cells #[.int .i64 x,.int .i64 y] 3))) 6 _ 2 [x,y] (intsAt_lit w [x,y] hn) (by simp)
 rw [fieldsB_two x y hx hy]at hk
 exact hk
theorem ksealed_any (w:World) (k:Int) (m:MarkV) (hm:m.right) (hk:sortK k):
 Calls Tryz.prog 110 #[.int .i64 k,m.val] w fun e w'=> ∃v,e= .returned v∧w'.ownsRow w.heap.size 5 1 v 256 (u8s (sealB (m.unit k)))∧Below w.heap.size w w':=by
 obtain⟨b1,b2,b3⟩:=known_bd hm.2.2
 have hr:=mark_right hm hk
 have hbx:=below_new w (.cells #[.int .i64 m.ver,.int .i64 m.idx,.int .i64 m.term,.int .i64 m.kind,.int .i64 m.void] 26)
 have hB:=BlockIs.made w 26 #[.int .i64 m.ver,.int .i64 m.idx,.int .i64 m.term,.int .i64 m.kind,.int .i64 m.void]
 have hb2:=hbx.alloc hbx.size (.cells #[.pointer none,.bool false] 197)
 have hW:=BlockIs.made (w.alloc (.cells #[.int .i64 m.ver,.int .i64 m.idx,.int .i64 m.term,.int .i64 m.kind,.int .i64 m.void] 26)) 197 #[.pointer none,.bool false]
 have hB2:=hB.below (below_new _ (.cells #[.pointer none,.bool false] 197)) hB.lt
 simp only [World.size_alloc]at hW
 have Hs:=qh (show(([]++(le 6 m.idx++le 6 m.term))++le (1:Int).toNat m.kind)++le (6:Int).toNat m.void=(m.unit k).body by show _=le 6 m.idx++(le 6 m.term++(le 1 m.kind++le 6 m.void));simp [List.append_assoc])
 have H1:=qh (fun(W:World) (S:Nat→Prop) (h:WrAt W S (w.heap.size+1) (some []))=>field_put2 h m.idx m.term b1 b2)
 have H2:=qh (fun(W:World) (S:Nat→Prop) (bs:List Int) (h:WrAt W S (w.heap.size+1) (some bs))=>field_put1 h 1 m.kind (by decide) b3.1 (Int.le_trans b3.2 (by decide)))
 have H3:=qh (fun(W:World) (S:Nat→Prop) (bs:List Int) (h:WrAt W S (w.heap.size+1) (some bs))=>field_put1 h 6 m.void (by decide) hm.2.1.1 hm.2.1.2)
 have hSl: ∀(W:World) (A:Option Addr) (c:Nat),BytesAt W A (m.unit k).body→19≤c→c≤9223372036854775807→Calls Tryz.prog 133 #[.agg #[.int .i64 k,.int .i64 m.ver,.slice A 19 c]] W fun e w'=> ∃v,e= .returned (.tuple #[v,.int .i64 0])∧w'.ownsRow W.heap.size 5 1 v 256 (u8s (sealB (m.unit k)))∧Below W.heap.size W w':=fun W A c hb hc hmx=>by
  have h:=useal_any W (m.unit k) A c hb (by rw [mark_len];exact hc) hmx
  rw [show sealR (m.unit k)=(sealB (m.unit k),0) by unfold sealR;rw [if_pos hr]]at h
  simp only at h
  rw [seal_len hr.2.2]at h
  unfold UnitV.val at h
  rw [mark_len]at h
  exact h
 have HSl:=qh hSl
 clear hSl
 have Hbd:=qh (mark_bd m k)
 have Hml:=qh (mark_len m k)
 obtain⟨sb,hsb⟩: ∃sb,sealB (m.unit k)=sb:=⟨_,rfl⟩
 obtain⟨bd,hbd⟩: ∃bd,(m.unit k).body=bd:=⟨_,rfl⟩
 rw [hsb,hbd]at HSl
 rw [hbd]at Hs Hbd Hml
 rw [hsb]
 clear hsb hbd
 obtain⟨w2,hw2⟩: ∃w2,(w.alloc (.cells #[.int .i64 m.ver,.int .i64 m.idx,.int .i64 m.term,.int .i64 m.kind,.int .i64 m.void] 26)).alloc (.cells #[.pointer none,.bool false] 197)=w2:=⟨_,rfl⟩
 have hsz:w2.heap.size=w.heap.size+1+1:=by rw [← hw2];simp
 rw [hw2]at hb2 hW hB2
 have HI:=qh (And.intro hB2 (And.intro hb2 hsz))
 have hw0:WrAt w2 (fun _=>False) (w.heap.size+1) (some []):=⟨fun _ h=>h.elim,⟨none,[],hW,rfl,rfl⟩⟩
 have hF:=H1.out w2 _ hw0
 rw [hsz]at hF
 have HF:=qh hF
 obtain⟨⟨c0,c1,c2,c3,c4⟩,_⟩:=cells_five hB2
 have Hw2:=qh hw2
 unfold MarkV.val
 clear hF hbx hB hb2 hW hB2 hw2 hsz hw0 hm hk hr b1 b2 b3
 go_enter Tryz.func110,Tryz.ntmps110
 rw [← Hw2.out]at c0 c1 c2 c3 c4
 go_wp2_with fail
 rw [Hw2.out]
 refine HF.out.mono ?_
 rintro e w3 ⟨rfl,hP⟩
 have hg3:w2.grownBy w3 (some (w.heap.size+1)):=(grown_below (below_new w2 _) _).trans hP.fr
 have B3:=qh (HI.out.1.kept hg3 (fun e=>by have:=Option.some.inj e;omega))
 have G3:=qh hg3
 have HF2:=qh (H2.out w3 _ _ hP.wr)
 clear hP hg3 HF c0 c1 c2 c3 c4
 obtain⟨⟨c0,c1,c2,c3,c4⟩,_⟩:=cells_five B3.out
 go_wp2_with fail
 refine HF2.out.mono ?_
 rintro e w4 ⟨rfl,hP⟩
 have hg4:=(grown_below (below_new w3 (.cells #[.int .i64 m.kind] 3)) _).trans hP.fr
 have B4:=qh (B3.out.kept hg4 (fun e=>by have:=Option.some.inj e;omega))
 have G4:=qh (G3.out.trans hg4)
 have HF3:=qh (H3.out w4 _ _ hP.wr)
 clear hP hg4 HF2 c0 c1 c2 c3 c4
 obtain⟨⟨c0,c1,c2,c3,c4⟩,_⟩:=cells_five B4.out
 go_wp2_with fail
 refine HF3.out.mono ?_
 rintro e w5 ⟨rfl,hP⟩
 have hg5:=(grown_below (below_new w4 (.cells #[.int .i64 m.void] 3)) _).trans hP.fr
 have B5:=qh (B4.out.kept hg5 (fun e=>by have:=Option.some.inj e;omega))
 have G5:=qh (G4.out.trans hg5)
 have hwr:=hP.wr
 rw [Hs.out]at hwr
 have HBy:=qh (wbytes_some w5 _ _ _ hwr (by rw [Hml.out];decide))
 clear hP hwr hg5 HF3 c0 c1 c2 c3 c4
 go_wp2_with fail
 refine HBy.out.mono ?_
 rintro e w6 ⟨v,rfl,ho,hb6⟩
 rw [Hml.out]at ho
 obtain⟨X,cap,rfl,hcap,hcm⟩:=own_slice ho
 have B6:=qh (B5.out.below hb6 B5.out.lt)
 have Hbz:=qh (below_grown HI.out.2.1 G5.out HI.out.2.1.size (by omega))
 have Hb6:=qh (Hbz.out.trans (hb6.mono Hbz.out.size))
 have HS:=qh (HSl.out w6 X cap (own_reads ho Hbd.out) hcap (by unfold maxLen at hcm;omega))
 obtain⟨⟨c0,c1,c2,c3,c4⟩,_⟩:=cells_five B6.out
 clear ho hb6 hcap hcm HBy c1 c2 c3 c4
 go_wp2_with fail
 refine HS.out.mono ?_
 rintro e w7 ⟨v,rfl,ho,hb7⟩
 have Ho:=qh (And.intro ho hb7)
 clear ho hb7 HS c0
 go_wp2_with fail
 go_ret
 exact⟨_,rfl,own_mono Ho.out.1 Hb6.out.size,Hb6.out.trans (Ho.out.2.mono Hb6.out.size)⟩
open Go.RowKit
section
variable {δ : SenD} {w0 w : World} {T : Nat → Prop} {h : Nat} {D : DM}
theorem kstore_any (κ:SenK) (hD:GlD δ w0) (k:OwnT w0 w T h D) {q:Nat} (hF:D.Few q) (hq:q≤998000) (p:Nat) (A:Option Addr) (bs:List Int) (c:Nat) (hz:BytesAt w A bs) (ho: ∀a,A=some a→ ¬T a.block∧a.block < w.heap.size) (hl:bs.length≤140737488351232)
 (g:Nat) (hB:BlockIs w g 3 #[.int .i64 (p:Int),.int .i64 ((p:Int)+1)]) (hg: ¬T g):
 Calls Tryz.prog 109 #[.pointer (some ⟨h,0,none⟩),.slice A bs.length c,.slice (some ⟨g,0,none⟩) 2 2] w fun e w2=> ∃v,e= .returned v∧KErr κ (layP D p bs).1 v∧Stp w0 w T h (layP D p bs).2 w2:=by
 have HD:=qh hD
 have Hl:=qh hl
 have HK:=qh k
 have HB0:=qh (And.intro hz ho)
 have HG0:=qh (And.intro hB hg)
 have Hst:Hid (layP D p bs=if(stowD D p bs).1≠0 then stowD D p bs else stowD (stowD D p bs).2 ((p:Int)+1) bs):=qh rfl
 have Hs1:Hid (stowD D p bs=if(D.write p bs).1≠0 then D.write p bs else(D.write p bs).2.sync):=qh rfl
 have HW1:=qh (write_stp hD k hF (by omega) p A bs c hz (fun a e=>(ho a e).1) hl)
 have HF1:=qh (hF.write p bs)
 have S0:=qh (Stp.refl k)
 obtain⟨r1,hr1⟩: ∃r,D.write p bs=r:=⟨_,rfl⟩
 rw [hr1]at HW1 HF1 Hs1
 obtain⟨e1,D1⟩:=r1
 simp only at HW1 HF1 Hs1
 have c0:w.cell? ⟨g,0,none⟩=some (.int .i64 (p:Int)):=hB.cell 0
 clear hz ho k hD hl hr1 hB hg hF
 by_cases he1:e1=0
 rotate_left
 · have He:=qh he1
   have Hs2:Hid (stowD D p bs=(e1,D1)):=qh (by rw [Hs1.out,if_pos he1])
   have Hst2:Hid (layP D p bs=(e1,D1)):=qh (by rw [Hst.out,Hs2.out,if_pos he1])
   rw [Hst2.out]
   clear he1
   go_enter Tryz.func109,Tryz.ntmps109
   go_wp2_with fail
   refine wp_loop_rounds 3 ?_
   rw [rounds_succ]
   go_wp2_with fail
   refine HW1.out.mono ?_
   rintro e w2 ⟨rfl,hS⟩
   have S1:=qh hS
   clear hS HW1 c0
   go_wp2_with fail
   refine(kfailed_any κ _ _ _).mono ?_
   rintro e wf ⟨v,rfl,hv,hbf⟩
   obtain⟨tf,xf,rfl⟩:=hv.some He.out
   have SF:=qh (And.intro hv (S1.out.on hbf))
   clear hv hbf
   go_wp2_with fail
   go_ret
   exact⟨_,rfl,SF.out.1,SF.out.2⟩
 · subst he1
   have Hs2:Hid (stowD D p bs=D1.sync):=qh (by rw [Hs1.out,if_neg (fun hn=>hn rfl)])
   have HFs:=qh (fewSync HF1.out)
   obtain⟨r2,hr2⟩: ∃r,D1.sync=r:=⟨_,rfl⟩
   have Hq2:=qh hr2
   rw [hr2]at Hs2 HFs
   obtain⟨e2,D2⟩:=r2
   simp only at HFs
   clear hr2
   by_cases he2:e2=0
   rotate_left
   · have He:=qh he2
     have Hst2:Hid (layP D p bs=(e2,D2)):=qh (by rw [Hst.out,Hs2.out,if_pos he2])
     rw [Hst2.out]
     clear he2
     go_enter Tryz.func109,Tryz.ntmps109
     go_wp2_with fail
     refine wp_loop_rounds 3 ?_
     rw [rounds_succ]
     go_wp2_with fail
     refine HW1.out.mono ?_
     rintro e w2 ⟨rfl,hS⟩
     have S1:=qh hS
     clear hS HW1 c0
     go_wp2_with fail
     refine(kfailed_any κ _ _ _).mono ?_
     rintro e w3 ⟨v,rfl,hv,hbf⟩
     obtain rfl:=hv.zero
     have S2:=qh (S1.out.on hbf)
     clear hv hbf S1
     have HY:=sync_stp HD.out S2.out.own HF1.out (by omega)
     rw [Hq2.out]at HY
     simp only at HY
     have HSy:=qh HY
     clear HY
     go_wp2_with fail
     refine HSy.out.mono ?_
     rintro e w4 ⟨rfl,hS⟩
     have S3:=qh (S2.out.trans hS)
     clear hS HSy S2
     go_wp2_with fail
     refine(kfailed_any κ _ _ _).mono ?_
     rintro e wf ⟨v,rfl,hv,hbf⟩
     obtain⟨tf,xf,rfl⟩:=hv.some He.out
     have SF:=qh (And.intro hv (S3.out.on hbf))
     clear hv hbf
     go_wp2_with fail
     go_ret
     exact⟨_,rfl,SF.out.1,SF.out.2⟩
   · subst he2
     have Hst2:Hid (layP D p bs=stowD D2 ((p:Int)+1) bs):=qh (by rw [Hst.out,Hs2.out,if_neg (fun hn=>hn rfl)])
     rw [Hst2.out]
     have Hs3:Hid (stowD D2 ((p:Int)+1) bs=if(D2.write ((p:Int)+1) bs).1≠0 then D2.write ((p:Int)+1) bs else(D2.write ((p:Int)+1) bs).2.sync):=qh rfl
     have HF3:=qh (HFs.out.write ((p:Int)+1) bs)
     obtain⟨r3,hr3⟩: ∃r,D2.write ((p:Int)+1) bs=r:=⟨_,rfl⟩
     have Hq3:=qh hr3
     rw [hr3]at Hs3 HF3
     obtain⟨e3,D3⟩:=r3
     simp only at HF3 Hs3
     clear hr3
     by_cases he3:e3=0
     rotate_left
     · have He:=qh he3
       have Hs4:Hid (stowD D2 ((p:Int)+1) bs=(e3,D3)):=qh (by rw [Hs3.out,if_pos he3])
       rw [Hs4.out]
       clear he3
       go_enter Tryz.func109,Tryz.ntmps109
       go_wp2_with fail
       refine wp_loop_rounds 3 ?_
       rw [rounds_succ]
       go_wp2_with fail
       refine HW1.out.mono ?_
       rintro e w2 ⟨rfl,hS⟩
       have S1:=qh hS
       clear hS HW1 c0
       go_wp2_with fail
       refine(kfailed_any κ _ _ _).mono ?_
       rintro e w3 ⟨v,rfl,hv,hbf⟩
       obtain rfl:=hv.zero
       have S2:=qh (S1.out.on hbf)
       clear hv hbf S1
       have HY:=sync_stp HD.out S2.out.own HF1.out (by omega)
       rw [Hq2.out]at HY
       simp only at HY
       have HSy:=qh HY
       clear HY
       go_wp2_with fail
       refine HSy.out.mono ?_
       rintro e w4 ⟨rfl,hS⟩
       have S3:=qh (S2.out.trans hS)
       clear hS HSy S2
       go_wp2_with fail
       refine(kfailed_any κ _ _ _).mono ?_
       rintro e w5 ⟨v,rfl,hv,hbf⟩
       obtain rfl:=hv.zero
       have S4:=qh (S3.out.on hbf)
       clear hv hbf S3
       go_wp2_with fail
       rw [rounds_succ]
       have c1:w5.cell? ⟨g,1,none⟩=some (.int .i64 ((p:Int)+1)):=(S4.out.block HG0.out.1 HG0.out.2).1.cell 1
       have HY:=write_stp HD.out S4.out.own HFs.out (by omega) ((p:Int)+1) A bs c (S4.out.bytes HB0.out.1 HB0.out.2).1 (fun a e=>((S4.out.bytes HB0.out.1 HB0.out.2).2 a e).1) Hl.out
       rw [Hq3.out]at HY
       simp only at HY
       have HW3:=qh HY
       clear HY
       go_wp2_with fail
       refine HW3.out.mono ?_
       rintro e w6 ⟨rfl,hS⟩
       have S5:=qh (S4.out.trans hS)
       clear hS HW3 S4 c1
       go_wp2_with fail
       refine(kfailed_any κ _ _ _).mono ?_
       rintro e wf ⟨v,rfl,hv,hbf⟩
       obtain⟨tf,xf,rfl⟩:=hv.some He.out
       have SF:=qh (And.intro hv (S5.out.on hbf))
       clear hv hbf
       go_wp2_with fail
       go_ret
       exact⟨_,rfl,SF.out.1,SF.out.2⟩
     · subst he3
       have Hs4:Hid (stowD D2 ((p:Int)+1) bs=D3.sync):=qh (by rw [Hs3.out,if_neg (fun hn=>hn rfl)])
       rw [Hs4.out]
       obtain⟨r4,hr4⟩: ∃r,D3.sync=r:=⟨_,rfl⟩
       have Hq4:=qh hr4
       rw [hr4]
       obtain⟨e4,D4⟩:=r4
       simp only
       clear hr4
       go_enter Tryz.func109,Tryz.ntmps109
       go_wp2_with fail
       refine wp_loop_rounds 3 ?_
       rw [rounds_succ]
       go_wp2_with fail
       refine HW1.out.mono ?_
       rintro e w2 ⟨rfl,hS⟩
       have S1:=qh hS
       clear hS HW1 c0
       go_wp2_with fail
       refine(kfailed_any κ _ _ _).mono ?_
       rintro e w3 ⟨v,rfl,hv,hbf⟩
       obtain rfl:=hv.zero
       have S2:=qh (S1.out.on hbf)
       clear hv hbf S1
       have HY:=sync_stp HD.out S2.out.own HF1.out (by omega)
       rw [Hq2.out]at HY
       simp only at HY
       have HSy:=qh HY
       clear HY
       go_wp2_with fail
       refine HSy.out.mono ?_
       rintro e w4 ⟨rfl,hS⟩
       have S3:=qh (S2.out.trans hS)
       clear hS HSy S2
       go_wp2_with fail
       refine(kfailed_any κ _ _ _).mono ?_
       rintro e w5 ⟨v,rfl,hv,hbf⟩
       obtain rfl:=hv.zero
       have S4:=qh (S3.out.on hbf)
       clear hv hbf S3
       go_wp2_with fail
       rw [rounds_succ]
       have c1:w5.cell? ⟨g,1,none⟩=some (.int .i64 ((p:Int)+1)):=(S4.out.block HG0.out.1 HG0.out.2).1.cell 1
       have HY:=write_stp HD.out S4.out.own HFs.out (by omega) ((p:Int)+1) A bs c (S4.out.bytes HB0.out.1 HB0.out.2).1 (fun a e=>((S4.out.bytes HB0.out.1 HB0.out.2).2 a e).1) Hl.out
       rw [Hq3.out]at HY
       simp only at HY
       have HW3:=qh HY
       clear HY
       go_wp2_with fail
       refine HW3.out.mono ?_
       rintro e w6 ⟨rfl,hS⟩
       have S5:=qh (S4.out.trans hS)
       clear hS HW3 S4 c1
       go_wp2_with fail
       refine(kfailed_any κ _ _ _).mono ?_
       rintro e w7 ⟨v,rfl,hv,hbf⟩
       obtain rfl:=hv.zero
       have S6:=qh (S5.out.on hbf)
       clear hv hbf S5
       have HY:=sync_stp HD.out S6.out.own HF3.out (by omega)
       rw [Hq4.out]at HY
       simp only at HY
       have HSy:=qh HY
       clear HY
       go_wp2_with fail
       refine HSy.out.mono ?_
       rintro e w8 ⟨rfl,hS⟩
       have S7:=qh (S6.out.trans hS)
       clear hS HSy S6
       go_wp2_with fail
       by_cases he4:e4=0
       · subst he4
         refine(kfailed_any κ _ _ _).mono ?_
         rintro e w9 ⟨v,rfl,hv,hbf⟩
         obtain rfl:=hv.zero
         have S8:=qh (S7.out.on hbf)
         clear hv hbf S7
         go_wp2_with fail
         rw [rounds_succ]
         go_wp2_with fail
         go_ret
         exact⟨_,rfl,.inl ⟨rfl,rfl⟩,S8.out⟩
       · have He:=qh he4
         clear he4
         refine(kfailed_any κ _ _ _).mono ?_
         rintro e wf ⟨v,rfl,hv,hbf⟩
         obtain⟨tf,xf,rfl⟩:=hv.some He.out
         have SF:=qh (And.intro hv (S7.out.on hbf))
         clear hv hbf
         go_wp2_with fail
         go_ret
         exact⟨_,rfl,SF.out.1,SF.out.2⟩
end
open Go.RowKit
section
variable {δ : SenD} {w0 w W : World} {T : Nat → Prop} {h : Nat} {D : DM}
theorem lay_store (κ:SenK) (hD:GlD δ w0) (k:OwnT w0 w T h D) {q:Nat} (hF:D.Few q) (hq:q≤998000) (hb:Below w.heap.size w W) (p:Nat) (bs:List Int) (hl:bs.length=256) (g cap:Nat) (hz:BytesAt W (some ⟨g,0,none⟩) bs) (hg:w.heap.size≤g) (hgl:g < W.heap.size)
 (gs:Nat) (hB:BlockIs W gs 3 #[.int .i64 (p:Int),.int .i64 ((p:Int)+1)]) (hgs:w.heap.size≤gs):
 Calls Tryz.prog 109 #[.pointer (some ⟨h,0,none⟩),.slice (some ⟨g,0,none⟩) 256 cap,.slice (some ⟨gs,0,none⟩) 2 2] W fun e w2=> ∃v,e= .returned v∧KErr κ (layP D p bs).1 v∧Stp w0 w T h (layP D p bs).2 w2∧Chg T W w2:=by
 have hK:=kstore_any κ hD (k.on hb) hF hq p (some ⟨g,0,none⟩) bs cap hz (fun a e=>by
  obtain rfl:=Option.some.inj e
  exact⟨fun ht=>by have:=k.foot _ ht;simp only at this;omega,hgl⟩) (by omega) gs hB (fun ht=>by have:=k.foot _ ht;omega)
 rw [hl]at hK
 exact hK.mono fun e w2 ⟨v,h1,h2,h3⟩=>⟨v,h1,h2,Stp.after (hb:=hb) k h3,h3.fr⟩
theorem sealed_at (W:World) (k:Int) (m:MarkV) (hm:m.right) (hk:sortK k):
 Calls Tryz.prog 110 #[.int .i64 k,m.val] W fun e w'=> ∃g cap,e= .returned (.slice (some ⟨g,0,none⟩) 256 cap)∧BytesAt w' (some ⟨g,0,none⟩) (sealB (m.unit k))∧W.heap.size≤g∧g < w'.heap.size∧Below W.heap.size W w':=
 (ksealed_any W k m hm hk).mono fun e w' ⟨v,h1,h2,h3⟩=>by
  obtain⟨g,cap,rfl,_,_,hg,hgl,hz⟩:=own_at h2 (by decide) (seal_bd (mark_right hm hk) (mark_bd m k))
  exact⟨g,cap,h1,hz,hg,hgl,h3⟩
structure LayW (w W:World) (g gs p:Nat) (sb:List Int):Prop where
 bl:Below w.heap.size w W
 by_:BytesAt W (some ⟨g,0,none⟩) sb
 lo:w.heap.size≤g
 lt:g < W.heap.size
 row:BlockIs W gs 3 #[.int .i64 (p:Int),.int .i64 ((p:Int)+1)]
 los:w.heap.size≤gs
theorem lay_a {w3 w4:World} {g p:Nat} {sb:List Int} (hb:Below w.heap.size w w3) (hz:BytesAt w4 (some ⟨g,0,none⟩) sb) (hg:w3.heap.size≤g) (hgl:g < w4.heap.size) (hb4:Below w3.heap.size w3 w4):LayW w (w4.alloc (.cells #[.int .i64 (p:Int),.int .i64 ((p:Int)+1)] 3)) g w4.heap.size p sb:=
 have hbn:=below_new w4 (.cells #[.int .i64 (p:Int),.int .i64 ((p:Int)+1)] 3)
 have hb34:=hb.trans (hb4.mono hb.size)
 ⟨hb34.trans (hbn.mono hb34.size),hz.below hbn,Nat.le_trans hb.size hg,Nat.lt_of_lt_of_le hgl hbn.size,BlockIs.made _ _ _,hb34.size⟩
theorem lay_b {w3 w4:World} {g p:Nat} {sb:List Int} (hb:Below w.heap.size w w3) (hz:BytesAt w4 (some ⟨g,0,none⟩) sb) (hg:(w3.alloc (.cells #[.int .i64 (p:Int),.int .i64 ((p:Int)+1)] 3)).heap.size≤g) (hgl:g < w4.heap.size) (hb4:Below (w3.alloc (.cells #[.int .i64 (p:Int),.int .i64 ((p:Int)+1)] 3)).heap.size (w3.alloc (.cells #[.int .i64 (p:Int),.int .i64 ((p:Int)+1)] 3)) w4):LayW w w4 g w3.heap.size p sb:=
 have hbn:=below_new w3 (.cells #[.int .i64 (p:Int),.int .i64 ((p:Int)+1)] 3)
 have hb3:=hb.trans (hbn.mono hb.size)
 ⟨hb3.trans (hb4.mono hb3.size),hz,Nat.le_trans hb3.size hg,hgl,(BlockIs.made w3 _ _).below hb4 (BlockIs.made w3 3 #[.int .i64 (p:Int),.int .i64 ((p:Int)+1)]).lt,hb.size⟩
theorem lay_cells {w':World} {g2 p:Nat} {a0 a1 a2 a3 a4:Value} (x0:W.cell? ⟨w.heap.size,0,none⟩=some a0) (x1:W.cell? ⟨w.heap.size,1,none⟩=some a1) (x2:W.cell? ⟨w.heap.size,2,none⟩=some a2) (x3:W.cell? ⟨w.heap.size,3,none⟩=some a3) (x4:W.cell? ⟨w.heap.size,4,none⟩=some a4) (p0:W.cell? ⟨g2,0,none⟩=some (.int .i64 (p:Int))) (p1:W.cell? ⟨g2,1,none⟩=some (.int .i64 ((p:Int)+1))) (hb:Below W.heap.size W w'):
 w'.cell? ⟨w.heap.size,0,none⟩=some a0∧w'.cell? ⟨w.heap.size,1,none⟩=some a1∧w'.cell? ⟨w.heap.size,2,none⟩=some a2∧w'.cell? ⟨w.heap.size,3,none⟩=some a3∧w'.cell? ⟨w.heap.size,4,none⟩=some a4∧w'.cell? ⟨g2,0,none⟩=some (.int .i64 (p:Int))∧w'.cell? ⟨g2,1,none⟩=some (.int .i64 ((p:Int)+1)):=
 ⟨cell_below x0 hb,cell_below x1 hb,cell_below x2 hb,cell_below x3 hb,cell_below x4 hb,cell_below p0 hb,cell_below p1 hb⟩
theorem cell_chg {w':World} {a:Addr} {v:Value} (hc:Chg T W w') (ha: ¬T a.block) (h:W.cell? a=some v):w'.cell? a=some v:=(World.cell?_of_block (hc.block _ (World.block_lt_of_cell? _ _ h) ha)).trans h
theorem lay_keep {w':World} {g2 p:Nat} {a0 a1 a2 a3 a4:Value} (hT: ∀j,T j→j < w.heap.size) (hg:w.heap.size≤g2) (hc:Chg T W w') (s:W.cell? ⟨w.heap.size,0,none⟩=some a0∧W.cell? ⟨w.heap.size,1,none⟩=some a1∧W.cell? ⟨w.heap.size,2,none⟩=some a2∧W.cell? ⟨w.heap.size,3,none⟩=some a3∧W.cell? ⟨w.heap.size,4,none⟩=some a4∧W.cell? ⟨g2,0,none⟩=some (.int .i64 (p:Int))∧W.cell? ⟨g2,1,none⟩=some (.int .i64 ((p:Int)+1))):w'.cell? ⟨w.heap.size,0,none⟩=some a0∧w'.cell? ⟨w.heap.size,1,none⟩=some a1∧w'.cell? ⟨w.heap.size,2,none⟩=some a2∧w'.cell? ⟨w.heap.size,3,none⟩=some a3∧w'.cell? ⟨w.heap.size,4,none⟩=some a4∧w'.cell? ⟨g2,0,none⟩=some (.int .i64 (p:Int))∧w'.cell? ⟨g2,1,none⟩=some (.int .i64 ((p:Int)+1)):=
 have h1: ¬T w.heap.size:=fun ht=>by have:=hT _ ht;omega
 have h2: ¬T g2:=fun ht=>by have:=hT _ ht;omega
 ⟨cell_chg hc h1 s.1,cell_chg hc h1 s.2.1,cell_chg hc h1 s.2.2.1,cell_chg hc h1 s.2.2.2.1,cell_chg hc h1 s.2.2.2.2.1,cell_chg hc h2 s.2.2.2.2.2.1,cell_chg hc h2 s.2.2.2.2.2.2⟩
theorem klay_sort (κ:SenK) (hD:GlD δ w0) (hG:GlK κ w0) (k:OwnT w0 w T h D) {q:Nat} (hF:D.Few q) (hq:q≤998000) (kk:Int) (hk:sortK kk) (m:MarkV) (hm:m.right):
 Calls Tryz.prog 73 #[.pointer (some ⟨h,0,none⟩),.int .i64 kk,m.val] w fun e w2=> ∃v,e= .returned v∧KErr κ (layK D kk m).1 v∧Stp w0 w T h (layK D kk m).2 w2:=by
 have hbx:=below_new w (.cells #[.int .i64 m.ver,.int .i64 m.idx,.int .i64 m.term,.int .i64 m.kind,.int .i64 m.void] 26)
 have hB:=BlockIs.made w 26 #[.int .i64 m.ver,.int .i64 m.idx,.int .i64 m.term,.int .i64 m.kind,.int .i64 m.void]
 have HBX:=qh (And.intro hB hbx)
 have hwf:wfK kk:=by rcases hk with rfl | rfl<;>(unfold wfK;decide)
 have hP:=placed_any κ _ ((hG.below k.below).below hbx) kk hwf
 rw [if_pos hk,show placeV kk= .agg #[.int .i64 (placeK kk:Int),.int .i64 ((placeK kk:Int)+1)] by unfold placeV;rw [if_pos hk]]at hP
 have HP:=qh hP
 have HS:=qh (fun W=>sealed_at W kk m hm hk)
 have HT:=qh k.foot
 have hSl:=seal_len (mark_right hm hk).2.2
 have HSt:=qh (fun W g cap gs (l:LayW w W g gs (placeK kk) (sealB (m.unit kk)))=>lay_store (W:=W) κ hD k hF hq l.bl (placeK kk) (sealB (m.unit kk)) hSl g cap l.by_ l.lo l.lt gs l.row l.los)
 have Hly:Hid (layK D kk m=layP D (placeK kk) (sealB (m.unit kk))):=qh rfl
 rw [Hly.out]
 obtain⟨r,hr⟩: ∃r,layP D (placeK kk) (sealB (m.unit kk))=r:=⟨_,rfl⟩
 obtain⟨sb,hsb⟩: ∃sb,sealB (m.unit kk)=sb:=⟨_,rfl⟩
 rw [hsb]at HSt HS hr
 rw [hsb]
 rw [hr]at HSt ⊢
 obtain⟨p,hp⟩: ∃p,placeK kk=p:=⟨_,rfl⟩
 rw [hp]at HP HSt
 unfold MarkV.val at *
 clear hbx hB hwf hP hSl Hly hr hsb hp hD hG k hF hk hm
 go_enter Tryz.func73,Tryz.ntmps73
 go_wp2_with fail
 refine HP.out.mono ?_
 rintro e w2 ⟨v,rfl,hv,hb2⟩
 obtain rfl:=hv.zero
 have hb3:=hb2.trans ((below_new w2 (.cells #[.int .i64 (p:Int),.int .i64 ((p:Int)+1)] 82)).mono hb2.size)
 have B3:=qh (HBX.out.2.trans (hb3.mono HBX.out.2.size))
 have X3:=qh (HBX.out.1.below hb3 HBX.out.1.lt)
 have P3:=qh (BlockIs.made w2 82 #[.int .i64 (p:Int),.int .i64 ((p:Int)+1)])
 have Hg2:=qh (Nat.le_trans HBX.out.2.size hb2.size)
 clear hv hb2 hb3 HP
 go_wp2_with fail
 generalize (w2.alloc (.cells #[.int .i64 (p:Int),.int .i64 ((p:Int)+1)] 82))=w3 at *
 generalize w2.heap.size=g2 at *
 obtain⟨⟨x0,x1,x2,x3,x4⟩,_⟩:=cells_five X3.out
 obtain⟨p0,p1,_⟩:=cells_two P3.out
 have SX:=lay_cells x0 x1 x2 x3 x4 p0 p1 (below_new w3 (.cells #[.int .i64 (p:Int),.int .i64 ((p:Int)+1)] 3))
 go_region_held3 (fun w'=>w'.cell? ⟨w.heap.size,0,none⟩=some (.int .i64 m.ver)∧w'.cell? ⟨w.heap.size,1,none⟩=some (.int .i64 m.idx)∧w'.cell? ⟨w.heap.size,2,none⟩=some (.int .i64 m.term)∧w'.cell? ⟨w.heap.size,3,none⟩=some (.int .i64 m.kind)∧w'.cell? ⟨w.heap.size,4,none⟩=some (.int .i64 m.void)∧w'.cell? ⟨g2,0,none⟩=some (.int .i64 (p:Int))∧w'.cell? ⟨g2,1,none⟩=some (.int .i64 ((p:Int)+1))) (first | exact⟨x0,x1,x2,x3,x4,p0,p1⟩ | exact SX | exact S4 | exact S5 | exact S6) (first
  | (go_at_call 110;(first | (with_reducible refine(HS.out w3).mono ?_) | (with_reducible refine(HS.out w3.drew).mono ?_));rintro e w4 ⟨g,cap,rfl,hz,hg,hgl,hb4⟩;have hb4':Below w3.heap.size w3 w4:=(by first | exact hb4 | exact undrew hb4);have S4:=lay_cells x0 x1 x2 x3 x4 p0 p1 hb4';have S5:=lay_cells x0 x1 x2 x3 x4 p0 p1 (hb4'.trans ((below_new w4 (.cells #[.int .i64 (p:Int),.int .i64 ((p:Int)+1)] 3)).mono hb4'.size));have LA:=qh (lay_a (p:=p) B3.out hz hg hgl hb4');clear hz hg hgl hb4 hb4')
  | (go_at_call 110;(first | (with_reducible refine(HS.out (w3.alloc (.cells #[.int .i64 (p:Int),.int .i64 ((p:Int)+1)] 3))).mono ?_) | (with_reducible refine(HS.out (w3.alloc (.cells #[.int .i64 (p:Int),.int .i64 ((p:Int)+1)] 3)).drew).mono ?_));rintro e w4 ⟨g,cap,rfl,hz,hg,hgl,hb4⟩;have hb4':Below (w3.alloc (.cells #[.int .i64 (p:Int),.int .i64 ((p:Int)+1)] 3)).heap.size (w3.alloc (.cells #[.int .i64 (p:Int),.int .i64 ((p:Int)+1)] 3)) w4:=(by first | exact hb4 | exact undrew hb4);have S4:=lay_cells x0 x1 x2 x3 x4 p0 p1 ((below_new w3 (.cells #[.int .i64 (p:Int),.int .i64 ((p:Int)+1)] 3)).trans (hb4'.mono (below_new w3 (.cells #[.int .i64 (p:Int),.int .i64 ((p:Int)+1)] 3)).size));have LB:=qh (lay_b (p:=p) B3.out hz hg hgl hb4');clear hz hg hgl hb4 hb4')
  | (go_at_call 109;(first | (with_reducible refine(HSt.out _ g cap _ LA.out).mono ?_) | (with_reducible refine(HSt.out _ g cap _ LA.out.drew).mono ?_) | (with_reducible refine(HSt.out _ g cap _ LB.out).mono ?_) | (with_reducible refine(HSt.out _ g cap _ LB.out.drew).mono ?_));rintro e w5 ⟨v,rfl,hv,hS,hc⟩;have SF:=qh (And.intro hv hS);have S6:=(by first | exact lay_keep HT.out Hg2.out hc S5 | exact lay_keep HT.out Hg2.out hc S4);clear hv hS hc)
  | fail)
 all_goals
  go_wp2_with fail
  go_ret
  exact⟨v,rfl,SF.out.1,by first | exact SF.out.2 | exact SF.out.2.on (Below.refl _ _).drew⟩
theorem klay_none (κ:SenK) (hG:GlK κ w0) (k:OwnT w0 w T h D) (dv:Value) (kk:Int) (hwf:wfK kk) (hk: ¬sortK kk) (m:MarkV):
 Calls Tryz.prog 73 #[dv,.int .i64 kk,m.val] w fun e w2=> ∃v,e= .returned v∧KErr κ 2 v∧Stp w0 w T h D w2:=by
 have hbx:=below_new w (.cells #[.int .i64 m.ver,.int .i64 m.idx,.int .i64 m.term,.int .i64 m.kind,.int .i64 m.void] 26)
 have hP:=placed_any κ _ ((hG.below k.below).below hbx) kk hwf
 rw [if_neg hk,show placeV kk= .agg #[.int .i64 0,.int .i64 0] by unfold placeV;rw [if_neg hk]]at hP
 have HP:=qh hP
 have HK:=qh k
 have Hbx:=qh hbx
 unfold MarkV.val at *
 clear hbx hP k hk hwf hG
 go_enter Tryz.func73,Tryz.ntmps73
 go_wp2_with fail
 refine HP.out.mono ?_
 rintro e w2 ⟨v,rfl,hv,hb2⟩
 obtain⟨tv,xv,rfl⟩:=hv.some (by decide)
 have Hv:=qh hv
 have hb3:=hb2.trans ((below_new w2 (.cells #[.int .i64 0,.int .i64 0] 82)).mono hb2.size)
 have B3:=qh (Hbx.out.trans (hb3.mono Hbx.out.size))
 clear hv hb2 hb3 HP
 go_wp2_with fail
 go_ret
 exact⟨_,rfl,Hv.out,Stp.below HK.out B3.out⟩
def layR (D:DM) (k:Int) (m:MarkV):Int × DM:=if sortK k then layK D k m else(2,D)
theorem klay_any (κ:SenK) (hD:GlD δ w0) (hG:GlK κ w0) (k:OwnT w0 w T h D) {q:Nat} (hF:D.Few q) (hq:q≤998000) (kk:Int) (hwf:wfK kk) (m:MarkV) (hm:m.right):
 Calls Tryz.prog 73 #[.pointer (some ⟨h,0,none⟩),.int .i64 kk,m.val] w fun e w2=> ∃v,e= .returned v∧KErr κ (layR D kk m).1 v∧Stp w0 w T h (layR D kk m).2 w2:=by
 unfold layR
 by_cases hk:sortK kk
 · rw [if_pos hk]
   exact klay_sort κ hD hG k hF hq kk hk m hm
 · rw [if_neg hk]
   exact klay_none κ hG k _ kk hwf hk m
theorem klayFrom_any (κ:SenK) (hD:GlD δ w0) (hG:GlK κ w0) (k:OwnT w0 w T h D) {q:Nat} (hF:D.Few q) (hq:q≤990000):
 Calls Tryz.prog 72 #[.pointer (some ⟨h,0,none⟩),.int .i64 2,noMark.val] w fun e w2=> ∃v,e= .returned v∧KErr κ (formatK D).1 v∧Stp w0 w T h (formatK D).2 w2:=by
 have hbx:=below_new w (.cells #[.int .i64 0,.int .i64 0,.int .i64 0,.int .i64 0,.int .i64 0] 26)
 have hB:=BlockIs.made w 26 #[.int .i64 0,.int .i64 0,.int .i64 0,.int .i64 0,.int .i64 0]
 have hnT: ¬T w.heap.size:=fun ht=>by have:=k.foot _ ht;omega
 obtain⟨w1,hw1⟩: ∃w1,w.alloc (.cells #[.int .i64 0,.int .i64 0,.int .i64 0,.int .i64 0,.int .i64 0] 26)=w1:=⟨_,rfl⟩
 rw [hw1]at hbx hB
 have HK:=qh k
 have HL1:=qh (klay_sort κ hD hG (k.on hbx) hF (by omega) 2 (.inl rfl) noMark noMark_right)
 have HF1:=qh (few_layK hF 2 noMark)
 have Hfm:Hid (formatK D=if(layK D 2 noMark).1≠0 then layK D 2 noMark else layK (layK D 2 noMark).2 3 noMark):=qh rfl
 have HG:=qh (And.intro hD hG)
 have HB:=qh (And.intro hB hnT)
 have Hbx:=qh hbx
 have Hw1:=qh hw1
 obtain⟨r,hr⟩: ∃r,layK D 2 noMark=r:=⟨_,rfl⟩
 rw [hr]at HL1 HF1 Hfm
 obtain⟨e1,D1⟩:=r
 simp only at HL1 HF1 Hfm
 unfold MarkV.val noMark at HL1
 have Hval:Hid (noMark.val= .agg #[.int .i64 0,.int .i64 0,.int .i64 0,.int .i64 0,.int .i64 0]):=qh rfl
 rw [Hval.out]
 simp only at HL1
 have c0:w1.cell? ⟨w.heap.size,0,none⟩=some (.int .i64 0):=hB.cell 0
 have c1:w1.cell? ⟨w.heap.size,1,none⟩=some (.int .i64 0):=hB.cell 1
 have c2:w1.cell? ⟨w.heap.size,2,none⟩=some (.int .i64 0):=hB.cell 2
 have c3:w1.cell? ⟨w.heap.size,3,none⟩=some (.int .i64 0):=hB.cell 3
 have c4:w1.cell? ⟨w.heap.size,4,none⟩=some (.int .i64 0):=hB.cell 4
 clear hbx hB hnT hw1 hr k hF hD hG
 by_cases he:e1=0
 · subst he
   have Hf2:Hid (formatK D=layK D1 3 noMark):=qh (by rw [Hfm.out,if_neg (fun hn=>hn rfl)])
   rw [Hf2.out]
   go_enter Tryz.func72,Tryz.ntmps72
   rw [← Hw1.out]at c0 c1 c2 c3 c4
   go_wp2_with fail
   rw [Hw1.out]
   refine HL1.out.mono ?_
   rintro e w2 ⟨v,rfl,hv,hS⟩
   obtain rfl:=hv.zero
   have S2:=qh hS
   have HL2:=qh (klay_sort κ HG.out.1 HG.out.2 hS.own HF1.out (by omega) 3 (.inr rfl) noMark noMark_right)
   unfold MarkV.val at HL2
   rw [show noMark.ver=0 from rfl,show noMark.idx=0 from rfl,show noMark.term=0 from rfl,show noMark.kind=0 from rfl,show noMark.void=0 from rfl]at HL2
   clear c0 c1 c2 c3 c4
   obtain⟨⟨c0,c1,c2,c3,c4⟩,_⟩:=cells_five (hS.block HB.out.1 HB.out.2).1
   clear hv hS HL1
   go_wp2_with fail
   refine HL2.out.mono ?_
   rintro e w3 ⟨v,rfl,hv,hS⟩
   have S3:=qh (And.intro hv (S2.out.trans hS))
   clear hv hS HL2
   go_wp2_with fail
   go_ret
   exact⟨_,rfl,S3.out.1,Stp.after (hb:=Hbx.out) HK.out S3.out.2⟩
 · have Hf2:Hid (formatK D=(e1,D1)):=qh (by rw [Hfm.out,if_pos he])
   rw [Hf2.out]
   have He:=qh he
   clear he
   go_enter Tryz.func72,Tryz.ntmps72
   rw [← Hw1.out]at c0 c1 c2 c3 c4
   go_wp2_with fail
   rw [Hw1.out]
   refine HL1.out.mono ?_
   rintro e w2 ⟨v,rfl,hv,hS⟩
   obtain⟨tv,xv,rfl⟩:=hv.some He.out
   have S2:=qh (And.intro hv hS)
   clear hv hS HL1 c0 c1 c2 c3 c4
   go_wp2_with fail
   go_ret
   exact⟨_,rfl,S2.out.1,Stp.after (hb:=Hbx.out) HK.out S2.out.2⟩
theorem kformat_any (κ:SenK) (hD:GlD δ w0) (hG:GlK κ w0) (k:OwnT w0 w T h D) {q:Nat} (hF:D.Few q) (hq:q≤990000):
 Calls Tryz.prog 31 #[.pointer (some ⟨h,0,none⟩)] w fun e w2=>e= .returned (.int .i64 (formatK D).1)∧Stp w0 w T h (formatK D).2 w2:=by
 have HL:=qh (klayFrom_any κ hD hG k hF hq)
 have HG:=qh hG
 rw [show noMark.val= .agg #[.int .i64 0,.int .i64 0,.int .i64 0,.int .i64 0,.int .i64 0]from rfl]at HL
 obtain⟨r,hr⟩: ∃r,formatK D=r:=⟨_,rfl⟩
 rw [hr]at HL ⊢
 clear hD hG k hF hr
 go_enter Tryz.func31,Tryz.ntmps31
 go_wp2_with fail
 refine HL.out.mono ?_
 rintro e w2 ⟨v,rfl,hv,hS⟩
 have HE:=qh (kerrno_any κ w2 (HG.out.below hS.own.below) _ v hv)
 have S2:=qh hS
 clear hv hS HL
 go_wp2_with fail
 refine HE.out.mono ?_
 rintro e w3 ⟨rfl,hb3⟩
 have S3:=qh (S2.out.on hb3)
 clear hb3
 go_wp2_with fail
 go_ret
 exact⟨rfl,S3.out⟩
theorem put_lay {kk:Int} {m:MarkV} (hm:m.right):putK D kk m=layR D kk m:=by
 unfold putK layR
 by_cases hk:sortK kk
 · rw [if_pos ⟨hk,hm⟩,if_pos hk]
 · rw [if_neg (fun hn=>hk hn.1),if_neg hk]
theorem kput_any (κ:SenK) (hD:GlD δ w0) (hG:GlK κ w0) (k:OwnT w0 w T h D) {q:Nat} (hF:D.Few q) (hq:q≤990000) (kk:Int) (hwf:wfK kk) (m:MarkV):
 Calls Tryz.prog 32 #[.pointer (some ⟨h,0,none⟩),.int .i64 kk,m.val] w fun e w2=>e= .returned (.int .i64 (putK D kk m).1)∧Stp w0 w T h (putK D kk m).2 w2:=by
 have hbx:=below_new w (.cells #[.int .i64 m.ver,.int .i64 m.idx,.int .i64 m.term,.int .i64 m.kind,.int .i64 m.void] 26)
 have hB:=BlockIs.made w 26 #[.int .i64 m.ver,.int .i64 m.idx,.int .i64 m.term,.int .i64 m.kind,.int .i64 m.void]
 have HB:=qh hB
 have HR:=qh (fun w=>kright_any w m)
 have HG:=qh (And.intro hD hG)
 have Hbx:=qh hbx
 have HK:=qh k
 have HF:=qh hF
 have Hwf:=qh hwf
 by_cases hm:m.right
 · rw [put_lay hm]
   rw [decide_eq_true hm]at HR
   have Hm:=qh hm
   unfold MarkV.val at *
   obtain⟨r,hr⟩: ∃r,layR D kk m=r:=⟨_,rfl⟩
   have Hr:=qh hr
   rw [hr]
   clear hbx hB hD hG k hF hwf hm hr
   go_enter Tryz.func32,Tryz.ntmps32
   go_wp2_with fail
   refine(HR.out _).mono ?_
   rintro e w2 ⟨rfl,hb2⟩
   have B2:=qh (Hbx.out.trans (hb2.mono Hbx.out.size))
   obtain⟨⟨c0,c1,c2,c3,c4⟩,_⟩:=cells_five (HB.out.below hb2 HB.out.lt)
   have hL:=klay_any κ HG.out.1 HG.out.2 (HK.out.on B2.out) HF.out (by omega) kk Hwf.out m Hm.out
   rw [Hr.out]at hL
   have HL:=qh hL
   unfold MarkV.val at HL
   clear hb2 hL
   go_wp2_with fail
   refine HL.out.mono ?_
   rintro e w3 ⟨v,rfl,hv,hS⟩
   have S3:=qh (Stp.after (hb:=B2.out) HK.out hS)
   have HE:=qh (kerrno_any κ w3 (HG.out.2.below hS.own.below) _ v hv)
   clear hv hS HL c0 c1 c2 c3 c4
   go_wp2_with fail
   refine HE.out.mono ?_
   rintro e w4 ⟨rfl,hb4⟩
   have S4:=qh (S3.out.on hb4)
   clear hb4
   go_wp2_with fail
   go_ret
   exact⟨rfl,S4.out⟩
 · have Hp:Hid (putK D kk m=(2,D)):=qh (by unfold putK;rw [if_neg (fun hn=>hm hn.2)])
   rw [Hp.out]
   rw [decide_eq_false hm]at HR
   unfold MarkV.val at *
   clear hbx hB hD hG k hF hwf hm
   go_enter Tryz.func32,Tryz.ntmps32
   go_wp2_with fail
   refine(HR.out _).mono ?_
   rintro e w2 ⟨rfl,hb2⟩
   have B2:=qh (Hbx.out.trans (hb2.mono Hbx.out.size))
   have hg:=(HG.out.2.below HK.out.below).below B2.out
   have gw:=hg.wr
   have HE:=qh (kerrno_any κ w2 hg 2 (errK κ.wr) (.inr (.inr (.inl ⟨rfl,rfl⟩))))
   unfold errK at gw HE
   clear hb2 hg
   go_wp2_with fail
   refine HE.out.mono ?_
   rintro e w3 ⟨rfl,hb3⟩
   have S3:=qh (Stp.below HK.out (B2.out.trans (hb3.mono B2.out.size)))
   clear hb3 gw
   go_wp2_with fail
   go_ret
   exact⟨rfl,S3.out⟩
end
end Go.Proofs.YtpaikolnampcfaaGreatDoor
