/- MarkDoes: whatever deeds are done: the walk. -/
import Derived.Test.YtpaikolnampcfaaGreatDoorLaw06DoB
import Derived.Test.YtpaikolnampcfaaGreatDoorRef6Dam
import Derived.Test.YtpaikolnampcfaaGreatDoorLaw06Do
import Derived.Deep.RegionWith
namespace Go.Proofs.YtpaikolnampcfaaGreatDoor
set_option maxRecDepth 100000
set_option maxHeartbeats 8000000
open Go.RowKit
theorem stat6 {w0 w:World} {T:Nat→Prop} {h:Nat} {D:DM} (k:OwnT w0 w T h D):
 Calls Tryz.prog 20 #[.pointer (some ⟨h,0,none⟩)] w fun e w2=>e= .returned D.statV∧Below w.heap.size w w2:=stat_any k.at_
theorem stored_len6 {D:DM} (h:D.Ok) (n:Int):(D.storedI n).length≤256:=by
 unfold DM.storedI
 split
 · next hn=>
   unfold DM.has at hn
   exact Nat.le_of_eq (h.stored (n:=n.toNat) (by omega)).1
 · exact Nat.zero_le _
theorem field3 (a b c d e:Int) (f:Bool) (w:World):(Instr.field 49 (.agg #[.int .i64 a,.int .i64 b,.int .i64 c,.int .i64 d,.int .i64 e,.bool f]) 3).run Tryz.prog w= .ok (.int .i64 d) w:=by kernel_rfl
theorem field5 (a b c d e:Int) (f:Bool) (w:World):(Instr.field 49 (.agg #[.int .i64 a,.int .i64 b,.int .i64 c,.int .i64 d,.int .i64 e,.bool f]) 5).run Tryz.prog w= .ok (.bool f) w:=by kernel_rfl
theorem deed_cells6 {w:World} {b off k:Nat} {l:List DeedK} (hk:k < l.length) (h: ∀i x,l[i]? =some x→ ∀j v,x.cells[j]? =some v→w.cell? ⟨b,off+i * 11+j,none⟩=some v):
 ∀j v,l[k].cells[j]? =some v→w.cell? ⟨b,off+k * 11+j,none⟩=some v:=h k l[k] (List.getElem?_eq_getElem hk)
theorem bad_len (D:DM):(badK D).length≤4∧ ∀z∈badK D, -9223372036854775808≤z∧z≤9223372036854775807:=by
 have hp: ∀k,(placeK k:Int)≤4∧0≤(placeK k:Int):=fun k=>by have:=place_bd k;omega
 have h1: ∀k,(badOf D k).length≤2∧ ∀z∈badOf D k, -9223372036854775808≤z∧z≤9223372036854775807:=fun k=>by
  have hk:=hp k
  unfold badOf
  constructor
  · split<;>split<;>simp
  · intro z hz
    rcases List.mem_append.1 hz with hz | hz
    · split at hz
      · obtain rfl:=List.mem_singleton.1 hz;omega
      · cases hz
    · split at hz
      · obtain rfl:=List.mem_singleton.1 hz;omega
      · cases hz
 unfold badK
 split
 · exact⟨Nat.zero_le _,fun z hz=>by cases hz⟩
 · refine⟨by rw [List.length_append];have:=(h1 2).1;have:=(h1 3).1;omega,fun z hz=> ?_⟩
   rcases List.mem_append.1 hz with hz | hz
   · exact(h1 2).2 z hz
   · exact(h1 3).2 z hz
theorem markDoes_any (σ:Sen) (τ:SenU) (δ:SenD) (κ:SenK) (w:World) (hC:GlAt σ w) (hU:GlU τ w) (hD:GlD δ w) (hS:GlS δ w) (hK:GlK κ w) (blocks:Int) (A:Option Addr) (l:List DeedK) (c:Nat) (hl:DeedsAt6 w A l):
 Calls Tryz.prog 4 #[.int .i64 blocks,.slice A l.length c] w fun e w'=>e= .returned (.bool true)∧Below w.heap.size w w':=by
 have hG0:Gls σ τ δ κ w:=⟨hC,hU,hD,hS,hK⟩
 have HA:=qh (fun W (h:Below w.heap.size w W)=>awake_any σ τ δ κ W (hG0.below h))
 have HG:=qh hG0
 have Hl:=qh hl
 clear hC hU hD hS hK hG0 hl
 by_cases hno:blocks < 1∨8 < blocks∨(50:Int) < (l.length:Int)
 · have hA:=HA.out w (Below.refl _ _)
   have HAw:=qh hA
   clear hA HA
   by_cases h1:blocks < 1
   · go_enter Tryz.func4,Tryz.ntmps4
     go_wp2_with fail
     refine HAw.out.mono ?_
     rintro e w2 ⟨rfl,hb2⟩
     have HB2:=qh hb2
     clear hb2
     go_wp2_with fail
     go_ret
     exact⟨rfl,HB2.out⟩
   · by_cases h2:8 < blocks
     · go_enter Tryz.func4,Tryz.ntmps4
       go_wp2_with fail
       refine HAw.out.mono ?_
       rintro e w2 ⟨rfl,hb2⟩
       have HB2:=qh hb2
       clear hb2
       go_wp2_with fail
       go_ret
       exact⟨rfl,HB2.out⟩
     · have h3:(50:Int) < (l.length:Int):=by omega
       clear hno
       go_enter Tryz.func4,Tryz.ntmps4
       go_wp2_with fail
       refine HAw.out.mono ?_
       rintro e w2 ⟨rfl,hb2⟩
       have HB2:=qh hb2
       clear hb2
       go_wp2_with fail
       go_ret
       exact⟨rfl,HB2.out⟩
 · obtain⟨B,rfl⟩:=Int.eq_ofNat_of_zero_le (show(0:Int)≤blocks by omega)
   have hB0:1≤B:=by omega
   have hB1:B≤8:=by omega
   have hB2: ¬(B:Int) < 1:=by omega
   have hB3: ¬(8:Int) < (B:Int):=by omega
   have hl50: ¬(50:Int) < (l.length:Int):=by omega
   have hll:l.length≤50:=by omega
   clear hno
   go_enter Tryz.func4,Tryz.ntmps4
   go_wp2_with fail
   refine(OwnT.new (Below.refl _ _) B (by omega) (by omega)).mono ?_
   rintro e w1 ⟨hd,rfl,k1,hb1⟩
   have K1:=qh (And.intro k1 hb1)
   clear k1 hb1
   go_wp2_with fail
   refine(new3_any w1 B (by omega) (by omega)).mono ?_
   rintro e w2 ⟨hr,rfl,k2,hb2⟩
   have K2:=qh (show Two w w2 (fun k=>w.heap.size≤k∧k < w1.heap.size) (fun k=>w1.heap.size≤k∧k < w2.heap.size) hd hr (DM.new B) (DM.new B)from⟨K1.out.1.on hb2,k2,fun k hk=>Nat.le_trans K1.out.2.size hk.1,fun k h1 h2=>by omega⟩)
   clear k2 hb2 K1
   go_wp2_with fail
   go_loopg [9] l.length (fun gk i wx=> ∃(q:Nat),gk=l.length - q∧q≤l.length∧i= .int .i64 (q:Int)∧Hid (∃Td Tr D,Two w wx Td Tr hd hr D D∧D.Few (8 * q)))
   case atStart=>exact⟨0,rfl,Nat.zero_le _,rfl,qh ⟨_,_,_,K2.out,Few.new⟩⟩
   case round=>
    obtain⟨q,hgk,hq,rfl,hT⟩:=hrel
    have Hgk:=qh hgk
    clear hgk
    obtain⟨Td,Tr,D,hT⟩:=hT.out
    have K:=qh hT
    clear hT K2
    by_cases hlt:q < l.length
    · obtain⟨b,off,rfl,hc⟩:=(Hl.out.below K.out.1.d.below).2 (by rintro rfl;exact absurd hlt (Nat.not_lt_zero _))
      have hcs:=deed_cells6 hlt hc
      have hx:=Hl.out.1 l[q] (List.getElem_mem hlt)
      have Hx:=qh hx
      have hi1:(0:Int)≤(q:Int):=by omega
      have hi2:(q:Int) < (l.length:Int):=by omega
      have HDo:=qh (does6_any HG.out K.out.1 K.out.2 (by omega) l[q] hx)
      have HF:=qh (few_deedK K.out.2 l[q])
      clear hc hx
      generalize l[q]=x at *
      have c0:=hcs 0 _ rfl
      have c1:=hcs 1 _ rfl
      have c2:=hcs 2 _ rfl
      have c3:=hcs 3 _ rfl
      have c4:=hcs 4 _ rfl
      have c5:=hcs 5 _ rfl
      have c6:=hcs 6 _ rfl
      have c7:=hcs 7 _ rfl
      have c8:=hcs 8 _ rfl
      have c9:=hcs 9 _ rfl
      have c10:=hcs 10 _ rfl
      rw [Nat.add_zero]at c0
      clear hcs
      by_cases hlong:(300:Int) < (x.bs.length:Int)
      · go_wp2_with fail
        refine(HA.out wr K.out.1.d.below).mono ?_
        rintro e w4 ⟨rfl,hb4⟩
        have HB4:=qh (K.out.1.d.below.trans (hb4.mono K.out.1.d.below.size))
        clear hb4 c0 c1 c2 c3 c4 c5 c6 c7 c8 c9 c10
        go_wp2_with fail
        go_ret
        exact⟨rfl,HB4.out⟩
      · have HDd:=qh (does6_any HG.out K.out.1.drew K.out.2 (by omega) x Hx.out)
        obtain⟨D2,hD2⟩: ∃D2,D.deedK x=D2:=⟨_,rfl⟩
        rw [hD2]at HDo HDd HF
        unfold doesV6 at HDo HDd
        have hbt:((D2.turns:Int) != (D2.turns:Int))=false:=by simp
        have hbd:(D2.down != D2.down)=false:=by simp
        have hbs:sameB (badK D2) (badK D2)=true:=decide_eq_true rfl
        have HBl:=qh (bad_len D2)
        have hf3:=field3 (D2.cells.length:Int) (D2.waits.length:Int) (hurts D2.cells:Int) (D2.turns:Int) (D2.crashes:Int) D2.down
        have hf5:=field5 (D2.cells.length:Int) (D2.waits.length:Int) (hurts D2.cells:Int) (D2.turns:Int) (D2.crashes:Int) D2.down
        clear hD2
        go_wp2_with fail
        refine wp_region_any (by kernel_rfl) ?_
        try (change wpAny _ _ _ _ _ _ _ (World.drew _))
        refine wpAny_take (i:=0) (v:= ?_) rfl (by kernel_rfl) (by kernel_rfl) (by kernel_rfl) (fun _ _ _ h=>h) (Or.inl ⟨by rfl,?_⟩) ?_
        rotate_left 1
        · (intro w;go_simp;first | done | with_reducible rfl)
        try simp only [Act.put,List.setIfInBounds_toArray]
        refine wpAny_take (i:=1) (v:= ?_) rfl (by kernel_rfl) (by kernel_rfl) (by kernel_rfl) (fun _ _ _ h=>h) (Or.inl ⟨by rfl,?_⟩) ?_
        rotate_left 1
        · (intro w;go_simp;first | done | with_reducible rfl)
        try simp only [Act.put]
        refine wpAny_take (i:=2) (v:= ?_) rfl (by kernel_rfl) (by kernel_rfl) (by kernel_rfl) (fun _ _ _ h=>h) (Or.inl ⟨by rfl,?_⟩) ?_
        rotate_left 1
        · (intro w;go_simp;first | done | with_reducible rfl)
        try simp only [Act.put]
        refine wpAny_take (i:=3) (v:= ?_) rfl (by kernel_rfl) (by kernel_rfl) (by kernel_rfl) (fun _ _ _ h=>h) (Or.inl ⟨by rfl,?_⟩) ?_
        rotate_left 1
        · (intro w;go_simp;first | done | with_reducible rfl)
        try simp only [Act.put]
        refine wpAny_take (i:=4) (v:= ?_) rfl (by kernel_rfl) (by kernel_rfl) (by kernel_rfl) (fun _ _ _ h=>h) (Or.inl ⟨by rfl,?_⟩) ?_
        rotate_left 1
        · (intro w;go_simp;first | done | with_reducible rfl)
        try simp only [Act.put]
        refine wpAny_ready (rs:= [5]) (by kernel_rfl) (by simp) ?_
        refine AllReady.cons rfl (fun K hK=> ?_) AllReady.nil
        go_simp
        refine hK _ _ ?_
        clear hK K
        try simp only [Act.put,List.setIfInBounds_toArray,List.set_cons_zero,List.set_cons_succ]
        refine wpAny_ready (rs:= [6]) (by kernel_rfl) (by simp) ?_
        refine AllReady.cons rfl (fun K hK=> ?_) AllReady.nil
        go_simp
        go_wp2_with ((go_at_call 19;(first | (with_reducible refine HDo.out.mono ?_) | (with_reducible refine HDd.out.mono ?_));rintro e w4 ⟨rfl,Td4,Tr4,k4⟩;have K4:=qh k4;obtain⟨_,_,_,t3,t5⟩:=k4.r.three;clear k4 c0 c1 c2 c3 c4 c5 c6 c7 c8 c9 c10))
        first | (refine hK _ _ ?_;clear hK K) | skip
        try simp only [Act.put,List.setIfInBounds_toArray,List.set_cons_zero,List.set_cons_succ]
        refine wpAny_take (i:=7) (v:= ?_) rfl (by kernel_rfl) (by kernel_rfl) (by kernel_rfl) (fun _ _ _ h=>h) (Or.inl ⟨by rfl,?_⟩) ?_
        rotate_left 1
        · (intro w;go_simp;first | done | with_reducible rfl)
        try simp only [Act.put,List.setIfInBounds_toArray]
        refine wpAny_take (i:=8) (v:= ?_) rfl (by kernel_rfl) (by kernel_rfl) (by kernel_rfl) (fun _ _ _ h=>h) (Or.inl ⟨by rfl,?_⟩) ?_
        rotate_left 1
        · (intro w;go_simp;first | done | with_reducible rfl)
        try simp only [Act.put]
        refine wpAny_take (i:=9) (v:= ?_) rfl (by kernel_rfl) (by kernel_rfl) (by kernel_rfl) (fun _ _ _ h=>h) (Or.inl ⟨by rfl,?_⟩) ?_
        rotate_left 1
        · (intro w;go_simp;first | done | with_reducible rfl)
        try simp only [Act.put]
        refine wpAny_take (i:=12) (v:= ?_) rfl (by kernel_rfl) (by kernel_rfl) (by kernel_rfl) (fun _ _ _ h=>h) (Or.inl ⟨by rfl,?_⟩) ?_
        rotate_left 1
        · (intro w;go_simp;first | done | with_reducible rfl)
        try simp only [Act.put]
        refine wpAny_take (i:=13) (v:= ?_) rfl (by kernel_rfl) (by kernel_rfl) (by kernel_rfl) (fun _ _ _ h=>h) (Or.inl ⟨by rfl,?_⟩) ?_
        rotate_left 1
        · (intro w;go_simp;first | done | with_reducible rfl)
        try simp only [Act.put]
        refine wpAny_take (i:=14) (v:= ?_) rfl (by kernel_rfl) (by kernel_rfl) (by kernel_rfl) (fun _ _ _ h=>h) (Or.inl ⟨by rfl,?_⟩) ?_
        rotate_left 1
        · (intro w;go_simp;first | done | with_reducible rfl)
        try simp only [Act.put]
        refine wpAny_ready (rs:= [10,15]) (by kernel_rfl) (by simp) ?_
        refine AllReady.cons rfl (fun K hK=> ?_) (AllReady.cons rfl (fun K hK=> ?_) AllReady.nil)
        focus
         go_simp
         go_wp2_with ((go_at_call 20;with_reducible refine(stat6 K4.out.d).mono ?_;rintro e w5 ⟨rfl,hb5⟩;unfold DM.statV Go.Proofs.YtpaikolnampcfaaGreatDoor.statV;have K5:=qh (K4.out.on hb5);obtain⟨_,_,_,u3,u5⟩:=K5.out.r.three;clear hb5))
         first | (refine hK _ _ ?_;clear hK K) | skip
         try simp only [Act.put,List.setIfInBounds_toArray,List.set_cons_zero,List.set_cons_succ]
         refine wpAny_take (i:=11) (v:= ?_) rfl (by kernel_rfl) (by kernel_rfl) (by kernel_rfl) (fun _ _ _ h=>h) (Or.inl ⟨by rfl,?_⟩) ?_
         rotate_left 1
         · (intro w;go_simp;first | done | with_reducible rfl)
         try simp only [Act.put,List.setIfInBounds_toArray]
         refine wpAny_ready (rs:= [15]) (by kernel_rfl) (by simp) ?_
         refine AllReady.cons rfl (fun K hK=> ?_) AllReady.nil
         go_simp
         refine hK _ _ ?_
         clear hK K
         try simp only [Act.put,List.setIfInBounds_toArray,List.set_cons_zero,List.set_cons_succ]
        rotate_left 1
        focus
         go_simp
         refine hK _ _ ?_
         clear hK K
         try simp only [Act.put,List.setIfInBounds_toArray,List.set_cons_zero,List.set_cons_succ]
         refine wpAny_ready (rs:= [10]) (by kernel_rfl) (by simp) ?_
         refine AllReady.cons rfl (fun K hK=> ?_) AllReady.nil
         go_simp
         go_wp2_with ((go_at_call 20;with_reducible refine(stat6 K4.out.d).mono ?_;rintro e w5 ⟨rfl,hb5⟩;unfold DM.statV Go.Proofs.YtpaikolnampcfaaGreatDoor.statV;have K5:=qh (K4.out.on hb5);obtain⟨_,_,_,u3,u5⟩:=K5.out.r.three;clear hb5))
         first | (refine hK _ _ ?_;clear hK K) | skip
         try simp only [Act.put,List.setIfInBounds_toArray,List.set_cons_zero,List.set_cons_succ]
         refine wpAny_take (i:=11) (v:= ?_) rfl (by kernel_rfl) (by kernel_rfl) (by kernel_rfl) (fun _ _ _ h=>h) (Or.inl ⟨by rfl,?_⟩) ?_
         rotate_left 1
         · (intro w;go_simp;first | done | with_reducible rfl)
         try simp only [Act.put,List.setIfInBounds_toArray]
        all_goals
         refine wpAny_take (i:=16) (v:= ?_) rfl (by kernel_rfl) (by kernel_rfl) (by kernel_rfl) (fun _ _ _ h=>h) (Or.inl ⟨by rfl,?_⟩) ?_
         rotate_left 1
         · (intro w;go_simp;first | done | with_reducible rfl)
         try simp only [Act.put,List.setIfInBounds_toArray]
         refine wpAny_take (i:=17) (v:= ?_) rfl (by kernel_rfl) (by kernel_rfl) (by kernel_rfl) (fun _ _ _ h=>h) (Or.inl ⟨by rfl,?_⟩) ?_
         rotate_left 1
         · (intro w;go_simp;first | done | with_reducible rfl)
         try simp only [Act.put]
         refine wpAny_take (i:=18) (v:= ?_) rfl (by kernel_rfl) (by kernel_rfl) (by kernel_rfl) (fun _ _ _ h=>h) (Or.inl ⟨by rfl,?_⟩) ?_
         rotate_left 1
         · (intro w;go_simp;first | done | with_reducible rfl)
         try simp only [Act.put]
         refine wpAny_take (i:=19) (v:= ?_) rfl (by kernel_rfl) (by kernel_rfl) (by kernel_rfl) (fun _ _ _ h=>h) (Or.inl ⟨by rfl,?_⟩) ?_
         rotate_left 1
         · (intro w;go_simp;first | done | with_reducible rfl)
         try simp only [Act.put]
         refine wpAny_take (i:=22) (v:= ?_) rfl (by kernel_rfl) (by kernel_rfl) (by kernel_rfl) (fun _ _ _ h=>h) (Or.inl ⟨by rfl,?_⟩) ?_
         rotate_left 1
         · (intro w;go_simp;first | done | with_reducible rfl)
         try simp only [Act.put]
         refine wpAny_take (i:=23) (v:= ?_) rfl (by kernel_rfl) (by kernel_rfl) (by kernel_rfl) (fun _ _ _ h=>h) (Or.inl ⟨by rfl,?_⟩) ?_
         rotate_left 1
         · (intro w;go_simp;first | done | with_reducible rfl)
         try simp only [Act.put]
         refine wpAny_take (i:=24) (v:= ?_) rfl (by kernel_rfl) (by kernel_rfl) (by kernel_rfl) (fun _ _ _ h=>h) (Or.inl ⟨by rfl,?_⟩) ?_
         rotate_left 1
         · (intro w;go_simp;first | done | with_reducible rfl)
         try simp only [Act.put]
         refine wpAny_ready (rs:= [20,25]) (by kernel_rfl) (by simp) ?_
         refine AllReady.cons rfl (fun K hK=> ?_) (AllReady.cons rfl (fun K hK=> ?_) AllReady.nil)
         focus
          go_simp
          go_wp2_with ((go_at_call 20;with_reducible refine(stat6 K5.out.d).mono ?_;rintro e w6 ⟨rfl,hb6⟩;unfold DM.statV Go.Proofs.YtpaikolnampcfaaGreatDoor.statV;have K6:=qh (K5.out.on hb6);obtain⟨_,_,_,v3,v5⟩:=K6.out.r.three;clear hb6))
          first | (refine hK _ _ ?_;clear hK K) | skip
          try simp only [Act.put,List.setIfInBounds_toArray,List.set_cons_zero,List.set_cons_succ]
          refine wpAny_take (i:=21) (v:= ?_) rfl (by kernel_rfl) (by kernel_rfl) (by kernel_rfl) (fun _ _ _ h=>h) (Or.inl ⟨by rfl,?_⟩) ?_
          rotate_left 1
          · (intro w;go_simp;first | done | with_reducible rfl)
          try simp only [Act.put,List.setIfInBounds_toArray]
          refine wpAny_ready (rs:= [25]) (by kernel_rfl) (by simp) ?_
          refine AllReady.cons rfl (fun K hK=> ?_) AllReady.nil
          go_simp
          refine hK _ _ ?_
          clear hK K
          try simp only [Act.put,List.setIfInBounds_toArray,List.set_cons_zero,List.set_cons_succ]
         rotate_left 1
         focus
          go_simp
          refine hK _ _ ?_
          clear hK K
          try simp only [Act.put,List.setIfInBounds_toArray,List.set_cons_zero,List.set_cons_succ]
          refine wpAny_ready (rs:= [20]) (by kernel_rfl) (by simp) ?_
          refine AllReady.cons rfl (fun K hK=> ?_) AllReady.nil
          go_simp
          go_wp2_with ((go_at_call 20;with_reducible refine(stat6 K5.out.d).mono ?_;rintro e w6 ⟨rfl,hb6⟩;unfold DM.statV Go.Proofs.YtpaikolnampcfaaGreatDoor.statV;have K6:=qh (K5.out.on hb6);obtain⟨_,_,_,v3,v5⟩:=K6.out.r.three;clear hb6))
          first | (refine hK _ _ ?_;clear hK K) | skip
          try simp only [Act.put,List.setIfInBounds_toArray,List.set_cons_zero,List.set_cons_succ]
          refine wpAny_take (i:=21) (v:= ?_) rfl (by kernel_rfl) (by kernel_rfl) (by kernel_rfl) (fun _ _ _ h=>h) (Or.inl ⟨by rfl,?_⟩) ?_
          rotate_left 1
          · (intro w;go_simp;first | done | with_reducible rfl)
          try simp only [Act.put,List.setIfInBounds_toArray]
         all_goals
          refine wpAny_take (i:=26) (v:= ?_) rfl (by kernel_rfl) (by kernel_rfl) (by kernel_rfl) (fun _ _ _ h=>h) (Or.inl ⟨by rfl,?_⟩) ?_
          rotate_left 1
          · (intro w;go_simp;first | done | with_reducible rfl)
          try simp only [Act.put,List.setIfInBounds_toArray]
          refine wpAny_take (i:=27) (v:= ?_) rfl (by kernel_rfl) (by kernel_rfl) (by kernel_rfl) (fun _ _ _ h=>h) (Or.inl ⟨by rfl,?_⟩) ?_
          rotate_left 1
          · (intro w;go_simp;first | done | with_reducible rfl)
          try simp only [Act.put]
          refine wpAny_take (i:=28) (v:= ?_) rfl (by kernel_rfl) (by kernel_rfl) (by kernel_rfl) (fun _ _ _ h=>h) (Or.inl ⟨by rfl,?_⟩) ?_
          rotate_left 1
          · (intro w;go_simp;first | done | with_reducible rfl)
          try simp only [Act.put]
          refine wpAny_take (i:=29) (v:= ?_) rfl (by kernel_rfl) (by kernel_rfl) (by kernel_rfl) (fun _ _ _ h=>h) (Or.inl ⟨by rfl,?_⟩) ?_
          rotate_left 1
          · (intro w;go_simp;first | done | with_reducible rfl)
          try simp only [Act.put]
          refine wpAny_take (i:=31) (v:= ?_) rfl (by kernel_rfl) (by kernel_rfl) (by kernel_rfl) (fun _ _ _ h=>h) (Or.inl ⟨by rfl,?_⟩) ?_
          rotate_left 1
          · (intro w;go_simp;first | done | with_reducible rfl)
          try simp only [Act.put]
          refine wpAny_ready (rs:= [30]) (by kernel_rfl) (by simp) ?_
          refine AllReady.cons rfl (fun K hK=> ?_) AllReady.nil
          go_simp
          go_wp2_with ((go_at_call 22;refine(kDamaged_any σ τ κ HG.out.c HG.out.u HG.out.d HG.out.k K6.out.d).mono ?_;rintro e w7 ⟨v,rfl,ho,hb7⟩;obtain⟨X7,c7,rfl,_,_⟩:=own_slice ho;have K7:=qh (And.intro (K6.out.on hb7) (own_ints ho HBl.out.2));clear ho hb7))
          first | (refine hK _ _ ?_;clear hK K) | skip
          try simp only [Act.put,List.setIfInBounds_toArray,List.set_cons_zero,List.set_cons_succ]
          refine wpAny_ready (rs:= [32]) (by kernel_rfl) (by simp) ?_
          refine AllReady.cons rfl (fun K hK=> ?_) AllReady.nil
          go_simp
          go_wp2_with ((go_at_call 23;refine(rdam_any K7.out.1.r HF.out (by omega)).mono ?_;rintro e w8 ⟨v,rfl,ho,hb8⟩;obtain⟨X8,c8,rfl,_,_⟩:=own_slice ho;have K8:=qh (And.intro (K7.out.1.on hb8) (And.intro (K7.out.2.below hb8) (own_ints ho HBl.out.2)));clear ho hb8))
          first | (refine hK _ _ ?_;clear hK K) | skip
          try simp only [Act.put,List.setIfInBounds_toArray,List.set_cons_zero,List.set_cons_succ]
          refine wpAny_ready (rs:= [33]) (by kernel_rfl) (by simp) ?_
          refine AllReady.cons rfl (fun K hK=> ?_) AllReady.nil
          go_simp
          go_wp2_with ((go_at_call 21;refine(sameInts_any (badK D2) (badK D2) X7 X8 c7 c8 w8 K8.out.2.1 K8.out.2.2 (by have:=HBl.out.1;omega)).mono ?_;rintro e w9 ⟨rfl,n9,rfl⟩;rw [hbs]))
          first | (refine hK _ _ ?_;clear hK K) | skip
          try simp only [Act.put,List.setIfInBounds_toArray,List.set_cons_zero,List.set_cons_succ]
          refine wpAny_take (i:=34) (v:= ?_) rfl (by kernel_rfl) (by kernel_rfl) (by kernel_rfl) (fun _ _ _ h=>h) (Or.inl ⟨by rfl,?_⟩) ?_
          rotate_left 1
          · (intro w;go_simp;first | done | with_reducible rfl)
          try simp only [Act.put,List.setIfInBounds_toArray]
          refine wpAny_take (i:=35) (v:= ?_) rfl (by kernel_rfl) (by kernel_rfl) (by kernel_rfl) (fun _ _ _ h=>h) (Or.inl ⟨by rfl,?_⟩) ?_
          rotate_left 1
          · (intro w;go_simp;first | done | with_reducible rfl)
          try simp only [Act.put]
          refine wpAny_done (by kernel_rfl) ?_ _
          have KN:Hid (Two w (w8.drewN n9) Td4 Tr4 hd hr D2 D2):=qh (K8.out.1.drewN n9)
          clear K4 K5 K6 K7 K8 HBl HDo HDd hbt hbd hbs hf3 hf5
          try clear t3 t5
          try clear u3 u5
          try clear v3 v5
          generalize w8.drewN n9=wz at KN ⊢
          go_wp2_with fail
          go_loopg [10] B (fun gk2 i2 wx2=> ∃(m:Nat),gk2=B - m∧m≤B∧i2= .int .i64 (m:Int)∧Hid (Two w wx2 Td4 Tr4 hd hr D2 D2))
          case atStart=>exact⟨0,rfl,Nat.zero_le _,rfl,KN⟩
          case round=>
           obtain⟨m,hgm,hm,rfl,hT2⟩:=hrel
           have Hgm:=qh hgm
           clear hgm KN
           by_cases hmB:m < B
           · have hmi:(m:Int) < (B:Int):=by omega
             have HSt:=qh (OwnT.stored hT2.out.d (m:Int))
             have HLn:=qh (stored_len6 hT2.out.d.at_.ok (m:Int))
             have hbs:sameB (D2.storedI (m:Int)) (D2.storedI (m:Int))=true:=decide_eq_true rfl
             go_wp2_with fail
             refine HSt.out.mono ?_
             rintro e wa ⟨v,rfl,⟨A1,rfl,hz1,_⟩,hba,_⟩
             have KA:=qh (And.intro (hT2.out.on hba) hz1)
             clear hz1 hba HSt
             go_wp2_with fail
             refine(stored3_any KA.out.1.r (m:Int)).mono ?_
             rintro e wb ⟨u,rfl,⟨A2,cu,rfl,hz2,_,_,_,_⟩,hbb⟩
             have KB:=qh (And.intro (KA.out.1.on hbb) (And.intro (KA.out.2.below hbb) hz2))
             clear hz2 hbb KA
             go_wp2_with fail
             refine(sameBytes_any (D2.storedI (m:Int)) (D2.storedI (m:Int)) A1 A2 _ cu wb KB.out.2.1 KB.out.2.2 (by have:=HLn.out;omega)).mono ?_
             rintro e wc ⟨rfl,nb,rfl⟩
             rw [hbs]
             clear hbs
             have KC:=qh (KB.out.1.drewN nb)
             clear KB
             go_wp2_with fail
             go_roundg (B - (m+1))
             case measure=>rw [Hgm.out];omega
             case rel=>exact⟨m+1,rfl,by omega,by go_num,KC⟩
           · obtain rfl:m=B:=by omega
             go_wp2_with fail
             go_roundg (l.length - (q+1))
             case measure=>rw [Hgk.out];omega
             case rel=>exact⟨q+1,rfl,by omega,by go_num,qh ⟨_,_,_,hT2.out,fewUp HF.out (by omega)⟩⟩
    · obtain rfl:q=l.length:=by omega
      go_wp2_with fail
      refine(HA.out wr K.out.1.d.below).mono ?_
      rintro e w4 ⟨rfl,hb4⟩
      have HB4:=qh (K.out.1.d.below.trans (hb4.mono K.out.1.d.below.size))
      clear hb4
      go_wp2_with fail
      go_ret
      exact⟨rfl,HB4.out⟩
end Go.Proofs.YtpaikolnampcfaaGreatDoor
