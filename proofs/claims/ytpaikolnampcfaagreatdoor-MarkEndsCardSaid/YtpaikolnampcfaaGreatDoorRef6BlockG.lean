/- The page's own: a mark's block, of whatever mark and kind. -/
import Derived.Test.YtpaikolnampcfaaGreatDoorRef6Open
import Derived.Test.YtpaikolnampcfaaGreatDoorMarkTold
namespace Go.Proofs.YtpaikolnampcfaaGreatDoor
set_option maxRecDepth 100000
set_option maxHeartbeats 4000000
open Go.RowKit
structure TellB (w:World) (v:Value):Prop where
 ex: ∃X bs cap,v= .slice X bs.length cap∧BytesAt w X bs∧bs.length≤cap∧cap≤9223372036854775807∧(X=none→cap=0)∧bs.length≤256
def RefG (lo:Nat) (w:World) (h m:Nat):Prop:= ∃T s,RefAt w T h s m∧ ∀k,T k→lo≤k
theorem RefG.new (w:World):RefG w.heap.size (w.alloc (.cells #[.slice none 0 0,.bool false] 124)) w.heap.size 0:=
 ⟨_,_,refAt_new w,fun k hk=>by subst hk;exact Nat.le_refl _⟩
theorem RefG.low {lo:Nat} {w:World} {h m:Nat} (k:RefG lo w h m):lo≤w.heap.size:=by
 obtain⟨T,s,k1,k3⟩:=k
 have:=k3 h k1.self
 have:=k1.lt
 omega
theorem RefG.put {lo:Nat} {w:World} {h m:Nat} (k:RefG lo w h m) (wd n:Int) (hm:m≤1000) (hn: -9223372036854775808≤n∧n≤9223372036854775807):
 Calls Tryz.prog 67 #[.pointer (some ⟨h,0,none⟩),.int .i64 wd,.int .i64 n] w fun e w2=>e= .returned (.tuple #[])∧RefG lo w2 h (m+6)∧Below lo w w2:=by
 have hlo:=k.low
 obtain⟨T,s,k1,k3⟩:=k
 refine(refField_any w T h s m k1 wd n (by omega) hn).mono ?_
 rintro e w2 ⟨rfl,hP⟩
 refine⟨rfl,⟨_,_,hP.rf,?_⟩,hP.fr.below (Below.refl _ _) k3 hlo⟩
 rintro j (hj | hj)
 · exact k3 j hj
 · omega
theorem RefG.bytes {lo:Nat} {w:World} {h m:Nat} (k:RefG lo w h m): ∃X bs cap,w.cell? ⟨h,0,none⟩=some (.slice X bs.length cap)∧BytesAt w X bs∧bs.length≤cap∧cap≤9223372036854775807:=by
 obtain⟨T,s,⟨bv,bs,sp,k1,_,hs⟩,_⟩:=k
 obtain⟨X,cap,rfl,h1,h2⟩:=own_slice k1.own
 exact⟨X,bs,cap,k1.blk.cell 0,own_reads k1.own k1.bd,h1,by unfold maxLen at h2;omega⟩
theorem sealR_bd6 (u:UnitV) (hb: ∀z∈u.body,0≤z∧z < 256):(sealR u).1.length≤256∧ ∀z∈(sealR u).1,0≤z∧z < 256:=by
 unfold sealR
 split
 · next h=>exact⟨Nat.le_of_eq (seal_len h.2.2),seal_bd h hb⟩
 · exact⟨Nat.zero_le _,fun z hz=>by cases hz⟩
theorem rseal_gen (w:World) (k n:Int) (A:Option Addr) (bs:List Int) (c:Nat) (hb:BytesAt w A bs) (hc:bs.length≤c) (hm:c≤9223372036854775807):
 Calls Tryz.prog 28 #[.agg #[.int .i64 k,.int .i64 n,.slice A bs.length c]] w fun e w'=> ∃v x,e= .returned (.tuple #[v,.int .i64 x])∧TellB w' v∧Below w.heap.size w w':=by
 refine(rseal_any w ⟨k,n,bs⟩ A c hb hc hm).mono fun e w' ⟨v,h1,h2,h3⟩=> ?_
 obtain⟨l1,l2⟩:=sealR_bd6 ⟨k,n,bs⟩ hb.1
 obtain⟨X,cap,rfl,h4,h5⟩:=own_slice h2
 exact⟨_,_,h1,⟨X,_,cap,rfl,own_reads h2 l2,h4,by unfold maxLen at h5;omega,own_none h2,l1⟩,h3⟩
theorem rblock_gen (W:World) (k:Int) (m:MarkV) (hm: ∀z∈ [m.ver,m.idx,m.term,m.kind,m.void], -9223372036854775808≤z∧z≤9223372036854775807):
 Calls Tryz.prog 27 #[.int .i64 k,m.val] W fun e w'=> ∃v,e= .returned v∧TellB w' v∧Below W.heap.size W w':=by
 have b1:=hm m.idx (by simp)
 have b2:=hm m.term (by simp)
 have b3:=hm m.kind (by simp)
 have b4:=hm m.void (by simp)
 have hbx:=below_new W (.cells #[.int .i64 m.ver,.int .i64 m.idx,.int .i64 m.term,.int .i64 m.kind,.int .i64 m.void] 26)
 have hB:=BlockIs.made W 26 #[.int .i64 m.ver,.int .i64 m.idx,.int .i64 m.term,.int .i64 m.kind,.int .i64 m.void]
 have hbw:=below_new (W.alloc (.cells #[.int .i64 m.ver,.int .i64 m.idx,.int .i64 m.term,.int .i64 m.kind,.int .i64 m.void] 26)) (.cells #[.slice none 0 0,.bool false] 124)
 have hN:=RefG.new (W.alloc (.cells #[.int .i64 m.ver,.int .i64 m.idx,.int .i64 m.term,.int .i64 m.kind,.int .i64 m.void] 26))
 have hb2:=hbx.trans (hbw.mono hbx.size)
 have hB2:=hB.below hbw hB.lt
 rw [World.size_alloc]at hN
 have P1:=qh (hN.put 6 m.idx (by decide) b1)
 have P2:=qh (fun w h j (h1:RefG (W.heap.size+1) w h j) (hl:j≤1000)=>h1.put 6 m.term hl b2)
 have P3:=qh (fun w h j (h1:RefG (W.heap.size+1) w h j) (hl:j≤1000)=>h1.put 1 m.kind hl b3)
 have P4:=qh (fun w h j (h1:RefG (W.heap.size+1) w h j) (hl:j≤1000)=>h1.put 6 m.void hl b4)
 obtain⟨w2,hw2⟩: ∃w2,(W.alloc (.cells #[.int .i64 m.ver,.int .i64 m.idx,.int .i64 m.term,.int .i64 m.kind,.int .i64 m.void] 26)).alloc (.cells #[.slice none 0 0,.bool false] 124)=w2:=⟨_,rfl⟩
 rw [hw2]at hb2 hB2 P1 hN
 have Hw2:=qh hw2
 have HI:=qh (And.intro hB2 hb2)
 have hlt:W.heap.size < W.heap.size+1:=Nat.lt_succ_self _
 obtain⟨⟨c0,c1,c2,c3,c4⟩,_⟩:=cells_five hB2
 unfold MarkV.val
 clear hbx hB hbw hN hb2 hB2 hw2 hm b1 b2 b3 b4
 go_enter Tryz.func27,Tryz.ntmps27
 rw [← Hw2.out]at c0 c1 c2 c3 c4
 go_wp2_with fail
 rw [Hw2.out]
 refine P1.out.mono ?_
 rintro e w3 ⟨rfl,n3,b3⟩
 have B3:=qh (HI.out.1.below b3 hlt)
 have Z3:=qh (HI.out.2.trans (b3.mono (Nat.le_succ _)))
 have Q:=qh (P2.out w3 _ _ n3 (by decide))
 clear n3 b3 P1 P2 c0 c1 c2 c3 c4
 obtain⟨⟨c0,c1,c2,c3,c4⟩,_⟩:=cells_five B3.out
 go_wp2_with fail
 refine Q.out.mono ?_
 rintro e w4 ⟨rfl,n4,b4⟩
 have B4:=qh (B3.out.below b4 hlt)
 have Z4:=qh (Z3.out.trans (b4.mono (Nat.le_succ _)))
 have Q2:=qh (P3.out w4 _ _ n4 (by decide))
 clear n4 b4 Q P3 c0 c1 c2 c3 c4
 obtain⟨⟨c0,c1,c2,c3,c4⟩,_⟩:=cells_five B4.out
 go_wp2_with fail
 refine Q2.out.mono ?_
 rintro e w5 ⟨rfl,n5,b5⟩
 have B5:=qh (B4.out.below b5 hlt)
 have Z5:=qh (Z4.out.trans (b5.mono (Nat.le_succ _)))
 have Q3:=qh (P4.out w5 _ _ n5 (by decide))
 clear n5 b5 Q2 P4 c0 c1 c2 c3 c4
 obtain⟨⟨c0,c1,c2,c3,c4⟩,_⟩:=cells_five B5.out
 go_wp2_with fail
 refine Q3.out.mono ?_
 rintro e w6 ⟨rfl,n6,b6⟩
 have B6:=qh (B5.out.below b6 hlt)
 have Z6:=qh (Z5.out.trans (b6.mono (Nat.le_succ _)))
 obtain⟨X6,bd,cap6,d6,z6,hc6,hm6⟩:=n6.bytes
 have HS:=qh (fun w (h:w=w6∨w=w6.drew)=>rseal_gen w k m.ver X6 bd cap6 (by rcases h with rfl | rfl<;>exact z6) hc6 hm6)
 clear n6 b6 Q3 z6 hc6 hm6 c0 c1 c2 c3 c4
 obtain⟨⟨c0,_⟩,_⟩:=cells_five B6.out
 go_wp2_with fail
 go_region_held3 (fun w'=>w'.cell? ⟨W.heap.size,0,none⟩=some (.int .i64 m.ver)∧w'.cell? ⟨W.heap.size+1,0,none⟩=some (.slice X6 bd.length cap6)) (first | exact⟨c0,d6⟩ | exact⟨k0,k6⟩) (first
  | (go_at_call 28;(first | refine(HS.out w6 (.inl rfl)).mono ?_ | refine(HS.out w6.drew (.inr rfl)).mono ?_);rintro e w7 ⟨v,xx,rfl,ht,hb7⟩;have hb8:Below w6.heap.size w6 w7:=(by first | exact hb7 | exact undrew hb7);have Ho:=qh (And.intro ht hb8);have k0:=cell_below c0 hb8;have k6:=cell_below d6 hb8;clear ht hb7 hb8)
  | fail)
 all_goals
  go_wp2_with fail
  go_ret
  exact⟨_,rfl,Ho.out.1,Z6.out.trans (Ho.out.2.mono Z6.out.size)⟩
end Go.Proofs.YtpaikolnampcfaaGreatDoor
