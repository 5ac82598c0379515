/- Deeds on the marks of a disk; a mark laid turn by turn: plain mathematics. -/
import Derived.Test.YtpaikolnampcfaaGreatDoorMarkAwake
import Derived.Test.YtpaikolnampcfaaGreatDoorKitInts
import Derived.Test.YtpaikolnampcfaaGreatDoorMarkPlace
import Derived.Test.YtpaikolnampcfaaGreatDoorMarkLay
import Derived.Test.YtpaikolnampcfaaGreatDoorRef4SealW
import Derived.Test.YtpaikolnampcfaaGreatDoorMarkOfs
import Derived.Test.YtpaikolnampcfaaGreatDoorRef3Two
import Derived.Deep.RegionHeld3
import Derived.BigRegion
import Derived.Laws.BytesArg
import Derived.Lib.Strings
namespace Go.Proofs.YtpaikolnampcfaaGreatDoor
set_option maxRecDepth 100000
set_option maxHeartbeats 8000000
open Go.RowKit
def layN (D:DM) (p:Nat) (b:List Int):Nat→Int × DM
 | 0=>(0,D)
 | n+1=>if(layN D p b n).1≠0 then layN D p b n else if n % 2=0 then(layN D p b n).2.write ((p+n / 2:Nat):Int) b else(layN D p b n).2.sync
section
variable {D : DM} {p : Nat} {b : List Int}
theorem layN_even {n:Nat} (h:(layN D p b n).1=0) (hn:n % 2=0):layN D p b (n+1)=(layN D p b n).2.write ((p+n / 2:Nat):Int) b:=by
 conv=>lhs;unfold layN
 rw [if_neg (fun e=>e h),if_pos hn]
theorem layN_odd {n:Nat} (h:(layN D p b n).1=0) (hn:n % 2=1):layN D p b (n+1)=(layN D p b n).2.sync:=by
 conv=>lhs;unfold layN
 rw [if_neg (fun e=>e h),if_neg (by omega)]
theorem layN_stop {n:Nat} (h:(layN D p b n).1≠0): ∀k,layN D p b (n+k)=layN D p b n
 | 0=>rfl
 | k+1=>by
   have h1:=layN_stop h k
   rw [← Nat.add_assoc]
   conv=>lhs;unfold layN
   rw [h1,if_pos h]
theorem layN_all :layP D p b=layN D p b 4:=by
 have e0:layN D p b 0=(0,D):=rfl
 have e1:layN D p b 1=D.write (p:Int) b:=layN_even (n:=0) rfl rfl
 by_cases h1:(D.write (p:Int) b).1=0
 · have e2:layN D p b 2=(D.write (p:Int) b).2.sync:=by
    have:=layN_odd (D:=D) (p:=p) (b:=b) (n:=1) (by rw [e1];exact h1) rfl
    rw [e1]at this
    exact this
   have hs:stowD D p b=(D.write (p:Int) b).2.sync:=by unfold stowD;rw [if_neg (fun e=>e h1)]
   by_cases h2:((D.write (p:Int) b).2.sync).1=0
   · have e3:layN D p b 3=((D.write (p:Int) b).2.sync).2.write ((p:Int)+1) b:=by
      have:=layN_even (D:=D) (p:=p) (b:=b) (n:=2) (by rw [e2];exact h2) rfl
      rw [e2]at this
      exact this
     unfold layP
     rw [hs,if_neg (fun e=>e h2)]
     unfold stowD
     by_cases h3:(((D.write (p:Int) b).2.sync).2.write ((p:Int)+1) b).1=0
     · rw [if_neg (fun e=>e h3)]
       have:=layN_odd (D:=D) (p:=p) (b:=b) (n:=3) (by rw [e3];exact h3) rfl
       rw [e3]at this
       exact this.symm
     · rw [if_pos h3, ← e3]
       exact(layN_stop (n:=3) (by rw [e3];exact h3) 1).symm
   · unfold layP
     rw [hs,if_pos h2, ← e2]
     exact(layN_stop (n:=2) (by rw [e2];exact h2) 2).symm
 · have hs:stowD D p b=D.write (p:Int) b:=by unfold stowD;rw [if_pos h1]
   unfold layP
   rw [hs,if_pos h1, ← e1]
   exact(layN_stop (n:=1) (by rw [e1];exact h1) 3).symm
theorem layN_last {n:Nat} (h:(layN D p b n).1≠0) (hn:n≤4):layP D p b=layN D p b n:=by
 rw [layN_all]
 have:=layN_stop h (4 - n)
 rwa [Nat.add_sub_cancel' hn]at this
theorem few_layN {q:Nat} (hF:D.Few q): ∀n,(layN D p b n).2.Few (q+n)
 | 0=>hF
 | n+1=>by
   have h1:=few_layN hF n
   unfold layN
   split
   · exact fewUp h1 (by omega)
   · split
     · exact h1.write _ b
     · exact fewSync h1
end
structure DeedK where
 what:Int
 k:Int
 m:MarkV
 n:Int
 torn:Int
 part:Int
 A:Option Addr
 bs:List Int
 c:Nat
def DeedK.cells (x:DeedK):List Value:= [.int .i64 x.what,.int .i64 x.k,.int .i64 x.m.ver,.int .i64 x.m.idx,.int .i64 x.m.term,.int .i64 x.m.kind,.int .i64 x.m.void,.int .i64 x.n,.int .i64 x.torn,.int .i64 x.part,.slice x.A x.bs.length x.c]
structure DeedK.ok (w:World) (x:DeedK):Prop where
 bytes:BytesAt w x.A x.bs
 nil:x.A=none→x.c=0
 len:x.bs.length≤140737488351232
 n:x.n≤9223372036854775807
 k:wfK x.k
 old:x.bs≠ []→ ∀a,x.A=some a→a.block < w.heap.size
theorem DeedK.ok.below {w w':World} {x:DeedK} (h:x.ok w) (hb:Below w.heap.size w w'):x.ok w':=⟨h.bytes.below hb,h.nil,h.len,h.n,h.k,fun hne a e=>Nat.lt_of_lt_of_le (h.old hne a e) hb.size⟩
def DeedsAt6 (w:World) (A:Option Addr) (l:List DeedK):Prop:=
 (∀x∈l,x.ok w)∧(l≠ []→ ∃b off,A=some ⟨b,off,none⟩∧ ∀i x,l[i]? =some x→ ∀j v,x.cells[j]? =some v→w.cell? ⟨b,off+i * 11+j,none⟩=some v)
theorem DeedsAt6.below {w w':World} {A:Option Addr} {l:List DeedK} (h:DeedsAt6 w A l) (hb:Below w.heap.size w w'):DeedsAt6 w' A l:=
 ⟨fun p hp=>(h.1 p hp).below hb,fun hne=>by
  obtain⟨b,off,e,hc⟩:=h.2 hne
  exact⟨b,off,e,fun i p hp j v hv=>cell_below (hc i p hp j v hv) hb⟩⟩
def DM.at' (D:DM) (x:DeedK):Int:=x.n % (D.cells.length:Int)
def DM.deedK (D:DM) (x:DeedK):DM:=
 if x.what % 10=0 then(formatK D).2 else if x.what % 10=1∨x.what % 10=2 then(putK D x.k x.m).2 else if x.what % 10=3 then D else if x.what % 10=4 then(openK D x.k).2 else if x.what % 10=5 then D.arm x.n
 else if x.what % 10=6 then(D.crash.2.wake x.n x.torn x.part).2 else if x.what % 10=7 then(D.wipe (D.at' x)).2 else if x.what % 10=8 then(D.rot (D.at' x) x.torn (x.part % 4294967296).toNat).2 else(D.write (D.at' x) x.bs).2.sync.2
theorem few_deedK {D:DM} {q:Nat} (h:D.Few q) (x:DeedK):(D.deedK x).Few (q+8):=by
 unfold DM.deedK
 split
 · exact few_formatK h
 · split
   · exact fewUp (few_putK h _ _) (by omega)
   · split
     · exact fewUp h (by omega)
     · split
       · exact fewUp (few_openK h _) (by omega)
       · split
         · exact fewUp (few_arm h _) (by omega)
         · split
           · exact fewUp (few_woken h _ _ _) (by omega)
           · split
             · exact fewUp (few_wipe h _) (by omega)
             · split
               · exact fewUp (few_rot h _ _ _) (by omega)
               · exact fewUp (fewSync (h.write _ _)) (by omega)
open Go.RowKit
theorem RefN.bytes2 {lo:Nat} {w:World} {h:Nat} {bs:List Int} (k:RefN lo w h bs): ∃X cap,w.cell? ⟨h,0,none⟩=some (.slice X bs.length cap)∧BytesAt w X bs∧bs.length≤cap∧cap≤9223372036854775807:=by
 obtain⟨T,m,⟨bv,bs',sp,k1,_,hs⟩,_,_⟩:=k
 cases sp with
 | true=>simp at hs
 | false=>
   obtain rfl:bs=bs':=by simpa using hs
   obtain⟨X,cap,rfl,h1,h2⟩:=own_slice k1.own
   exact⟨X,cap,k1.blk.cell 0,own_reads k1.own k1.bd,h1,by unfold maxLen at h2;omega⟩
theorem rblock_at (W:World) (k:Int) (m:MarkV) (hm:m.right) (hk:sortK k):
 Calls Tryz.prog 27 #[.int .i64 k,m.val] W fun e w'=> ∃g cap,e= .returned (.slice (some ⟨g,0,none⟩) 256 cap)∧BytesAt w' (some ⟨g,0,none⟩) (sealB (m.unit k))∧W.heap.size≤g∧g < w'.heap.size∧Below W.heap.size W w':=by
 obtain⟨b1,b2,b3⟩:=known_bd hm.2.2
 have hr:=mark_right hm hk
 have hbx:=below_new W (.cells #[.int .i64 m.ver,.int .i64 m.idx,.int .i64 m.term,.int .i64 m.kind,.int .i64 m.void] 26)
 have hB:=BlockIs.made W 26 #[.int .i64 m.ver,.int .i64 m.idx,.int .i64 m.term,.int .i64 m.kind,.int .i64 m.void]
 have hbw:=below_new (W.alloc (.cells #[.int .i64 m.ver,.int .i64 m.idx,.int .i64 m.term,.int .i64 m.kind,.int .i64 m.void] 26)) (.cells #[.slice none 0 0,.bool false] 124)
 have hN:=RefN.new (W.alloc (.cells #[.int .i64 m.ver,.int .i64 m.idx,.int .i64 m.term,.int .i64 m.kind,.int .i64 m.void] 26))
 have hb2:=hbx.trans (hbw.mono hbx.size)
 have hB2:=hB.below hbw hB.lt
 rw [World.size_alloc]at hN
 have Hs:=qh (show(([]++le (6:Int).toNat m.idx)++le (6:Int).toNat m.term)++le (1:Int).toNat m.kind++le (6:Int).toNat m.void=(m.unit k).body by show _=le 6 m.idx++(le 6 m.term++(le 1 m.kind++le 6 m.void));simp [List.append_assoc])
 have HSl:=qh (fun(w:World) (A:Option Addr) (c:Nat) (hb:BytesAt w A (m.unit k).body) (hc:(m.unit k).body.length≤c) (hmx:c≤9223372036854775807)=>show Calls Tryz.prog 28 #[.agg #[.int .i64 k,.int .i64 m.ver,.slice A (m.unit k).body.length c]] w (fun e w'=> ∃g cap,e= .returned (.tuple #[.slice (some ⟨g,0,none⟩) 256 cap,.int .i64 0])∧BytesAt w' (some ⟨g,0,none⟩) (sealB (m.unit k))∧w.heap.size≤g∧g < w'.heap.size∧Below w.heap.size w w')from by
  refine(rseal_any w (m.unit k) A c hb hc hmx).mono fun e w' ⟨v,h1,h2,h3⟩=> ?_
  rw [show sealR (m.unit k)=(sealB (m.unit k),0) by unfold sealR;rw [if_pos hr]]at h1 h2
  simp only at h1 h2
  rw [seal_len hr.2.2]at h2
  obtain⟨g,cap,rfl,_,_,hg,hgl,hz⟩:=own_at h2 (by decide) (seal_bd hr (mark_bd m k))
  exact⟨g,cap,h1,hz,hg,hgl,h3⟩)
 have Hml:=qh (mark_len m k)
 obtain⟨sb,hsb⟩: ∃sb,sealB (m.unit k)=sb:=⟨_,rfl⟩
 obtain⟨bd,hbd⟩: ∃bd,(m.unit k).body=bd:=⟨_,rfl⟩
 rw [hsb,hbd]at HSl
 rw [hbd]at Hs Hml
 rw [hsb]
 clear hsb hbd
 have t6:top 6=1099511627776:=rfl
 have t1:top 1=255:=rfl
 have P1:=qh (hN.put 6 m.idx (by decide) b1.1 (by rw [t6];exact b1.2) (by simp) (by decide))
 have P2:=qh (fun w h bs (h1:RefN (W.heap.size+1) w h bs) (hl:bs.length≤1000)=>h1.put 6 m.term (by decide) b2.1 (by rw [t6];exact b2.2) hl (by decide))
 have P3:=qh (fun w h bs (h1:RefN (W.heap.size+1) w h bs) (hl:bs.length≤1000)=>h1.put 1 m.kind (by decide) b3.1 (by rw [t1];exact Int.le_trans b3.2 (by decide)) hl (by decide))
 have P4:=qh (fun w h bs (h1:RefN (W.heap.size+1) w h bs) (hl:bs.length≤1000)=>h1.put 6 m.void (by decide) hm.2.1.1 (by rw [t6];exact hm.2.1.2) hl (by decide))
 obtain⟨w2,hw2⟩: ∃w2,(W.alloc (.cells #[.int .i64 m.ver,.int .i64 m.idx,.int .i64 m.term,.int .i64 m.kind,.int .i64 m.void] 26)).alloc (.cells #[.slice none 0 0,.bool false] 124)=w2:=⟨_,rfl⟩
 rw [hw2]at hb2 hB2 P1 hN
 have Hw2:=qh hw2
 have HI:=qh (And.intro hB2 hb2)
 have hlt:W.heap.size < W.heap.size+1:=Nat.lt_succ_self _
 obtain⟨⟨c0,c1,c2,c3,c4⟩,_⟩:=cells_five hB2
 unfold MarkV.val
 clear hbx hB hbw hN hb2 hB2 hw2 hm hk hr b1 b2 b3
 go_enter Tryz.func27,Tryz.ntmps27
 rw [← Hw2.out]at c0 c1 c2 c3 c4
 go_wp2_with fail
 rw [Hw2.out]
 refine P1.out.mono ?_
 rintro e w3 ⟨rfl,n3,b3⟩
 have B3:=qh (HI.out.1.below b3 hlt)
 have Z3:=qh (HI.out.2.trans (b3.mono (Nat.le_succ _)))
 have Q:=qh (P2.out w3 _ _ n3 (by rw [List.length_append,le_len];decide))
 clear n3 b3 P1 P2 c0 c1 c2 c3 c4
 obtain⟨⟨c0,c1,c2,c3,c4⟩,_⟩:=cells_five B3.out
 go_wp2_with fail
 refine Q.out.mono ?_
 rintro e w4 ⟨rfl,n4,b4⟩
 have B4:=qh (B3.out.below b4 hlt)
 have Z4:=qh (Z3.out.trans (b4.mono (Nat.le_succ _)))
 have Q2:=qh (P3.out w4 _ _ n4 (by rw [List.length_append,List.length_append,le_len,le_len];decide))
 clear n4 b4 Q P3 c0 c1 c2 c3 c4
 obtain⟨⟨c0,c1,c2,c3,c4⟩,_⟩:=cells_five B4.out
 go_wp2_with fail
 refine Q2.out.mono ?_
 rintro e w5 ⟨rfl,n5,b5⟩
 have B5:=qh (B4.out.below b5 hlt)
 have Z5:=qh (Z4.out.trans (b5.mono (Nat.le_succ _)))
 have Q3:=qh (P4.out w5 _ _ n5 (by rw [List.length_append,List.length_append,List.length_append,le_len,le_len,le_len];decide))
 clear n5 b5 Q2 P4 c0 c1 c2 c3 c4
 obtain⟨⟨c0,c1,c2,c3,c4⟩,_⟩:=cells_five B5.out
 go_wp2_with fail
 refine Q3.out.mono ?_
 rintro e w6 ⟨rfl,n6,b6⟩
 have B6:=qh (B5.out.below b6 hlt)
 have Z6:=qh (Z5.out.trans (b6.mono (Nat.le_succ _)))
 rw [Hs.out]at n6
 obtain⟨X6,cap6,d6,z6,hc6,hm6⟩:=n6.bytes2
 have HS:=qh (fun w (h:w=w6∨w=w6.drew)=>HSl.out w X6 cap6 (by rcases h with rfl | rfl<;>exact z6) hc6 hm6)
 clear n6 b6 Q3 HSl z6 hc6 hm6 c0 c1 c2 c3 c4
 obtain⟨⟨c0,_⟩,_⟩:=cells_five B6.out
 go_wp2_with fail
 go_region_held3 (fun w'=>w'.cell? ⟨W.heap.size,0,none⟩=some (.int .i64 m.ver)∧w'.cell? ⟨W.heap.size+1,0,none⟩=some (.slice X6 bd.length cap6)) (first | exact⟨c0,d6⟩ | exact⟨k0,k6⟩) (first
  | (go_at_call 28;(first | refine(HS.out w6 (.inl rfl)).mono ?_ | refine(HS.out w6.drew (.inr rfl)).mono ?_);rintro e w7 ⟨g,cap,rfl,hz,hg,hgl,hb7⟩;have hb8:Below w6.heap.size w6 w7:=(by first | exact hb7 | exact undrew hb7);have Ho:=qh (And.intro hz (And.intro (show w6.heap.size≤g from hg) (And.intro hgl hb8)));have k0:=cell_below c0 hb8;have k6:=cell_below d6 hb8;clear hz hg hgl hb7 hb8)
  | fail)
 all_goals
  go_wp2_with fail
  go_ret
  exact⟨g,cap,rfl,Ho.out.1,Nat.le_trans Z6.out.size Ho.out.2.1,Ho.out.2.2.1,Z6.out.trans (Ho.out.2.2.2.mono Z6.out.size)⟩
open Go.RowKit
structure LayS (w1:World) (T:Nat→Prop) (h:Nat) (D:DM) (p:Nat) (sb:List Int) (gm:Nat) (ms:Array Value) (wx:World) (j:Nat):Prop where
 rf:Ref3 w1 T h (layN D p sb j).2 wx
 ok:(layN D p sb j).1=0
 box:BlockIs wx gm 26 ms
 lt:gm < w1.heap.size
 off: ¬T gm
 foot: ∀i,T i→i < w1.heap.size
section
variable {w1 wx w2 : World} {T : Nat → Prop} {h : Nat} {D : DM} {p : Nat} {sb : List Int} {gm : Nat} {ms : Array Value} {j : Nat}
theorem LayS.gone (k:LayS w1 T h D p sb gm ms wx j): ¬grow T w1 wx gm:=fun e=>by
 rcases e with e | e
 · exact k.off e
 · have:=k.lt;omega
theorem LayS.step (k:LayS w1 T h D p sb gm ms wx j) (b:Ref3 wx (grow T w1 wx) h (layN D p sb (j+1)).2 w2):Ref3 w1 T h (layN D p sb (j+1)).2 w2:=k.rf.trans b k.foot
theorem LayS.next (k:LayS w1 T h D p sb gm ms wx j) (b:Ref3 wx (grow T w1 wx) h (layN D p sb (j+1)).2 w2) (h0:(layN D p sb (j+1)).1=0):LayS w1 T h D p sb gm ms w2 (j+1):=
 ⟨k.step b,h0,(b.block k.box k.gone).1,k.lt,k.off,k.foot⟩
end
section
variable {w : World} {T : Nat → Prop} {h : Nat} {D : DM}
theorem lay_write {w1 wx W:World} {p:Nat} {sb:List Int} {gm j q:Nat} {ms:Array Value} (k:LayS w1 T h D p sb gm ms wx j) (hF:D.Few q) (hq:q≤998000) (hj:j < 4) (he:j % 2=0) (hb:Below wx.heap.size wx W) (g cap:Nat) (hz:BytesAt W (some ⟨g,0,none⟩) sb) (hg:wx.heap.size≤g) (hl:sb.length=256) (n:Int) (hn:n=((p+j / 2:Nat):Int)):
 Calls Tryz.prog 59 #[.pointer (some ⟨h,0,none⟩),.int .i64 n,.slice (some ⟨g,0,none⟩) 256 cap] W fun e w'=>e= .returned (.int .i64 (layN D p sb (j+1)).1)∧Ref3 wx (grow T w1 wx) h (layN D p sb (j+1)).2 w':=by
 subst hn
 have hft: ∀i,grow T w1 wx i→i < wx.heap.size:=fun i hi=>k.rf.at_.foot i hi
 have h1:=write3_any (k.rf.at_.below hb) (fewUp (few_layN hF j) (by omega)) ((p+j / 2:Nat):Int) (some ⟨g,0,none⟩) sb cap hz (fun _ a e=>by cases e;exact fun ht=>by have:=hft _ ht;simp only at this;omega) (by omega)
 rw [hl]at h1
 refine h1.mono fun e w' ⟨e1,e2⟩=>⟨by rw [layN_even k.ok he];exact e1,?_⟩
 rw [layN_even k.ok he]
 exact e2.past hft hb
theorem lay_sync {w1 wx W:World} {p:Nat} {sb:List Int} {gm j q:Nat} {ms:Array Value} (k:LayS w1 T h D p sb gm ms wx j) (hF:D.Few q) (hq:q≤998000) (hj:j < 4) (he:j % 2=1) (hb:Below wx.heap.size wx W):
 Calls Tryz.prog 61 #[.pointer (some ⟨h,0,none⟩)] W fun e w'=>e= .returned (.int .i64 (layN D p sb (j+1)).1)∧Ref3 wx (grow T w1 wx) h (layN D p sb (j+1)).2 w':=by
 have hft: ∀i,grow T w1 wx i→i < wx.heap.size:=fun i hi=>k.rf.at_.foot i hi
 refine(sync3_any (k.rf.at_.below hb) (fewUp (few_layN hF j) (by omega))).mono fun e w' ⟨e1,e2⟩=>⟨by rw [layN_odd k.ok he];exact e1,?_⟩
 rw [layN_odd k.ok he]
 exact e2.past hft hb
theorem rlay_any (k:RefAt3 w T h D) {q:Nat} (hF:D.Few q) (hq:q≤998000) (kk:Int) (hk:sortK kk) (m:MarkV) (hm:m.right):
 Calls Tryz.prog 93 #[.pointer (some ⟨h,0,none⟩),.int .i64 kk,m.val] w fun e w'=>e= .returned (.int .i64 (layK D kk m).1)∧Ref3 w T h (layK D kk m).2 w':=by
 have hbx:=below_new w (.cells #[.int .i64 m.ver,.int .i64 m.idx,.int .i64 m.term,.int .i64 m.kind,.int .i64 m.void] 26)
 have hB:=BlockIs.made w 26 #[.int .i64 m.ver,.int .i64 m.idx,.int .i64 m.term,.int .i64 m.kind,.int .i64 m.void]
 have HP:=qh (fun W=>rplace_any W kk)
 rw [if_pos hk]at HP
 have HS:=qh (fun W=>rblock_at W kk m hm hk)
 have Hl:=qh (seal_len (mark_right hm hk).2.2)
 obtain⟨sb,hsb⟩: ∃sb,sealB (m.unit kk)=sb:=⟨_,rfl⟩
 obtain⟨p,hp⟩: ∃p,placeK kk=p:=⟨_,rfl⟩
 have Hly:Hid (layK D kk m=layP D p sb):=qh (by unfold layK;rw [hsb,hp])
 rw [hsb]at HS Hl
 rw [hp]at HP
 have hp9:p≤4:=by rw [← hp];unfold placeK;split<;>decide
 rw [Hly.out]
 have Hb0:=qh (And.intro hbx (fun j hj=>k.foot j hj: ∀j,T j→j < w.heap.size))
 have HF:=qh (And.intro hF hq)
 have S0:Hid (LayS (w.alloc (.cells #[.int .i64 m.ver,.int .i64 m.idx,.int .i64 m.term,.int .i64 m.kind,.int .i64 m.void] 26)) T h D p sb w.heap.size #[.int .i64 m.ver,.int .i64 m.idx,.int .i64 m.term,.int .i64 m.kind,.int .i64 m.void] (w.alloc (.cells #[.int .i64 m.ver,.int .i64 m.idx,.int .i64 m.term,.int .i64 m.kind,.int .i64 m.void] 26)) 0):=qh ⟨Ref3.same (k.below hbx),rfl,hB,hB.lt,fun ht=>by have:=k.foot _ ht;omega,fun i hi=>Nat.lt_of_lt_of_le (k.foot i hi) hbx.size⟩
 have Hend:=qh (fun(D':DM) (w2:World) (a:Ref3 (w.alloc (.cells #[.int .i64 m.ver,.int .i64 m.idx,.int .i64 m.term,.int .i64 m.kind,.int .i64 m.void] 26)) T h D' w2)=>Ref3.past Hb0.out.2 Hb0.out.1 a)
 unfold MarkV.val at *
 obtain⟨v1,i1,t1,k1,o1⟩:=m
 simp only at *
 obtain⟨w1,hw1⟩: ∃w1,w.alloc (.cells #[.int .i64 v1,.int .i64 i1,.int .i64 t1,.int .i64 k1,.int .i64 o1] 26)=w1:=⟨_,rfl⟩
 rw [hw1]at S0 Hend
 have Hw1:=qh hw1
 clear hbx hB k hF hq hk hm hsb hp Hly Hb0 hw1
 go_enter Tryz.func93,Tryz.ntmps93
 go_wp2_with fail
 rw [Hw1.out]
 go_loopg [7] 4 (fun gk i wx=> ∃(j:Nat) (z:Int),gk=4 - j∧j≤4∧i= .int .i64 z∧Hid (z=(j:Int))∧Hid (LayS w1 T h D p sb w.heap.size #[.int .i64 v1,.int .i64 i1,.int .i64 t1,.int .i64 k1,.int .i64 o1] wx j))
 case atStart=>exact⟨0,0,rfl,by decide,rfl,qh rfl,S0⟩
 case round=>
  obtain⟨j,z,hgk,hj,rfl,hz,hS⟩:=hrel
  have Hgk:=qh hgk
  clear hgk S0
  by_cases hlt:j < 4
  · have HWr:=qh (fun W hb g cap hz hg he n hn=>lay_write (W:=W) hS.out HF.out.1 HF.out.2 hlt he hb g cap hz hg Hl.out n hn)
    have HSy:=qh (fun W hb he=>lay_sync (W:=W) hS.out HF.out.1 HF.out.2 hlt he hb)
    have HNx:=qh (fun w2 b h0=>LayS.next (w2:=w2) hS.out b h0)
    have HSp:=qh (fun w2 b=>LayS.step (w2:=w2) hS.out b)
    have HLs:=qh (fun(h0:(layN D p sb (j+1)).1≠0)=>layN_last h0 (by omega))
    obtain⟨r,hr⟩: ∃r,layN D p sb (j+1)=r:=⟨_,rfl⟩
    rw [hr]at HWr HSy HNx HSp HLs
    obtain⟨e1,D1⟩:=r
    simp only at HWr HSy HNx HSp HLs
    obtain⟨⟨c0,c1,c2,c3,c4⟩,_⟩:=cells_five hS.out.box
    clear hr
    obtain rfl | rfl | rfl | rfl:j=0∨j=1∨j=2∨j=3:=by omega
    · obtain rfl:z=0:=hz.out
      have Hw:Hid (IntKind.i64.wrap ((p:Int)+IntKind.i64.wrap 0)=((p+0 / 2:Nat):Int)):=qh (by
       rw [show IntKind.i64.wrap 0=0 from by decide,IntWalk.i64_in _ (by omega)];omega)
      go_wp2_with fail
      go_region_held3 (fun w'=>w'.cell? ⟨w.heap.size,0,none⟩=some (.int .i64 v1)∧w'.cell? ⟨w.heap.size,1,none⟩=some (.int .i64 i1)∧w'.cell? ⟨w.heap.size,2,none⟩=some (.int .i64 t1)∧w'.cell? ⟨w.heap.size,3,none⟩=some (.int .i64 k1)∧w'.cell? ⟨w.heap.size,4,none⟩=some (.int .i64 o1)) (first | exact⟨c0,c1,c2,c3,c4⟩ | exact SB | exact SC) (first
       | (go_at_call 43;refine(HP.out _).mono ?_;rintro e wP ⟨rfl,hw⟩;subst hw)
       | (go_at_call 27;refine(HS.out _).mono ?_;rintro e wB ⟨g,cap,rfl,hzB,hgB,hgl,hb⟩;have hbB:Below wr.heap.size wr wB:=(by first | exact hb | exact undrew hb);have SB:=(show wB.cell? ⟨w.heap.size,0,none⟩=some (.int .i64 v1)∧wB.cell? ⟨w.heap.size,1,none⟩=some (.int .i64 i1)∧wB.cell? ⟨w.heap.size,2,none⟩=some (.int .i64 t1)∧wB.cell? ⟨w.heap.size,3,none⟩=some (.int .i64 k1)∧wB.cell? ⟨w.heap.size,4,none⟩=some (.int .i64 o1)from⟨cell_below c0 hbB,cell_below c1 hbB,cell_below c2 hbB,cell_below c3 hbB,cell_below c4 hbB⟩);have HB:=qh (And.intro hbB (And.intro hzB (show wr.heap.size≤g from hgB)));clear hb hzB hgB hgl)
       | (go_at_call 59;(first | refine(HWr.out wB HB.out.1 g cap HB.out.2.1 HB.out.2.2 (by decide) _ Hw.out).mono ?_ | refine(HWr.out wB.drew HB.out.1.drew g cap HB.out.2.1 HB.out.2.2 (by decide) _ Hw.out).mono ?_);rintro e w2 ⟨rfl,hR⟩;have SF:=qh hR;have SC:=(show w2.cell? ⟨w.heap.size,0,none⟩=some (.int .i64 v1)∧w2.cell? ⟨w.heap.size,1,none⟩=some (.int .i64 i1)∧w2.cell? ⟨w.heap.size,2,none⟩=some (.int .i64 t1)∧w2.cell? ⟨w.heap.size,3,none⟩=some (.int .i64 k1)∧w2.cell? ⟨w.heap.size,4,none⟩=some (.int .i64 o1)from⟨(hR.block hS.out.box hS.out.gone).1.cell 0,(hR.block hS.out.box hS.out.gone).1.cell 1,(hR.block hS.out.box hS.out.gone).1.cell 2,(hR.block hS.out.box hS.out.gone).1.cell 3,(hR.block hS.out.box hS.out.gone).1.cell 4⟩);clear hR)
       | fail)
      all_goals
       clear c0 c1 c2 c3 c4 SB SC HB
       have SF:=qh SF.out
       by_cases he1:e1=0
       · subst he1
         go_wp2_with fail
         go_roundg (4 - (0+1))
         case measure=>rw [Hgk.out];omega
         case rel=>exact⟨0+1,0+1,rfl,by decide,by go_num,qh (by decide),qh (HNx.out _ SF.out (by first | rfl | trivial))⟩
       · have hne:(e1 != 0)=true:=by simpa using he1
         have He:=qh he1
         clear he1
         go_wp2_with fail
         go_ret
         exact⟨by rw [HLs.out He.out];rfl,by rw [HLs.out He.out];exact Hend.out _ _ (HSp.out _ SF.out)⟩
    · obtain rfl:z=1:=hz.out
      clear c0 c1 c2 c3 c4
      go_wp2_with fail
      refine(HSy.out wr (Below.refl _ _) (by decide)).mono ?_
      rintro e w2 ⟨rfl,hR⟩
      have SF:=qh hR
      clear hR HSy HWr
      by_cases he1:e1=0
      · subst he1
        go_wp2_with fail
        go_roundg (4 - (1+1))
        case measure=>rw [Hgk.out];omega
        case rel=>exact⟨1+1,1+1,rfl,by decide,by go_num,qh (by decide),qh (HNx.out _ SF.out (by first | rfl | trivial))⟩
      · have hne:(e1 != 0)=true:=by simpa using he1
        have He:=qh he1
        clear he1
        go_wp2_with fail
        go_ret
        exact⟨by rw [HLs.out He.out];rfl,by rw [HLs.out He.out];exact Hend.out _ _ (HSp.out _ SF.out)⟩
    · obtain rfl:z=2:=hz.out
      have Hw:Hid (IntKind.i64.wrap ((p:Int)+IntKind.i64.wrap 1)=((p+2 / 2:Nat):Int)):=qh (by
       rw [show IntKind.i64.wrap 1=1 from by decide,IntWalk.i64_in _ (by omega)];omega)
      go_wp2_with fail
      go_region_held3 (fun w'=>w'.cell? ⟨w.heap.size,0,none⟩=some (.int .i64 v1)∧w'.cell? ⟨w.heap.size,1,none⟩=some (.int .i64 i1)∧w'.cell? ⟨w.heap.size,2,none⟩=some (.int .i64 t1)∧w'.cell? ⟨w.heap.size,3,none⟩=some (.int .i64 k1)∧w'.cell? ⟨w.heap.size,4,none⟩=some (.int .i64 o1)) (first | exact⟨c0,c1,c2,c3,c4⟩ | exact SB | exact SC) (first
       | (go_at_call 43;refine(HP.out _).mono ?_;rintro e wP ⟨rfl,hw⟩;subst hw)
       | (go_at_call 27;refine(HS.out _).mono ?_;rintro e wB ⟨g,cap,rfl,hzB,hgB,hgl,hb⟩;have hbB:Below wr.heap.size wr wB:=(by first | exact hb | exact undrew hb);have SB:=(show wB.cell? ⟨w.heap.size,0,none⟩=some (.int .i64 v1)∧wB.cell? ⟨w.heap.size,1,none⟩=some (.int .i64 i1)∧wB.cell? ⟨w.heap.size,2,none⟩=some (.int .i64 t1)∧wB.cell? ⟨w.heap.size,3,none⟩=some (.int .i64 k1)∧wB.cell? ⟨w.heap.size,4,none⟩=some (.int .i64 o1)from⟨cell_below c0 hbB,cell_below c1 hbB,cell_below c2 hbB,cell_below c3 hbB,cell_below c4 hbB⟩);have HB:=qh (And.intro hbB (And.intro hzB (show wr.heap.size≤g from hgB)));clear hb hzB hgB hgl)
       | (go_at_call 59;(first | refine(HWr.out wB HB.out.1 g cap HB.out.2.1 HB.out.2.2 (by decide) _ Hw.out).mono ?_ | refine(HWr.out wB.drew HB.out.1.drew g cap HB.out.2.1 HB.out.2.2 (by decide) _ Hw.out).mono ?_);rintro e w2 ⟨rfl,hR⟩;have SF:=qh hR;have SC:=(show w2.cell? ⟨w.heap.size,0,none⟩=some (.int .i64 v1)∧w2.cell? ⟨w.heap.size,1,none⟩=some (.int .i64 i1)∧w2.cell? ⟨w.heap.size,2,none⟩=some (.int .i64 t1)∧w2.cell? ⟨w.heap.size,3,none⟩=some (.int .i64 k1)∧w2.cell? ⟨w.heap.size,4,none⟩=some (.int .i64 o1)from⟨(hR.block hS.out.box hS.out.gone).1.cell 0,(hR.block hS.out.box hS.out.gone).1.cell 1,(hR.block hS.out.box hS.out.gone).1.cell 2,(hR.block hS.out.box hS.out.gone).1.cell 3,(hR.block hS.out.box hS.out.gone).1.cell 4⟩);clear hR)
       | fail)
      all_goals
       clear c0 c1 c2 c3 c4 SB SC HB
       have SF:=qh SF.out
       by_cases he1:e1=0
       · subst he1
         go_wp2_with fail
         go_roundg (4 - (2+1))
         case measure=>rw [Hgk.out];omega
         case rel=>exact⟨2+1,2+1,rfl,by decide,by go_num,qh (by decide),qh (HNx.out _ SF.out (by first | rfl | trivial))⟩
       · have hne:(e1 != 0)=true:=by simpa using he1
         have He:=qh he1
         clear he1
         go_wp2_with fail
         go_ret
         exact⟨by rw [HLs.out He.out];rfl,by rw [HLs.out He.out];exact Hend.out _ _ (HSp.out _ SF.out)⟩
    · obtain rfl:z=3:=hz.out
      clear c0 c1 c2 c3 c4
      go_wp2_with fail
      refine(HSy.out wr (Below.refl _ _) (by decide)).mono ?_
      rintro e w2 ⟨rfl,hR⟩
      have SF:=qh hR
      clear hR HSy HWr
      by_cases he1:e1=0
      · subst he1
        go_wp2_with fail
        go_roundg (4 - (3+1))
        case measure=>rw [Hgk.out];omega
        case rel=>exact⟨3+1,3+1,rfl,by decide,by go_num,qh (by decide),qh (HNx.out _ SF.out (by first | rfl | trivial))⟩
      · have hne:(e1 != 0)=true:=by simpa using he1
        have He:=qh he1
        clear he1
        go_wp2_with fail
        go_ret
        exact⟨by rw [HLs.out He.out];rfl,by rw [HLs.out He.out];exact Hend.out _ _ (HSp.out _ SF.out)⟩
  · obtain rfl:j=4:=by omega
    obtain rfl:z=4:=by have:=hz.out;omega
    have Hfin:Hid (layP D p sb=layN D p sb 4):=qh layN_all
    go_wp2_with fail
    go_ret
    exact⟨by rw [Hfin.out,hS.out.ok];rfl,by rw [Hfin.out];exact Hend.out _ _ hS.out.rf⟩
end
open Go.RowKit
section
variable {w : World} {T : Nat → Prop} {h : Nat} {D : DM}
theorem rformat_any (k:RefAt3 w T h D) {q:Nat} (hF:D.Few q) (hq:q≤990000):
 Calls Tryz.prog 50 #[.pointer (some ⟨h,0,none⟩)] w fun e w'=>e= .returned (.int .i64 (formatK D).1)∧Ref3 w T h (formatK D).2 w':=by
 have HL1:=qh (rlay_any k hF (by omega) 2 (.inl rfl) noMark noMark_right)
 have HF1:=qh (few_layK hF 2 noMark)
 have Hfm:Hid (formatK D=if(layK D 2 noMark).1≠0 then layK D 2 noMark else layK (layK D 2 noMark).2 3 noMark):=qh rfl
 obtain⟨r,hr⟩: ∃r,layK D 2 noMark=r:=⟨_,rfl⟩
 rw [hr]at HL1 HF1 Hfm
 obtain⟨e1,D1⟩:=r
 simp only at HL1 HF1 Hfm
 rw [show noMark.val= .agg #[.int .i64 0,.int .i64 0,.int .i64 0,.int .i64 0,.int .i64 0]from rfl]at HL1
 have Hft:=qh k.foot
 clear hr k hF
 by_cases he:e1=0
 · subst he
   have Hf2:Hid (formatK D=layK D1 3 noMark):=qh (by rw [Hfm.out,if_neg (fun hn=>hn rfl)])
   rw [Hf2.out]
   go_enter Tryz.func50,Tryz.ntmps50
   go_wp2_with fail
   refine HL1.out.mono ?_
   rintro e w2 ⟨rfl,a⟩
   have A2:=qh a
   have hL2:=rlay_any a.at_ HF1.out (by omega) 3 (.inr rfl) noMark noMark_right
   rw [show noMark.val= .agg #[.int .i64 0,.int .i64 0,.int .i64 0,.int .i64 0,.int .i64 0]from rfl]at hL2
   have HL2:=qh hL2
   clear a hL2 HL1
   go_wp2_with fail
   refine HL2.out.mono ?_
   rintro e w3 ⟨rfl,b⟩
   have A3:=qh (A2.out.trans b Hft.out)
   clear b
   go_wp2_with fail
   go_ret
   exact⟨rfl,A3.out⟩
 · have hne:(e1 != 0)=true:=by simpa using he
   have Hf2:Hid (formatK D=(e1,D1)):=qh (by rw [Hfm.out,if_pos he])
   rw [Hf2.out]
   clear he
   go_enter Tryz.func50,Tryz.ntmps50
   go_wp2_with fail
   refine HL1.out.mono ?_
   rintro e w2 ⟨rfl,a⟩
   have A2:=qh a
   clear a HL1
   go_wp2_with fail
   go_ret
   exact⟨rfl,A2.out⟩
theorem rput_any (k:RefAt3 w T h D) {q:Nat} (hF:D.Few q) (hq:q≤990000) (kk:Int) (m:MarkV):
 Calls Tryz.prog 51 #[.pointer (some ⟨h,0,none⟩),.int .i64 kk,m.val] w fun e w'=>e= .returned (.int .i64 (putK D kk m).1)∧Ref3 w T h (putK D kk m).2 w':=by
 have hbx:=below_new w (.cells #[.int .i64 m.ver,.int .i64 m.idx,.int .i64 m.term,.int .i64 m.kind,.int .i64 m.void] 26)
 have hB:=BlockIs.made w 26 #[.int .i64 m.ver,.int .i64 m.idx,.int .i64 m.term,.int .i64 m.kind,.int .i64 m.void]
 have HP:=qh (fun W=>rplace_any W kk)
 have HR:=qh (fun w=>rkright_any w m)
 have HK:=qh k
 have HF:=qh (And.intro hF hq)
 have Hbx:=qh (And.intro hbx hB)
 by_cases hk:sortK kk
 · rw [if_pos hk]at HP
   have hp0: ¬(placeK kk:Int) < 0:=by omega
   obtain⟨p,hp⟩: ∃p:Int,(placeK kk:Int)=p:=⟨_,rfl⟩
   rw [hp]at HP hp0
   by_cases hm:m.right
   · have Hpt:Hid (putK D kk m=layK D kk m):=qh (by unfold putK;rw [if_pos ⟨hk,hm⟩])
     have HL:=qh (fun W (h1:Below w.heap.size w W)=>rlay_any (k.below h1) hF (by omega) kk hk m hm)
     rw [Hpt.out]
     rw [decide_eq_true hm]at HR
     unfold MarkV.val at *
     obtain⟨r,hr⟩: ∃r,layK D kk m=r:=⟨_,rfl⟩
     rw [hr]at HL ⊢
     obtain⟨v1,i1,t1,k1,o1⟩:=m
     simp only at *
     obtain⟨w1,hw1⟩: ∃w1,w.alloc (.cells #[.int .i64 v1,.int .i64 i1,.int .i64 t1,.int .i64 k1,.int .i64 o1] 26)=w1:=⟨_,rfl⟩
     rw [hw1]at hbx hB Hbx
     have Hw1:=qh hw1
     obtain⟨⟨c0,c1,c2,c3,c4⟩,_⟩:=cells_five hB
     clear hbx hB k hF hq hk hp hm hr Hpt hw1
     go_enter Tryz.func51,Tryz.ntmps51
     rw [← Hw1.out]at c0 c1 c2 c3 c4
     go_wp2_with fail
     rw [Hw1.out]
     refine(HP.out _).mono ?_
     rintro e w' ⟨rfl,hw⟩
     subst hw
     rw [Hw1.out]at c0 c1 c2 c3 c4
     go_wp2_with fail
     refine(HR.out _).mono ?_
     rintro e w2 ⟨rfl,hb2⟩
     have B2:=qh (Hbx.out.1.trans (hb2.mono Hbx.out.1.size))
     have HL2:=qh (HL.out w2 B2.out)
     clear c0 c1 c2 c3 c4
     obtain⟨⟨c0,c1,c2,c3,c4⟩,_⟩:=cells_five (Hbx.out.2.below hb2 Hbx.out.2.lt)
     clear hb2 HL
     go_wp2_with fail
     refine HL2.out.mono ?_
     rintro e w3 ⟨rfl,a⟩
     have A3:=qh (a.past HK.out.foot B2.out)
     clear a c0 c1 c2 c3 c4
     go_wp2_with fail
     go_ret
     exact⟨rfl,A3.out⟩
   · have Hpt:Hid (putK D kk m=(2,D)):=qh (by unfold putK;rw [if_neg (fun hn=>hm hn.2)])
     rw [Hpt.out]
     rw [decide_eq_false hm]at HR
     unfold MarkV.val at *
     obtain⟨v1,i1,t1,k1,o1⟩:=m
     simp only at *
     obtain⟨w1,hw1⟩: ∃w1,w.alloc (.cells #[.int .i64 v1,.int .i64 i1,.int .i64 t1,.int .i64 k1,.int .i64 o1] 26)=w1:=⟨_,rfl⟩
     rw [hw1]at hbx hB Hbx
     have Hw1:=qh hw1
     obtain⟨⟨c0,c1,c2,c3,c4⟩,_⟩:=cells_five hB
     clear hbx hB k hF hq hk hp hm Hpt hw1
     go_enter Tryz.func51,Tryz.ntmps51
     rw [← Hw1.out]at c0 c1 c2 c3 c4
     go_wp2_with fail
     rw [Hw1.out]
     refine(HP.out _).mono ?_
     rintro e w' ⟨rfl,hw⟩
     subst hw
     rw [Hw1.out]at c0 c1 c2 c3 c4
     go_wp2_with fail
     refine(HR.out _).mono ?_
     rintro e w2 ⟨rfl,hb2⟩
     have A3:=qh (Ref3.below HK.out (Hbx.out.1.trans (hb2.mono Hbx.out.1.size)))
     clear hb2 c0 c1 c2 c3 c4
     go_wp2_with fail
     go_ret
     exact⟨rfl,A3.out⟩
 · rw [if_neg hk]at HP
   have Hpt:Hid (putK D kk m=(2,D)):=qh (by unfold putK;rw [if_neg (fun hn=>hk hn.1)])
   rw [Hpt.out]
   unfold MarkV.val at *
   obtain⟨v1,i1,t1,k1,o1⟩:=m
   simp only at *
   clear hbx hB k hF hq hk Hpt
   go_enter Tryz.func51,Tryz.ntmps51
   go_wp2_with fail
   refine(HP.out _).mono ?_
   rintro e w' ⟨rfl,hw⟩
   subst hw
   go_wp2_with fail
   go_ret
   exact⟨rfl,Ref3.below HK.out Hbx.out.1⟩
end
open Go.RowKit
def bestR (D:DM) (k:Int):Nat→MarkV × Bool
 | 0=>(noMark,false)
 | n+1=>if(markB k (D.read ((placeK k:Int)+(n:Int))).1).2=0∧((bestR D k n).2=false∨(bestR D k n).1.ver < (markB k (D.read ((placeK k:Int)+(n:Int))).1).1.ver)then((markB k (D.read ((placeK k:Int)+(n:Int))).1).1,true)else bestR D k n
def seenR (D:DM) (k:Int) (j:Nat):Prop:= ∀i:Nat,i < j→(D.read ((placeK k:Int)+(i:Int))).2=0
theorem bestR_get {D:DM} {k:Int} (hk:sortK k) (h:seenR D k 2):getK D k=if(bestR D k 2).2=true then((bestR D k 2).1,0)else(noMark,10):=by
 have h0:=h 0 (by decide)
 have h1:=h 1 (by decide)
 have e0:((placeK k:Int)+((0:Nat):Int))=(placeK k:Int):=by omega
 have e1:((placeK k:Int)+((1:Nat):Int))=(placeK k:Int)+1:=by omega
 rw [e0]at h0
 rw [e1]at h1
 have hs:seenK D k=0:=by unfold seenK;rw [if_neg (fun hn=>hn h0)];exact h1
 unfold getK
 rw [if_neg (fun hn=>hn hk),if_neg (fun hn=>hn hs)]
 simp only [bestR]
 rw [e0,e1]
 obtain⟨x,hx⟩: ∃x,markB k (D.read (placeK k)).1=x:=⟨_,rfl⟩
 obtain⟨y,hy⟩: ∃y,markB k (D.read ((placeK k:Int)+1)).1=y:=⟨_,rfl⟩
 rw [hx,hy]
 unfold newerK
 by_cases hx0:x.2=0<;>by_cases hy0:y.2=0<;>by_cases hl:x.1.ver < y.1.ver<;>simp [hx0,hy0,hl]
theorem getR_err {D:DM} {k:Int} (hk:sortK k) {j:Nat} (hj:j < 2) (h:seenR D k j) (he:(D.read ((placeK k:Int)+(j:Int))).2≠0):getK D k=(noMark,(D.read ((placeK k:Int)+(j:Int))).2):=by
 have e0:((placeK k:Int)+((0:Nat):Int))=(placeK k:Int):=by omega
 have e1:((placeK k:Int)+((1:Nat):Int))=(placeK k:Int)+1:=by omega
 have hs:seenK D k=(D.read ((placeK k:Int)+(j:Int))).2:=by
  unfold seenK
  obtain rfl | rfl:j=0∨j=1:=by omega
  · rw [e0]at he ⊢
    rw [if_pos he]
  · have h0:=h 0 (by decide)
    rw [e0]at h0
    rw [e1]
    rw [if_neg (fun hn=>hn h0)]
 unfold getK
 rw [if_neg (fun hn=>hn hk),hs,if_pos he]
theorem seenR_snoc {D:DM} {k:Int} {j:Nat} (h:seenR D k j) (he:(D.read ((placeK k:Int)+(j:Int))).2=0):seenR D k (j+1):=fun i hi=>by
 by_cases e:i=j
 · subst e;exact he
 · exact h i (by omega)
structure GetS (w:World) (T:Nat→Prop) (h:Nat) (D:DM) (b:MarkV) (wx:World):Prop where
 rf:RefAt3 wx T h D
 res:BlockIs wx w.heap.size 26 #[.int .i64 0,.int .i64 0,.int .i64 0,.int .i64 0,.int .i64 0]
 out:BlockIs wx (w.heap.size+1) 26 #[.int .i64 b.ver,.int .i64 b.idx,.int .i64 b.term,.int .i64 b.kind,.int .i64 b.void]
 bl:Below w.heap.size w wx
 foot: ∀j,T j→j < w.heap.size
section
variable {w wx w2 : World} {T : Nat → Prop} {h : Nat} {D : DM} {b : MarkV}
theorem GetS.below (k:GetS w T h D b wx) (hb:Below wx.heap.size wx w2):GetS w T h D b w2:=⟨k.rf.below hb,k.res.below hb k.res.lt,k.out.below hb k.out.lt,k.bl.trans (hb.mono k.bl.size),k.foot⟩
theorem GetS.put (k:GetS w T h D b wx) (m:MarkV):GetS w T h D m (put5 wx (w.heap.size+1) (.int .i64 m.ver) (.int .i64 m.idx) (.int .i64 m.term) (.int .i64 m.kind) (.int .i64 m.void)):=
 ⟨k.rf.keep (Nat.le_of_eq (size_five _ _ _ _ _ _ _).symm) (fun j hj=>keep_five _ _ _ _ _ _ _ (fun e=>by have:=k.foot j hj;omega)),k.res.keep (keep_five _ _ _ _ _ _ _ (by omega)),set_five k.out _ _ _ _ _,below_five k.bl (Nat.le_succ _) _ _ _ _ _,k.foot⟩
end
section
variable {w : World} {T : Nat → Prop} {h : Nat} {D : DM}
theorem rget_any (k:RefAt3 w T h D) {q:Nat} (hF:D.Few q) (hq:q≤998000) (kk:Int):
 Calls Tryz.prog 95 #[.pointer (some ⟨h,0,none⟩),.int .i64 kk] w fun e w'=>e= .returned (.tuple #[(getK D kk).1.val,.int .i64 (getK D kk).2])∧Below w.heap.size w w':=by
 have hb0:=below_new w (.cells #[.int .i64 0,.int .i64 0,.int .i64 0,.int .i64 0,.int .i64 0] 26)
 have HR0:=qh (BlockIs.made w 26 #[.int .i64 0,.int .i64 0,.int .i64 0,.int .i64 0,.int .i64 0])
 have HP:=qh (fun W=>rplace_any W kk)
 have Hb0:=qh hb0
 have HK:=qh k
 have HF:=qh (few6 hF (by omega))
 have HO:=qh (fun W A b c hb hbc hm=>rOf_any W kk A b c hb hbc hm)
 clear k hF hq hb0
 by_cases hk:sortK kk
 · rw [if_pos hk]at HP
   have Hk:=qh hk
   have hp9:placeK kk≤4:=by unfold placeK;split<;>decide
   have hp0: ¬(placeK kk:Int) < 0:=by omega
   have HE:=qh (fun j hj hs he=>getR_err (D:=D) hk (j:=j) hj hs he)
   have HG:=qh (bestR_get (D:=D) hk)
   have HB:=qh (fun n=>show bestR D kk (n+1)=if(markB kk (D.read ((placeK kk:Int)+(n:Int))).1).2=0∧((bestR D kk n).2=false∨(bestR D kk n).1.ver < (markB kk (D.read ((placeK kk:Int)+(n:Int))).1).1.ver)then((markB kk (D.read ((placeK kk:Int)+(n:Int))).1).1,true)else bestR D kk n from rfl)
   have HSn:=qh (fun j=>seenR_snoc (D:=D) (k:=kk) (j:=j))
   obtain⟨p,hp⟩: ∃p:Nat,placeK kk=p:=⟨_,rfl⟩
   rw [hp]at HP hp0 hp9 HE HB HSn
   clear hk hp
   go_enter Tryz.func95,Tryz.ntmps95
   go_wp2_with fail
   refine(HP.out _).mono ?_
   rintro e w1 ⟨rfl,hw⟩
   subst hw
   have hbo:=below_new (w.alloc (.cells #[.int .i64 0,.int .i64 0,.int .i64 0,.int .i64 0,.int .i64 0] 26)) (.cells #[.int .i64 0,.int .i64 0,.int .i64 0,.int .i64 0,.int .i64 0] 26)
   have ho:=BlockIs.made (w.alloc (.cells #[.int .i64 0,.int .i64 0,.int .i64 0,.int .i64 0,.int .i64 0] 26)) 26 #[.int .i64 0,.int .i64 0,.int .i64 0,.int .i64 0,.int .i64 0]
   rw [World.size_alloc]at ho
   have S0:Hid (GetS w T h D noMark ((w.alloc (.cells #[.int .i64 0,.int .i64 0,.int .i64 0,.int .i64 0,.int .i64 0] 26)).alloc (.cells #[.int .i64 0,.int .i64 0,.int .i64 0,.int .i64 0,.int .i64 0] 26))):=qh ⟨(HK.out.below Hb0.out).below hbo,HR0.out.below hbo HR0.out.lt,ho,Hb0.out.trans (hbo.mono Hb0.out.size),HK.out.foot⟩
   clear hbo ho
   go_wp2_with fail
   go_loopg [6,8] 2 (fun gk fd i wx=> ∃(j:Nat) (b:MarkV) (f:Bool),gk=2 - j∧j≤2∧fd= .bool f∧i= .int .i64 (j:Int)∧Hid (bestR D kk j=(b,f)∧seenR D kk j)∧Hid (GetS w T h D b wx))
   case atStart=>exact⟨0,noMark,false,rfl,by decide,rfl,rfl,qh ⟨rfl,fun i hi=>absurd hi (Nat.not_lt_zero _)⟩,S0⟩
   case round=>
    obtain⟨j,b,f,hgk,hj,rfl,rfl,hB,hS⟩:=hrel
    have Hgk:=qh hgk
    clear hgk S0 HR0
    by_cases hlt:j < 2
    · have hji:(j:Int) < 2:=by omega
      have HRd:=qh (read3_any hS.out.rf HF.out ((p:Int)+(j:Int)))
      have HEj:=qh (HE.out j hlt hB.out.2)
      have HSj:=qh (HSn.out j hB.out.2)
      have HBj:=qh (HB.out j)
      obtain⟨rd,hrd⟩: ∃r,D.read ((p:Int)+(j:Int))=r:=⟨_,rfl⟩
      rw [hrd]at HRd HEj HSj HBj
      obtain⟨bs,er⟩:=rd
      simp only at HRd HEj HSj HBj
      clear hrd HE HB HSn
      by_cases he:er=0
      rotate_left
      · have hne:(er != 0)=true:=by simpa using he
        have Hg:=qh (HEj.out he)
        clear he
        go_wp2_with fail
        refine(HP.out _).mono ?_
        rintro e wP ⟨rfl,hw⟩
        subst hw
        go_wp2_with fail
        refine HRd.out.mono ?_
        rintro e w2 ⟨v,rfl,hv,hb2⟩
        have S2:=qh (hS.out.below hb2)
        clear hv hb2 HRd
        obtain⟨⟨y0,y1,y2,y3,y4⟩,f0,f1,f2,f3,f4⟩:=cells_five S2.out.res
        have RZ:=qh (set_five S2.out.res (.int .i64 0) (.int .i64 0) (.int .i64 0) (.int .i64 0) (.int .i64 0))
        have BZ:=qh (below_five S2.out.bl (Nat.le_refl _) (.int .i64 0) (.int .i64 0) (.int .i64 0) (.int .i64 0) (.int .i64 0))
        unfold put5 at RZ BZ
        go_wp2_with fail
        clear y0 y1 y2 y3 y4 f0 f1 f2 f3 f4
        generalize ((((((w2).setCell ⟨w.heap.size,0,none⟩ (.int .i64 0)).setCell ⟨w.heap.size,1,none⟩ (.int .i64 0)).setCell ⟨w.heap.size,2,none⟩ (.int .i64 0)).setCell ⟨w.heap.size,3,none⟩ (.int .i64 0)).setCell ⟨w.heap.size,4,none⟩ (.int .i64 0))=wz at *
        obtain⟨⟨z0,z1,z2,z3,z4⟩,_⟩:=cells_five RZ.out
        exact bodyPost_ret (v:= .tuple #[.agg #[.int .i64 0,.int .i64 0,.int .i64 0,.int .i64 0,.int .i64 0],.int .i64 er]) (by simp [results,Tryz.results95,go_sem,z0,z1,z2,z3,z4]) rfl ⟨by rw [Hg.out];rfl,BZ.out⟩
      · subst he
        obtain⟨mm,hmm⟩: ∃mm,markB kk bs=mm:=⟨_,rfl⟩
        have HO2:=qh (fun W A c hb hbc hm=>HO.out W A bs c hb hbc hm)
        rw [hmm]at HO2 HBj
        obtain⟨⟨v1,i1,t1,k1,o1⟩,f1⟩:=mm
        unfold MarkV.val at HO2
        simp only at HO2 HBj
        obtain⟨bv,bi,bt,bk,bo⟩:=b
        have HBj2:Hid (bestR D kk (j+1)=if f1=0∧(f=false∨bv < v1)then(⟨v1,i1,t1,k1,o1⟩,true)else(⟨bv,bi,bt,bk,bo⟩,f)):=qh (by rw [HBj.out,hB.out.1])
        clear hmm HBj
        go_wp2_with fail
        refine(HP.out _).mono ?_
        rintro e wP ⟨rfl,hw⟩
        subst hw
        go_wp2_with fail
        refine HRd.out.mono ?_
        rintro e w2 ⟨v,rfl,⟨A,c,rfl,hzA,hcA,hmA,_,_⟩,hb2⟩
        have S2:=qh (hS.out.below hb2)
        have HO3:=qh (HO2.out w2 A c hzA hcA hmA)
        clear hzA hcA hmA hb2 HRd HO2 hS
        go_wp2_with fail
        refine HO3.out.mono ?_
        rintro e w3 ⟨rfl,hb3⟩
        have hb4:=hb3.trans ((below_new w3 (.cells #[.int .i64 v1,.int .i64 i1,.int .i64 t1,.int .i64 k1,.int .i64 o1] 26)).mono hb3.size)
        have S4:=qh (S2.out.below hb4)
        have M4:=qh (BlockIs.made w3 26 #[.int .i64 v1,.int .i64 i1,.int .i64 t1,.int .i64 k1,.int .i64 o1])
        have HNQ:=qh (show w.heap.size+1 < w3.heap.size from Nat.lt_of_lt_of_le S2.out.out.lt hb3.size)
        obtain⟨w4,hw4⟩: ∃w4,w3.alloc (.cells #[.int .i64 v1,.int .i64 i1,.int .i64 t1,.int .i64 k1,.int .i64 o1] 26)=w4:=⟨_,rfl⟩
        rw [hw4]at S4 M4
        have Hw4:=qh hw4
        obtain⟨⟨m0,m1,m2,m3,m4⟩,_⟩:=cells_five M4.out
        obtain⟨⟨b0,b1,b2,b3,b4⟩,g0,g1,g2,g3,g4⟩:=cells_five S4.out.out
        rw [← hw4]at m0 m1 m2 m3 m4 b0 b1 b2 b3 b4 g0 g1 g2 g3 g4
        clear hb3 hb4 HO3 hw4
        have SP:=qh (S4.out.put ⟨v1,i1,t1,k1,o1⟩)
        unfold put5 at SP
        simp only at SP
        generalize w3.heap.size=gm at *
        by_cases hf1:f1=0
        · subst hf1
          cases f with
          | false=>
            go_wp2_with fail
            go_roundg (2 - (j+1))
            case measure=>rw [Hgk.out];omega
            case rel=>exact⟨j+1,⟨v1,i1,t1,k1,o1⟩,true,rfl,by omega,rfl,by go_num,qh ⟨by rw [HBj2.out,if_pos (by simp)],HSj.out (by first | rfl | trivial)⟩,by rw [Hw4.out];exact SP⟩
          | true=>
            by_cases hlv:bv < v1
            · go_wp2_with fail
              go_roundg (2 - (j+1))
              case measure=>rw [Hgk.out];omega
              case rel=>exact⟨j+1,⟨v1,i1,t1,k1,o1⟩,true,rfl,by omega,rfl,by go_num,qh ⟨by rw [HBj2.out,if_pos (by simp [hlv])],HSj.out (by first | rfl | trivial)⟩,by rw [Hw4.out];exact SP⟩
            · go_wp2_with fail
              go_roundg (2 - (j+1))
              case measure=>rw [Hgk.out];omega
              case rel=>exact⟨j+1,⟨bv,bi,bt,bk,bo⟩,true,rfl,by omega,rfl,by go_num,qh ⟨by rw [HBj2.out,if_neg (by rintro⟨_,h1 | h1⟩<;>first | exact absurd h1 (by decide) | omega)],HSj.out (by first | rfl | trivial)⟩,by rw [Hw4.out];exact S4⟩
        · have hf2:(f1==0)=false:=beq_eq_false_iff_ne.2 hf1
          go_wp2_with fail
          go_roundg (2 - (j+1))
          case measure=>rw [Hgk.out];omega
          case rel=>exact⟨j+1,⟨bv,bi,bt,bk,bo⟩,f,rfl,by omega,rfl,by go_num,qh ⟨by rw [HBj2.out,if_neg (fun h1=>hf1 h1.1)],HSj.out (by first | rfl | trivial)⟩,by rw [Hw4.out];exact S4⟩
    · obtain rfl:j=2:=by omega
      have Hg0:=qh (HG.out hB.out.2)
      rw [hB.out.1]at Hg0
      obtain⟨bv,bi,bt,bk,bo⟩:=b
      cases f with
      | false=>
        obtain⟨⟨y0,y1,y2,y3,y4⟩,f0,f1,f2,f3,f4⟩:=cells_five hS.out.res
        have RZ:=qh (set_five hS.out.res (.int .i64 0) (.int .i64 0) (.int .i64 0) (.int .i64 0) (.int .i64 0))
        have BZ:=qh (below_five hS.out.bl (Nat.le_refl _) (.int .i64 0) (.int .i64 0) (.int .i64 0) (.int .i64 0) (.int .i64 0))
        unfold put5 at RZ BZ
        go_wp2_with fail
        clear y0 y1 y2 y3 y4 f0 f1 f2 f3 f4
        generalize ((((((wr).setCell ⟨w.heap.size,0,none⟩ (.int .i64 0)).setCell ⟨w.heap.size,1,none⟩ (.int .i64 0)).setCell ⟨w.heap.size,2,none⟩ (.int .i64 0)).setCell ⟨w.heap.size,3,none⟩ (.int .i64 0)).setCell ⟨w.heap.size,4,none⟩ (.int .i64 0))=wz at *
        obtain⟨⟨z0,z1,z2,z3,z4⟩,_⟩:=cells_five RZ.out
        exact bodyPost_ret (v:= .tuple #[.agg #[.int .i64 0,.int .i64 0,.int .i64 0,.int .i64 0,.int .i64 0],.int .i64 10]) (by simp [results,Tryz.results95,go_sem,z0,z1,z2,z3,z4]) rfl ⟨by rw [Hg0.out];rfl,BZ.out⟩
      | true=>
        obtain⟨⟨b0,b1,b2,b3,b4⟩,_⟩:=cells_five hS.out.out
        have HNQ:=qh (Nat.le_refl (w.heap.size+1))
        have hnq:w.heap.size+1≠w.heap.size:=by omega
        obtain⟨⟨y0,y1,y2,y3,y4⟩,f0,f1,f2,f3,f4⟩:=cells_five hS.out.res
        have RZ:=qh (set_five hS.out.res (.int .i64 bv) (.int .i64 bi) (.int .i64 bt) (.int .i64 bk) (.int .i64 bo))
        have BZ:=qh (below_five hS.out.bl (Nat.le_refl _) (.int .i64 bv) (.int .i64 bi) (.int .i64 bt) (.int .i64 bk) (.int .i64 bo))
        unfold put5 at RZ BZ
        go_wp2_with fail
        clear b0 b1 b2 b3 b4 y0 y1 y2 y3 y4 f0 f1 f2 f3 f4
        generalize ((((((wr).setCell ⟨w.heap.size,0,none⟩ (.int .i64 bv)).setCell ⟨w.heap.size,1,none⟩ (.int .i64 bi)).setCell ⟨w.heap.size,2,none⟩ (.int .i64 bt)).setCell ⟨w.heap.size,3,none⟩ (.int .i64 bk)).setCell ⟨w.heap.size,4,none⟩ (.int .i64 bo))=wz at *
        obtain⟨⟨z0,z1,z2,z3,z4⟩,_⟩:=cells_five RZ.out
        exact bodyPost_ret (v:= .tuple #[.agg #[.int .i64 bv,.int .i64 bi,.int .i64 bt,.int .i64 bk,.int .i64 bo],.int .i64 0]) (by simp [results,Tryz.results95,go_sem,z0,z1,z2,z3,z4]) rfl ⟨by rw [Hg0.out];rfl,BZ.out⟩
 · rw [if_neg hk]at HP
   have Hg0:Hid (getK D kk=(noMark,2)):=qh (by unfold getK;rw [if_pos hk])
   clear hk
   go_enter Tryz.func95,Tryz.ntmps95
   go_wp2_with fail
   refine(HP.out _).mono ?_
   rintro e w1 ⟨rfl,hw⟩
   subst hw
   obtain⟨⟨y0,y1,y2,y3,y4⟩,f0,f1,f2,f3,f4⟩:=cells_five HR0.out
   go_wp2_with fail
   exact bodyPost_ret (v:= .tuple #[.agg #[.int .i64 0,.int .i64 0,.int .i64 0,.int .i64 0,.int .i64 0],.int .i64 2]) (by simp [results,Tryz.results95,go_sem]) rfl ⟨by rw [Hg0.out];rfl,Hb0.out⟩
end
open Go.RowKit
section
variable {w w6 w7 : World} {T : Nat → Prop} {h : Nat} {D D' : DM}
theorem getK_reads {k:Int} (h:(getK D k).2=0):(D.read (placeK k)).2=0∧(D.read ((placeK k:Int)+1)).2=0:=by
 unfold getK at h
 split at h
 · exact absurd h (by decide)
 · split at h
   · next h1=>exact absurd h h1
   · next h1=>
     have h2:seenK D k=0:=Classical.byContradiction h1
     unfold seenK at h2
     split at h2
     · next h3=>exact absurd h2 h3
     · next h3=>exact⟨Classical.byContradiction h3,h2⟩
theorem RefAt3.read_ok (k:RefAt3 w T h D) {n:Int} (h0:(D.read n).2=0):BlkOk (D.read n).1:=by
 obtain⟨cv,wv,C,L,ar,tu,cr,dn,R,M⟩:=k
 unfold DM.read at h0 ⊢
 split at h0
 · exact absurd h0 (by decide)
 · next hd=>
   rw [if_neg hd]
   split at h0
   · next hn=>
     rw [if_pos hn]
     unfold DM.has at hn
     have hm:n.toNat < C.length:=by have:=M.cells;have h1:=hn.2;rw [this,List.length_map]at h1;omega
     unfold DM.seen
     refine seenAt_ok ?_ ?_ _
     · rw [M.stored hm];exact(R.cb _ (List.getElem_mem hm)).bd
     · rw [M.waits];exact fun p hp=>(R.wmin p hp).2
   · exact absurd h0 (by decide)
theorem Ref3.put (hf: ∀j,T j→j < w.heap.size) (hb:Below w.heap.size w w6) (a:Ref3 w6 T h D' w7) {g:Nat} (hg:w.heap.size≤g) (hg6:g < w6.heap.size) (x0 x1 x2 x3 x4:Value):Ref3 w T h D' (put5 w7 g x0 x1 x2 x3 x4):=by
 have hn: ¬grow T w6 w7 g:=by
  rintro(e | e)
  · have:=hf _ e;omega
  · omega
 have c:=(a.past hf hb).fr
 refine⟨(a.at_.keep (Nat.le_of_eq (size_five _ _ _ _ _ _ _).symm) (fun _ hj=>keep_five _ _ _ _ _ _ _ (fun e=>hn (by rw [← e];exact hj)))).mono ?_ ?_,((((c.set (.inr hg) _).set (.inr hg) _).set (.inr hg) _).set (.inr hg) _).set (.inr hg) _⟩
 · intro j hj
   rcases hj with hj | hj
   · exact .inl hj
   · refine .inr ⟨Nat.le_trans hb.size hj.1,?_⟩
     rw [size_five];exact hj.2
 · intro j hj
   rw [size_five]
   rcases hj with hj | hj
   · exact Nat.lt_of_lt_of_le (hf j hj) c.size
   · rw [size_five]at hj;exact hj.2
theorem ropen6_any (k:RefAt3 w T h D) {q:Nat} (hF:D.Few q) (hq:q≤990000) (kk:Int):
 Calls Tryz.prog 94 #[.pointer (some ⟨h,0,none⟩),.int .i64 kk] w fun e w'=>e= .returned (.tuple #[(openK D kk).1.1.val,.int .i64 (openK D kk).1.2])∧Ref3 w T h (openK D kk).2 w':=by
 have hb0:=below_new w (.cells #[.int .i64 0,.int .i64 0,.int .i64 0,.int .i64 0,.int .i64 0] 26)
 have HR0:=qh (BlockIs.made w 26 #[.int .i64 0,.int .i64 0,.int .i64 0,.int .i64 0,.int .i64 0])
 have HG:=qh (rget_any (k.below hb0) hF (by omega) kk)
 have Hb0:=qh hb0
 have HK:=qh k
 have HF:=qh (And.intro hF hq)
 have Hop:Hid (openK D kk=if(getK D kk).2≠0∨(D.read (placeK kk)).1=(D.read ((placeK kk:Int)+1)).1 then(getK D kk,D)else if(layK D kk (getK D kk).1).1≠0 then((noMark,(layK D kk (getK D kk).1).1),(layK D kk (getK D kk).1).2)else(getK D kk,(layK D kk (getK D kk).1).2)):=qh rfl
 have HRt:=qh (getK_right (D:=D) (k:=kk))
 obtain⟨r,hr⟩: ∃r,getK D kk=r:=⟨_,rfl⟩
 have Hgk:=qh hr
 rw [hr]at HG Hop HRt
 obtain⟨⟨v0,i0,t0,k0,o0⟩,en⟩:=r
 unfold MarkV.val at HG
 simp only at HG Hop HRt
 clear k hF hq hb0 hr
 by_cases hen:en=0
 rotate_left
 · have hne:(en != 0)=true:=by simpa using hen
   have Hop2:Hid (openK D kk=((⟨v0,i0,t0,k0,o0⟩,en),D)):=qh (by rw [Hop.out,if_pos (.inl hen)])
   rw [Hop2.out]
   unfold MarkV.val
   simp only
   clear hen Hop
   go_enter Tryz.func94,Tryz.ntmps94
   go_wp2_with fail
   refine HG.out.mono ?_
   rintro e w3 ⟨rfl,hb3⟩
   have hb4:=hb3.trans ((below_new w3 (.cells #[.int .i64 v0,.int .i64 i0,.int .i64 t0,.int .i64 k0,.int .i64 o0] 26)).mono hb3.size)
   have B4:=qh (Hb0.out.trans (hb4.mono Hb0.out.size))
   have R4:=qh (HR0.out.below hb4 HR0.out.lt)
   have M4:=qh (BlockIs.made w3 26 #[.int .i64 v0,.int .i64 i0,.int .i64 t0,.int .i64 k0,.int .i64 o0])
   have HNQ:=qh (show w3.heap.size≠w.heap.size by have:=HR0.out.lt;have:=hb3.size;omega)
   clear hb3 hb4 HG
   obtain⟨w4,hw4⟩: ∃w4,w3.alloc (.cells #[.int .i64 v0,.int .i64 i0,.int .i64 t0,.int .i64 k0,.int .i64 o0] 26)=w4:=⟨_,rfl⟩
   rw [hw4]at B4 R4 M4
   obtain⟨⟨q0,q1,q2,q3,q4⟩,_⟩:=cells_five M4.out
   obtain⟨⟨y0,y1,y2,y3,y4⟩,f0,f1,f2,f3,f4⟩:=cells_five R4.out
   have RZ:=qh (set_five R4.out (.int .i64 v0) (.int .i64 i0) (.int .i64 t0) (.int .i64 k0) (.int .i64 o0))
   have BZ:=qh (below_five B4.out (Nat.le_refl _) (.int .i64 v0) (.int .i64 i0) (.int .i64 t0) (.int .i64 k0) (.int .i64 o0))
   unfold put5 at RZ BZ
   rw [← hw4]at q0 q1 q2 q3 q4 y0 y1 y2 y3 y4 f0 f1 f2 f3 f4
   have Hw4:=qh hw4
   clear hw4
   go_wp2_with fail
   clear q0 q1 q2 q3 q4 y0 y1 y2 y3 y4 f0 f1 f2 f3 f4
   rw [Hw4.out]
   generalize (((((w4).setCell ⟨w.heap.size,0,none⟩ (.int .i64 v0)).setCell ⟨w.heap.size,1,none⟩ (.int .i64 i0)).setCell ⟨w.heap.size,2,none⟩ (.int .i64 t0)).setCell ⟨w.heap.size,3,none⟩ (.int .i64 k0)).setCell ⟨w.heap.size,4,none⟩ (.int .i64 o0)=wz at *
   obtain⟨⟨z0,z1,z2,z3,z4⟩,_⟩:=cells_five RZ.out
   exact bodyPost_ret (v:= .tuple #[.agg #[.int .i64 v0,.int .i64 i0,.int .i64 t0,.int .i64 k0,.int .i64 o0],.int .i64 en]) (by simp [results,Tryz.results94,go_sem,z0,z1,z2,z3,z4]) rfl ⟨rfl,Ref3.below HK.out BZ.out⟩
 · subst hen
   obtain⟨hk,hm⟩:=HRt.out rfl
   have HP:=qh (fun W=>rplace_any W kk)
   rw [if_pos hk]at HP
   have Hrd:=getK_reads (D:=D) (k:=kk) (by rw [Hgk.out])
   have Hbk:=qh (And.intro (HK.out.read_ok Hrd.1) (HK.out.read_ok Hrd.2))
   have HRa:=qh (fun W (k':RefAt3 W T h D)=>read3_any k' (few6 HF.out.1 (by have:=HF.out.2;omega)) (placeK kk:Int))
   have HRb:=qh (fun W (k':RefAt3 W T h D)=>read3_any k' (few6 HF.out.1 (by have:=HF.out.2;omega)) ((placeK kk:Int)+1))
   have HL:=qh (fun W (k':RefAt3 W T h D)=>rlay_any k' HF.out.1 (by have:=HF.out.2;omega) kk hk ⟨v0,i0,t0,k0,o0⟩ hm)
   have hp9:placeK kk≤4:=by unfold placeK;split<;>decide
   obtain⟨p,hp⟩: ∃p:Nat,placeK kk=p:=⟨_,rfl⟩
   rw [hp]at HP HRa HRb Hop Hrd Hbk hp9
   rw [Hrd.1]at HRa
   rw [Hrd.2]at HRb
   obtain⟨b0,hb0⟩: ∃b,(D.read (p:Int)).1=b:=⟨_,rfl⟩
   obtain⟨b1,hb1⟩: ∃b,(D.read ((p:Int)+1)).1=b:=⟨_,rfl⟩
   rw [hb0]at HRa Hop Hbk
   rw [hb1]at HRb Hop Hbk
   have Hnm:=qh (nums_eq b0 b1 Hbk.out.1.2 Hbk.out.2.2)
   unfold sameB at Hnm
   unfold MarkV.val at HL
   simp only at HL
   clear hk hm Hrd hp hb0 hb1 HRt Hgk
   by_cases hbb:b0=b1
   · have Hbb:=qh hbb
     have Hop2:Hid (openK D kk=((⟨v0,i0,t0,k0,o0⟩,0),D)):=qh (by rw [Hop.out,if_pos (.inr hbb)])
     rw [Hop2.out]
     unfold MarkV.val
     simp only
     clear hbb HL Hop
     go_enter Tryz.func94,Tryz.ntmps94
     go_wp2_with fail
     refine HG.out.mono ?_
     rintro e w3 ⟨rfl,hb3⟩
     have hb4:=hb3.trans ((below_new w3 (.cells #[.int .i64 v0,.int .i64 i0,.int .i64 t0,.int .i64 k0,.int .i64 o0] 26)).mono hb3.size)
     have B4:=qh (Hb0.out.trans (hb4.mono Hb0.out.size))
     have R4:=qh (HR0.out.below hb4 HR0.out.lt)
     have M4:=qh (BlockIs.made w3 26 #[.int .i64 v0,.int .i64 i0,.int .i64 t0,.int .i64 k0,.int .i64 o0])
     have HNQ:=qh (show w3.heap.size≠w.heap.size∧w.heap.size≤w3.heap.size by have:=HR0.out.lt;have:=hb3.size;omega)
     obtain⟨w4,hw4⟩: ∃w4,w3.alloc (.cells #[.int .i64 v0,.int .i64 i0,.int .i64 t0,.int .i64 k0,.int .i64 o0] 26)=w4:=⟨_,rfl⟩
     rw [hw4]at B4 R4 M4
     have Hw4:=qh hw4
     have HA:=qh (HRa.out w4 (HK.out.below B4.out))
     clear hb3 hb4 HG hw4
     go_wp2_with fail
     rw [Hw4.out]
     refine(HP.out _).mono ?_
     rintro e wP ⟨rfl,hw⟩
     subst hw
     go_wp2_with fail
     refine HA.out.mono ?_
     rintro e w5 ⟨va,rfl,⟨A0,c0,rfl,hz0,_,_,_,_⟩,hb5⟩
     have B5:=qh (B4.out.trans (hb5.mono B4.out.size))
     have R5:=qh (R4.out.below hb5 R4.out.lt)
     have M5:=qh (M4.out.below hb5 M4.out.lt)
     have HB:=qh (HRb.out w5 (HK.out.below B5.out))
     clear hb5 HA
     go_wp2_with fail
     refine(HP.out _).mono ?_
     rintro e wP ⟨rfl,hw⟩
     subst hw
     go_wp2_with fail
     refine HB.out.mono ?_
     rintro e w6 ⟨vb,rfl,⟨A1,c1,rfl,hz1,_,_,_,_⟩,hb6⟩
     have B6:=qh (B5.out.trans (hb6.mono B5.out.size))
     have R6:=qh (R5.out.below hb6 R5.out.lt)
     have M6:=qh (M5.out.below hb6 M5.out.lt)
     have hz0:=hz0.below hb6
     obtain⟨x0,p0,rfl⟩:=hz0.some_ (by intro e;have:=Hbk.out.1.1;rw [e]at this;exact absurd this (by decide))
     obtain⟨x1,p1,rfl⟩:=hz1.some_ (by intro e;have:=Hbk.out.2.1;rw [e]at this;exact absurd this (by decide))
     have hc0:=run_convert_bytes_arg (P:=Tryz.prog) w6 28 5 Tryz.underlying28 Tryz.underlying5 x0 p0 256 c0 b0 Hbk.out.1.1 (fun i hi=>hz0.one i (by rw [Hbk.out.1.1];exact hi)) 9 Tryz.underlying9
     have hc1:=run_convert_bytes_arg (P:=Tryz.prog) w6 28 5 Tryz.underlying28 Tryz.underlying5 x1 p1 256 c1 b1 Hbk.out.2.1 (fun i hi=>hz1.one i (by rw [Hbk.out.2.1];exact hi)) 9 Tryz.underlying9
     have hl0:=Hbk.out.1.1
     have hl1:=Hbk.out.2.1
     rw [hl0]
     rw [hl1]
     have hnm:=Hnm.out
     rw [decide_eq_true Hbb.out]at hnm
     clear hz0 hz1 hb6 HB hl0 hl1 HRa HRb
     obtain⟨⟨q0,q1,q2,q3,q4⟩,_⟩:=cells_five M6.out
     obtain⟨⟨y0,y1,y2,y3,y4⟩,f0,f1,f2,f3,f4⟩:=cells_five R6.out
     have RZ:=qh (set_five R6.out (.int .i64 v0) (.int .i64 i0) (.int .i64 t0) (.int .i64 k0) (.int .i64 o0))
     have BZ:=qh (below_five B6.out (Nat.le_refl _) (.int .i64 v0) (.int .i64 i0) (.int .i64 t0) (.int .i64 k0) (.int .i64 o0))
     unfold put5 at RZ BZ
     go_wp2_with fail
     clear y0 y1 y2 y3 y4 f0 f1 f2 f3 f4 q0 q1 q2 q3 q4
     generalize ((((((w6).setCell ⟨w.heap.size,0,none⟩ (.int .i64 v0)).setCell ⟨w.heap.size,1,none⟩ (.int .i64 i0)).setCell ⟨w.heap.size,2,none⟩ (.int .i64 t0)).setCell ⟨w.heap.size,3,none⟩ (.int .i64 k0)).setCell ⟨w.heap.size,4,none⟩ (.int .i64 o0))=wz at *
     obtain⟨⟨z0,z1,z2,z3,z4⟩,_⟩:=cells_five RZ.out
     exact bodyPost_ret (v:= .tuple #[.agg #[.int .i64 v0,.int .i64 i0,.int .i64 t0,.int .i64 k0,.int .i64 o0],.int .i64 0]) (by simp [results,Tryz.results94,go_sem,z0,z1,z2,z3,z4]) rfl ⟨rfl,Ref3.below HK.out BZ.out⟩
   · have Hbb:=qh hbb
     obtain⟨r2,hr2⟩: ∃r,layK D kk ⟨v0,i0,t0,k0,o0⟩=r:=⟨_,rfl⟩
     rw [hr2]at HL Hop
     obtain⟨e2,D2⟩:=r2
     simp only at HL Hop
     clear hr2
     by_cases he2:e2=0
     · subst he2
       have Hop2:Hid (openK D kk=((⟨v0,i0,t0,k0,o0⟩,0),D2)):=qh (by rw [Hop.out,if_neg (by rintro(h1 | h1);exact h1 rfl;exact hbb h1),if_neg (fun e=>e rfl)])
       rw [Hop2.out]
       unfold MarkV.val
       simp only
       clear hbb Hop
       go_enter Tryz.func94,Tryz.ntmps94
       go_wp2_with fail
       refine HG.out.mono ?_
       rintro e w3 ⟨rfl,hb3⟩
       have hb4:=hb3.trans ((below_new w3 (.cells #[.int .i64 v0,.int .i64 i0,.int .i64 t0,.int .i64 k0,.int .i64 o0] 26)).mono hb3.size)
       have B4:=qh (Hb0.out.trans (hb4.mono Hb0.out.size))
       have R4:=qh (HR0.out.below hb4 HR0.out.lt)
       have M4:=qh (BlockIs.made w3 26 #[.int .i64 v0,.int .i64 i0,.int .i64 t0,.int .i64 k0,.int .i64 o0])
       have HNQ:=qh (show w3.heap.size≠w.heap.size∧w.heap.size≤w3.heap.size by have:=HR0.out.lt;have:=hb3.size;omega)
       obtain⟨w4,hw4⟩: ∃w4,w3.alloc (.cells #[.int .i64 v0,.int .i64 i0,.int .i64 t0,.int .i64 k0,.int .i64 o0] 26)=w4:=⟨_,rfl⟩
       rw [hw4]at B4 R4 M4
       have Hw4:=qh hw4
       have HA:=qh (HRa.out w4 (HK.out.below B4.out))
       clear hb3 hb4 HG hw4
       go_wp2_with fail
       rw [Hw4.out]
       refine(HP.out _).mono ?_
       rintro e wP ⟨rfl,hw⟩
       subst hw
       go_wp2_with fail
       refine HA.out.mono ?_
       rintro e w5 ⟨va,rfl,⟨A0,c0,rfl,hz0,_,_,_,_⟩,hb5⟩
       have B5:=qh (B4.out.trans (hb5.mono B4.out.size))
       have R5:=qh (R4.out.below hb5 R4.out.lt)
       have M5:=qh (M4.out.below hb5 M4.out.lt)
       have HB:=qh (HRb.out w5 (HK.out.below B5.out))
       clear hb5 HA
       go_wp2_with fail
       refine(HP.out _).mono ?_
       rintro e wP ⟨rfl,hw⟩
       subst hw
       go_wp2_with fail
       refine HB.out.mono ?_
       rintro e w6 ⟨vb,rfl,⟨A1,c1,rfl,hz1,_,_,_,_⟩,hb6⟩
       have B6:=qh (B5.out.trans (hb6.mono B5.out.size))
       have R6:=qh (R5.out.below hb6 R5.out.lt)
       have M6:=qh (M5.out.below hb6 M5.out.lt)
       have hz0:=hz0.below hb6
       obtain⟨x0,p0,rfl⟩:=hz0.some_ (by intro e;have:=Hbk.out.1.1;rw [e]at this;exact absurd this (by decide))
       obtain⟨x1,p1,rfl⟩:=hz1.some_ (by intro e;have:=Hbk.out.2.1;rw [e]at this;exact absurd this (by decide))
       have hc0:=run_convert_bytes_arg (P:=Tryz.prog) w6 28 5 Tryz.underlying28 Tryz.underlying5 x0 p0 256 c0 b0 Hbk.out.1.1 (fun i hi=>hz0.one i (by rw [Hbk.out.1.1];exact hi)) 9 Tryz.underlying9
       have hc1:=run_convert_bytes_arg (P:=Tryz.prog) w6 28 5 Tryz.underlying28 Tryz.underlying5 x1 p1 256 c1 b1 Hbk.out.2.1 (fun i hi=>hz1.one i (by rw [Hbk.out.2.1];exact hi)) 9 Tryz.underlying9
       have hl0:=Hbk.out.1.1
       have hl1:=Hbk.out.2.1
       rw [hl0]
       rw [hl1]
       have hnm:=Hnm.out
       rw [decide_eq_false Hbb.out]at hnm
       clear hz0 hz1 hb6 HB hl0 hl1 HRa HRb
       obtain⟨⟨q0,q1,q2,q3,q4⟩,_⟩:=cells_five M6.out
       have HL6:=qh (HL.out w6 (HK.out.below B6.out))
       go_wp2_with fail
       refine HL6.out.mono ?_
       rintro e w7 ⟨rfl,hR⟩
       have R7:=qh (hR.block R6.out (fun ht=>by have:=HK.out.foot _ ht;omega)).1
       have M7:=qh (hR.block M6.out (fun ht=>by have:=HK.out.foot _ ht;have:=HNQ.out;omega)).1
       have A7:=qh hR
       clear hR HL6 HL q0 q1 q2 q3 q4
       obtain⟨⟨q0,q1,q2,q3,q4⟩,_⟩:=cells_five M7.out
       obtain⟨⟨y0,y1,y2,y3,y4⟩,f0,f1,f2,f3,f4⟩:=cells_five R7.out
       have RZ:=qh (set_five R7.out (.int .i64 v0) (.int .i64 i0) (.int .i64 t0) (.int .i64 k0) (.int .i64 o0))
       have BZ:=qh (Ref3.put HK.out.foot B6.out A7.out (Nat.le_refl _) R6.out.lt (.int .i64 v0) (.int .i64 i0) (.int .i64 t0) (.int .i64 k0) (.int .i64 o0))
       unfold put5 at RZ BZ
       go_wp2_with fail
       clear y0 y1 y2 y3 y4 f0 f1 f2 f3 f4 q0 q1 q2 q3 q4
       generalize ((((((w7).setCell ⟨w.heap.size,0,none⟩ (.int .i64 v0)).setCell ⟨w.heap.size,1,none⟩ (.int .i64 i0)).setCell ⟨w.heap.size,2,none⟩ (.int .i64 t0)).setCell ⟨w.heap.size,3,none⟩ (.int .i64 k0)).setCell ⟨w.heap.size,4,none⟩ (.int .i64 o0))=wz at *
       obtain⟨⟨z0,z1,z2,z3,z4⟩,_⟩:=cells_five RZ.out
       exact bodyPost_ret (v:= .tuple #[.agg #[.int .i64 v0,.int .i64 i0,.int .i64 t0,.int .i64 k0,.int .i64 o0],.int .i64 0]) (by simp [results,Tryz.results94,go_sem,z0,z1,z2,z3,z4]) rfl ⟨rfl,BZ.out⟩
     · have hne2:(e2 != 0)=true:=by simpa using he2
       have Hop2:Hid (openK D kk=((noMark,e2),D2)):=qh (by rw [Hop.out,if_neg (by rintro(h1 | h1);exact h1 rfl;exact hbb h1),if_pos he2])
       rw [Hop2.out]
       have Hval:Hid (noMark.val= .agg #[.int .i64 0,.int .i64 0,.int .i64 0,.int .i64 0,.int .i64 0]):=qh rfl
       simp only
       rw [Hval.out]
       clear hbb he2 Hop
       go_enter Tryz.func94,Tryz.ntmps94
       go_wp2_with fail
       refine HG.out.mono ?_
       rintro e w3 ⟨rfl,hb3⟩
       have hb4:=hb3.trans ((below_new w3 (.cells #[.int .i64 v0,.int .i64 i0,.int .i64 t0,.int .i64 k0,.int .i64 o0] 26)).mono hb3.size)
       have B4:=qh (Hb0.out.trans (hb4.mono Hb0.out.size))
       have R4:=qh (HR0.out.below hb4 HR0.out.lt)
       have M4:=qh (BlockIs.made w3 26 #[.int .i64 v0,.int .i64 i0,.int .i64 t0,.int .i64 k0,.int .i64 o0])
       have HNQ:=qh (show w3.heap.size≠w.heap.size∧w.heap.size≤w3.heap.size by have:=HR0.out.lt;have:=hb3.size;omega)
       obtain⟨w4,hw4⟩: ∃w4,w3.alloc (.cells #[.int .i64 v0,.int .i64 i0,.int .i64 t0,.int .i64 k0,.int .i64 o0] 26)=w4:=⟨_,rfl⟩
       rw [hw4]at B4 R4 M4
       have Hw4:=qh hw4
       have HA:=qh (HRa.out w4 (HK.out.below B4.out))
       clear hb3 hb4 HG hw4
       go_wp2_with fail
       rw [Hw4.out]
       refine(HP.out _).mono ?_
       rintro e wP ⟨rfl,hw⟩
       subst hw
       go_wp2_with fail
       refine HA.out.mono ?_
       rintro e w5 ⟨va,rfl,⟨A0,c0,rfl,hz0,_,_,_,_⟩,hb5⟩
       have B5:=qh (B4.out.trans (hb5.mono B4.out.size))
       have R5:=qh (R4.out.below hb5 R4.out.lt)
       have M5:=qh (M4.out.below hb5 M4.out.lt)
       have HB:=qh (HRb.out w5 (HK.out.below B5.out))
       clear hb5 HA
       go_wp2_with fail
       refine(HP.out _).mono ?_
       rintro e wP ⟨rfl,hw⟩
       subst hw
       go_wp2_with fail
       refine HB.out.mono ?_
       rintro e w6 ⟨vb,rfl,⟨A1,c1,rfl,hz1,_,_,_,_⟩,hb6⟩
       have B6:=qh (B5.out.trans (hb6.mono B5.out.size))
       have R6:=qh (R5.out.below hb6 R5.out.lt)
       have M6:=qh (M5.out.below hb6 M5.out.lt)
       have hz0:=hz0.below hb6
       obtain⟨x0,p0,rfl⟩:=hz0.some_ (by intro e;have:=Hbk.out.1.1;rw [e]at this;exact absurd this (by decide))
       obtain⟨x1,p1,rfl⟩:=hz1.some_ (by intro e;have:=Hbk.out.2.1;rw [e]at this;exact absurd this (by decide))
       have hc0:=run_convert_bytes_arg (P:=Tryz.prog) w6 28 5 Tryz.underlying28 Tryz.underlying5 x0 p0 256 c0 b0 Hbk.out.1.1 (fun i hi=>hz0.one i (by rw [Hbk.out.1.1];exact hi)) 9 Tryz.underlying9
       have hc1:=run_convert_bytes_arg (P:=Tryz.prog) w6 28 5 Tryz.underlying28 Tryz.underlying5 x1 p1 256 c1 b1 Hbk.out.2.1 (fun i hi=>hz1.one i (by rw [Hbk.out.2.1];exact hi)) 9 Tryz.underlying9
       have hl0:=Hbk.out.1.1
       have hl1:=Hbk.out.2.1
       rw [hl0]
       rw [hl1]
       have hnm:=Hnm.out
       rw [decide_eq_false Hbb.out]at hnm
       clear hz0 hz1 hb6 HB hl0 hl1 HRa HRb
       obtain⟨⟨q0,q1,q2,q3,q4⟩,_⟩:=cells_five M6.out
       have HL6:=qh (HL.out w6 (HK.out.below B6.out))
       go_wp2_with fail
       refine HL6.out.mono ?_
       rintro e w7 ⟨rfl,hR⟩
       have R7:=qh (hR.block R6.out (fun ht=>by have:=HK.out.foot _ ht;omega)).1
       have A7:=qh hR
       clear hR HL6 HL q0 q1 q2 q3 q4
       obtain⟨⟨y0,y1,y2,y3,y4⟩,f0,f1,f2,f3,f4⟩:=cells_five R7.out
       have RZ:=qh (set_five R7.out (.int .i64 0) (.int .i64 0) (.int .i64 0) (.int .i64 0) (.int .i64 0))
       have BZ:=qh (Ref3.put HK.out.foot B6.out A7.out (Nat.le_refl _) R6.out.lt (.int .i64 0) (.int .i64 0) (.int .i64 0) (.int .i64 0) (.int .i64 0))
       unfold put5 at RZ BZ
       go_wp2_with fail
       clear y0 y1 y2 y3 y4 f0 f1 f2 f3 f4
       generalize ((((((w7).setCell ⟨w.heap.size,0,none⟩ (.int .i64 0)).setCell ⟨w.heap.size,1,none⟩ (.int .i64 0)).setCell ⟨w.heap.size,2,none⟩ (.int .i64 0)).setCell ⟨w.heap.size,3,none⟩ (.int .i64 0)).setCell ⟨w.heap.size,4,none⟩ (.int .i64 0))=wz at *
       obtain⟨⟨z0,z1,z2,z3,z4⟩,_⟩:=cells_five RZ.out
       exact bodyPost_ret (v:= .tuple #[.agg #[.int .i64 0,.int .i64 0,.int .i64 0,.int .i64 0,.int .i64 0],.int .i64 e2]) (by simp [results,Tryz.results94,go_sem,z0,z1,z2,z3,z4]) rfl ⟨rfl,BZ.out⟩
end
end Go.Proofs.YtpaikolnampcfaaGreatDoor
