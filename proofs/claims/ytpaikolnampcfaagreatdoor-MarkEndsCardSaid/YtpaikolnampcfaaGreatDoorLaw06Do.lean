/- The statements' own helpers: a number brought into a range. -/
import Derived.Test.YtpaikolnampcfaaGreatDoorKitInts
import Derived.Test.YtpaikolnampcfaaGreatDoorCodeLay
import Derived.Test.YtpaikolnampcfaaGreatDoorLaw06Base
import Derived.Test.YtpaikolnampcfaaGreatDoorRef6Open
import Derived.Test.YtpaikolnampcfaaGreatDoorRef3Two
import Derived.Deep.RegionHeld3
namespace Go.Proofs.YtpaikolnampcfaaGreatDoor
set_option maxRecDepth 100000
set_option maxHeartbeats 8000000
open Go.RowKit
theorem pick_any (x n:Int) (w:World) (hn:1≤n) (_hu:n≤9223372036854775807):
 Calls Tryz.prog 49 #[.int .i64 x,.int .i64 n] w fun e w'=>e= .returned (.int .i64 (x % n))∧w=w':=by
 have hb:=tmod_bd x n (by omega)
 have h1: ¬n < 1:=by omega
 by_cases hneg:x.tmod n < 0
 · have He:=qh (pick_neg x n (by omega) hneg)
   go_enter Tryz.func49,Tryz.ntmps49
   go_wp2
   go_ret
   exact⟨ret_int He.out,rfl⟩
 · have He:=qh (pick_pos x n (by omega) hneg)
   go_enter Tryz.func49,Tryz.ntmps49
   go_wp2
   go_ret
   exact⟨ret_int He.out,rfl⟩
open Go.RowKit
theorem sameInts_any (xs ys:List Int) (A B:Option Addr) (ca cb:Nat) (w:World) (ha:IntsAt w A xs) (hb:IntsAt w B ys) (_hx:xs.length≤9223372036854775807):
 Calls Tryz.prog 21 #[.slice A xs.length ca,.slice B ys.length cb] w fun e w'=>e= .returned (.bool (sameB xs ys))∧ ∃n,w'=w.drewN n:=by
 by_cases hl:xs.length=ys.length
 · have hne:((xs.length:Int) != (ys.length:Int))=false:=by rw [hl];simp
   have Hl:=qh hl;clear hl
   go_enter Tryz.func21,Tryz.ntmps21
   go_wp2_with fail
   go_loopg [5] xs.length (fun g i wx=>(∃nq,wx=w.drewN nq)∧ ∃k:Nat,k≤xs.length∧g=xs.length - k∧i= .int .i64 (k:Int)∧Hid (xs.take k=ys.take k))
   case atStart=>exact⟨⟨0,rfl⟩,0,by omega,rfl,rfl,qh rfl⟩
   case round=>
    obtain⟨⟨nq,rfl⟩,k,hk,hg,rfl,hp⟩:=hrel
    have Hg:=qh hg;clear hg
    by_cases hlt:k < xs.length
    · have hly:k < ys.length:=by have:=Hl.out;omega
      obtain⟨b1,o1,rfl⟩:=ha.some_ (by intro e;simp [e]at hlt)
      obtain⟨b2,o2,rfl⟩:=hb.some_ (by intro e;simp [e]at hly)
      have c1:=ha.one k hlt
      have c2:=hb.one k hly
      have Hs: ∀x y,xs.getD k 0=x→ys.getD k 0=y→Hid (((x != y)=true→sameB xs ys=false)∧((x != y)=false→xs.take (k+1)=ys.take (k+1))):=fun x y h1 h2=>
       qh ⟨fun h=>same_not xs ys k hlt hly (by rw [h1,h2];exact h),fun h=>same_next xs ys k hlt hly hp.out (by rw [h1,h2];exact h)⟩
      generalize xs.getD k 0=x at c1 Hs
      generalize ys.getD k 0=y at c2 Hs
      have Hs:=Hs x y rfl rfl
      go_wp2_with fail
      go_quiet (fail)
      go_wp2_with fail
      · go_ret
        exact⟨ret_bool (Hs.out.1 (by assumption)).symm,_,World.drewN_drewN _ _ _⟩
      · go_roundg (xs.length - (k+1))
        case measure=>rw [Hg.out];omega
        case rel=>exact⟨⟨_,rfl⟩,k+1,by omega,rfl,by go_num,qh (Hs.out.2 (by assumption))⟩
    · have hkk:k=xs.length:=by omega
      have Hk:=qh hkk;clear hkk
      go_wp2_with fail
      go_ret
      exact⟨ret_bool (same_all xs ys k hp.out Hk.out Hl.out).symm,_,rfl⟩
 · have hne:((xs.length:Int) != (ys.length:Int))=true:=by simp;omega
   have Hl:=qh hl;clear hl
   go_enter Tryz.func21,Tryz.ntmps21
   go_wp2_with fail
   go_ret
   exact⟨ret_bool (same_len xs ys Hl.out).symm,0,rfl⟩
open Go.RowKit
def Did6 (w0:World) (hd hr:Nat) (D:DM) (e:Ending) (w':World):Prop:=e= .returned (.bool true)∧ ∃Td Tr,Two w0 w' Td Tr hd hr D D
theorem beq_same6 (x:Int):(x==x)=true:=beq_self_eq_true x
theorem Two.stp {w0 w w2:World} {Td Tr:Nat→Prop} {hd hr:Nat} {D E D':DM} (k:Two w0 w Td Tr hd hr D E) (s:Stp w0 w Td hd D' w2):Two w0 w2 (grow Td w w2) Tr hd hr D' E:=k.dev s.own s.fr
abbrev doesV6 (hd hr:Nat) (x:DeedK):Array Value:= #[.pointer (some ⟨hd,0,none⟩),.pointer (some ⟨hr,0,none⟩),.agg #[.int .i64 x.what,.int .i64 x.k,.int .i64 x.m.ver,.int .i64 x.m.idx,.int .i64 x.m.term,.int .i64 x.m.kind,.int .i64 x.m.void,.int .i64 x.n,.int .i64 x.torn,.int .i64 x.part,.slice x.A x.bs.length x.c]]
abbrev deedO6 (x:DeedK):Obj:= .cells #[.int .i64 x.what,.int .i64 x.k,.int .i64 x.m.ver,.int .i64 x.m.idx,.int .i64 x.m.term,.int .i64 x.m.kind,.int .i64 x.m.void,.int .i64 x.n,.int .i64 x.torn,.int .i64 x.part,.slice x.A x.bs.length x.c] 46
section
variable {σ : Sen} {τ : SenU} {δ : SenD} {κ : SenK} {w0 w : World} {Td Tr : Nat → Prop} {hd hr : Nat} {D : DM}
theorem asks_get (hG:Gls σ τ δ κ w0) (k:Two w0 w Td Tr hd hr D D) {q:Nat} (hF:D.Few q) (hq:q≤900000) (kk:Int) (hwf:wfK kk):
 Calls Tryz.prog 52 #[.pointer (some ⟨hd,0,none⟩),.pointer (some ⟨hr,0,none⟩),.int .i64 kk,.bool false] w (Did6 w0 hd hr D):=by
 have H1:=qh (kGet_any σ τ κ hG.c hG.u hG.d hG.k k.d kk hwf)
 have H2:=qh (fun W (hb:Below w.heap.size w W)=>rget_any (k.r.below hb) hF (by omega) kk)
 have HK:=qh k
 obtain⟨r,hr'⟩: ∃r,getK D kk=r:=⟨_,rfl⟩
 rw [hr']at H1 H2
 obtain⟨⟨v0,i0,t0,k0,o0⟩,en⟩:=r
 unfold MarkV.val at H1 H2
 simp only at H1 H2
 have hee:=beq_same6 en
 clear k hF hq hG hr' hwf
 go_enter Tryz.func52,Tryz.ntmps52
 go_wp2_with fail
 refine H1.out.mono ?_
 rintro e w2 ⟨rfl,hb2⟩
 have hb3:=hb2.trans ((below_new w2 (.cells #[.int .i64 v0,.int .i64 i0,.int .i64 t0,.int .i64 k0,.int .i64 o0] 26)).mono hb2.size)
 have B3:=qh hb3
 have X3:=qh (BlockIs.made w2 26 #[.int .i64 v0,.int .i64 i0,.int .i64 t0,.int .i64 k0,.int .i64 o0])
 have H23:=qh (H2.out _ hb3)
 obtain⟨w3,hw3⟩: ∃w3,w2.alloc (.cells #[.int .i64 v0,.int .i64 i0,.int .i64 t0,.int .i64 k0,.int .i64 o0] 26)=w3:=⟨_,rfl⟩
 rw [hw3]at B3 X3 H23
 have Hw3:=qh hw3
 clear hb2 hb3 hw3 H1 H2
 go_wp2_with fail
 rw [Hw3.out]
 refine H23.out.mono ?_
 rintro e w4 ⟨rfl,hb4⟩
 have hb5:=hb4.trans ((below_new w4 (.cells #[.int .i64 v0,.int .i64 i0,.int .i64 t0,.int .i64 k0,.int .i64 o0] 26)).mono hb4.size)
 have B5:=qh (B3.out.trans (hb5.mono B3.out.size))
 have X5:=qh (X3.out.below hb5 X3.out.lt)
 have Y5:=qh (BlockIs.made w4 26 #[.int .i64 v0,.int .i64 i0,.int .i64 t0,.int .i64 k0,.int .i64 o0])
 obtain⟨w5,hw5⟩: ∃w5,w4.alloc (.cells #[.int .i64 v0,.int .i64 i0,.int .i64 t0,.int .i64 k0,.int .i64 o0] 26)=w5:=⟨_,rfl⟩
 rw [hw5]at B5 X5 Y5
 have Hw5:=qh hw5
 obtain⟨⟨x0,x1,x2,x3,x4⟩,_⟩:=cells_five X5.out
 obtain⟨⟨y0,y1,y2,y3,y4⟩,_⟩:=cells_five Y5.out
 rw [← hw5]at x0 x1 x2 x3 x4 y0 y1 y2 y3 y4
 clear hb4 hb5 hw5 H23
 go_wp2_with fail
 go_ret
 exact⟨rfl,_,_,HK.out.on (by rw [Hw5.out];exact B5.out)⟩
theorem asks_open (hG:Gls σ τ δ κ w0) (k:Two w0 w Td Tr hd hr D D) {q:Nat} (hF:D.Few q) (hq:q≤900000) (kk:Int) (hwf:wfK kk):
 Calls Tryz.prog 52 #[.pointer (some ⟨hd,0,none⟩),.pointer (some ⟨hr,0,none⟩),.int .i64 kk,.bool true] w (Did6 w0 hd hr (openK D kk).2):=by
 have H1:=qh (kOpen_any σ τ κ hG.c hG.u hG.d hG.k k.d hF (by omega) kk hwf)
 have H2:=qh (fun W Td' Tr' D' (k':Two w0 W Td' Tr' hd hr D' D)=>ropen6_any k'.r hF (by omega) kk)
 have HK:=qh k
 obtain⟨r,hr'⟩: ∃r,openK D kk=r:=⟨_,rfl⟩
 rw [hr']at H1 H2 ⊢
 obtain⟨⟨⟨v0,i0,t0,k0,o0⟩,en⟩,D2⟩:=r
 unfold MarkV.val at H1 H2
 simp only at H1 H2 ⊢
 have hee:=beq_same6 en
 clear k hF hq hG hr' hwf
 go_enter Tryz.func52,Tryz.ntmps52
 go_wp2_with fail
 refine H1.out.mono ?_
 rintro e w2 ⟨rfl,hS⟩
 have K3:=qh ((HK.out.stp hS).on (below_new w2 (.cells #[.int .i64 v0,.int .i64 i0,.int .i64 t0,.int .i64 k0,.int .i64 o0] 26)))
 have X3:=qh (BlockIs.made w2 26 #[.int .i64 v0,.int .i64 i0,.int .i64 t0,.int .i64 k0,.int .i64 o0])
 have NX:=qh ((HK.out.stp hS).new (Nat.le_refl w2.heap.size)).2.1
 have H23:=qh (H2.out _ _ _ _ K3.out)
 obtain⟨w3,hw3⟩: ∃w3,w2.alloc (.cells #[.int .i64 v0,.int .i64 i0,.int .i64 t0,.int .i64 k0,.int .i64 o0] 26)=w3:=⟨_,rfl⟩
 rw [hw3]at K3 X3 H23
 have Hw3:=qh hw3
 clear hS hw3 H1 H2
 go_wp2_with fail
 rw [Hw3.out]
 refine H23.out.mono ?_
 rintro e w4 ⟨rfl,hR⟩
 have hb5:=below_new w4 (.cells #[.int .i64 v0,.int .i64 i0,.int .i64 t0,.int .i64 k0,.int .i64 o0] 26)
 have K5:=qh ((K3.out.ref hR).on hb5)
 have X5:=qh ((hR.block X3.out NX.out).1.below hb5 (hR.block X3.out NX.out).1.lt)
 have Y5:=qh (BlockIs.made w4 26 #[.int .i64 v0,.int .i64 i0,.int .i64 t0,.int .i64 k0,.int .i64 o0])
 obtain⟨w5,hw5⟩: ∃w5,w4.alloc (.cells #[.int .i64 v0,.int .i64 i0,.int .i64 t0,.int .i64 k0,.int .i64 o0] 26)=w5:=⟨_,rfl⟩
 rw [hw5]at K5 X5 Y5
 have Hw5:=qh hw5
 obtain⟨⟨x0,x1,x2,x3,x4⟩,_⟩:=cells_five X5.out
 obtain⟨⟨y0,y1,y2,y3,y4⟩,_⟩:=cells_five Y5.out
 rw [← hw5]at x0 x1 x2 x3 x4 y0 y1 y2 y3 y4
 clear hR hb5 hw5 H23
 go_wp2_with fail
 go_ret
 exact⟨rfl,_,_,by rw [Hw5.out];exact K5.out⟩
theorem does6_format (hG:Gls σ τ δ κ w0) (k:Two w0 w Td Tr hd hr D D) {q:Nat} (hF:D.Few q) (hq9:q≤900000) (x:DeedK) (hx:x.ok w0) (hq:x.what % 10=0):
 Calls Tryz.prog 19 (doesV6 hd hr x) w (Did6 w0 hd hr (D.deedK x)):=by
 obtain⟨nn,hnn⟩: ∃nn,x.n % (D.cells.length:Int)=nn:=⟨_,rfl⟩
 have Hst:Hid (D.deedK x=(formatK D).2):=qh (by unfold DM.deedK DM.at';rw [if_pos hq])
 have hbn:=below_new w (deedO6 x)
 have k1:=k.on hbn
 have hB:=BlockIs.made w 46 #[.int .i64 x.what,.int .i64 x.k,.int .i64 x.m.ver,.int .i64 x.m.idx,.int .i64 x.m.term,.int .i64 x.m.kind,.int .i64 x.m.void,.int .i64 x.n,.int .i64 x.torn,.int .i64 x.part,.slice x.A x.bs.length x.c]
 have K1:=qh (And.intro k1 (And.intro hB (Free.mk (k.new (Nat.le_refl w.heap.size)).1 (k.new (Nat.le_refl w.heap.size)).2.1 hB.lt)))
 have HG:=qh hG
 have HF:=qh (And.intro hF hq9)
 have Hq:=qh hq
 have Hx:=qh hx
 have c0:(w.alloc (deedO6 x)).cell? ⟨w.heap.size,0,none⟩=some (.int .i64 x.what):=hB.cell 0
 have c7:(w.alloc (deedO6 x)).cell? ⟨w.heap.size,7,none⟩=some (.int .i64 x.n):=hB.cell 7
 obtain⟨X,cx,d0,_,_⟩:=k1.r.three
 have hM0:=k.d.at_.ok.some_
 have hM1:=k.d.at_.ok.many
 have Hnn:=qh hnn
 clear k k1 hB hbn hG hF hq hq9 hx hnn
 unfold doesV6
 go_enter Tryz.func19,Tryz.ntmps19
 go_wp2_with fail
 unfold deedO6 at *
 generalize (w.alloc (.cells #[.int .i64 x.what,.int .i64 x.k,.int .i64 x.m.ver,.int .i64 x.m.idx,.int .i64 x.m.term,.int .i64 x.m.kind,.int .i64 x.m.void,.int .i64 x.n,.int .i64 x.torn,.int .i64 x.part,.slice x.A x.bs.length x.c] 46))=w1 at *
 go_region_held3 (fun w'=>w'.cell? ⟨w.heap.size,7,none⟩=some (.int .i64 x.n)∧w'.cell? ⟨hr,0,none⟩=some (.slice X D.cells.length cx)) (first | exact⟨c7,d0⟩) (first
  | (go_at_call 49;refine(pick_any x.n (D.cells.length:Int) _ (by omega) (by omega)).mono ?_;rintro e w' ⟨rfl,rfl⟩;rw [Hnn.out])
  | fail)
 have K1d:=qh (show Two w0 w1.drew Td Tr hd hr D D∧BlockIs w1.drew w.heap.size 46 #[.int .i64 x.what,.int .i64 x.k,.int .i64 x.m.ver,.int .i64 x.m.idx,.int .i64 x.m.term,.int .i64 x.m.kind,.int .i64 x.m.void,.int .i64 x.n,.int .i64 x.torn,.int .i64 x.part,.slice x.A x.bs.length x.c]∧Free w1.drew Td Tr w.heap.size from⟨K1.out.1.drew,K1.out.2.1,K1.out.2.2.td,K1.out.2.2.tr,K1.out.2.2.lt⟩)
 clear d0 hM0 hM1 K1 c0 c7
 generalize w1.drew=w1 at K1d ⊢
 have K1:=qh K1d.out
 clear K1d
 have c0:w1.cell? ⟨w.heap.size,0,none⟩=some (.int .i64 x.what):=K1.out.2.1.cell 0
 go_wp2_with fail
 refine(pick_any x.what 10 _ (by decide) (by decide)).mono ?_
 rintro e w' ⟨rfl,rfl⟩
 rw [Hq.out]
 clear c0
 have hbq:=beq_same6 (formatK D).1
 have HD:=qh (kformat_any κ HG.out.d HG.out.k K1.out.1.d HF.out.1 (by have:=HF.out.2;omega))
 go_wp2_with fail
 refine HD.out.mono ?_
 rintro e w2 ⟨rfl,h2⟩
 have K2:=qh (K1.out.1.stp h2)
 have HR:=qh (rformat_any K2.out.r HF.out.1 (by have:=HF.out.2;omega))
 clear h2 HD
 go_wp2_with fail
 refine HR.out.mono ?_
 rintro e w3 ⟨rfl,h2⟩
 have K3:=qh (K2.out.ref h2)
 clear h2 HR
 go_wp2_with fail
 go_ret
 exact⟨rfl,_,_,by rw [Hst.out];exact K3.out⟩
theorem does6_put1 (hG:Gls σ τ δ κ w0) (k:Two w0 w Td Tr hd hr D D) {q:Nat} (hF:D.Few q) (hq9:q≤900000) (x:DeedK) (hx:x.ok w0) (hq:x.what % 10=1):
 Calls Tryz.prog 19 (doesV6 hd hr x) w (Did6 w0 hd hr (D.deedK x)):=by
 obtain⟨nn,hnn⟩: ∃nn,x.n % (D.cells.length:Int)=nn:=⟨_,rfl⟩
 have Hst:Hid (D.deedK x=(putK D x.k x.m).2):=qh (by unfold DM.deedK DM.at';rw [if_neg (by omega),if_pos (by omega)])
 have hbn:=below_new w (deedO6 x)
 have k1:=k.on hbn
 have hB:=BlockIs.made w 46 #[.int .i64 x.what,.int .i64 x.k,.int .i64 x.m.ver,.int .i64 x.m.idx,.int .i64 x.m.term,.int .i64 x.m.kind,.int .i64 x.m.void,.int .i64 x.n,.int .i64 x.torn,.int .i64 x.part,.slice x.A x.bs.length x.c]
 have K1:=qh (And.intro k1 (And.intro hB (Free.mk (k.new (Nat.le_refl w.heap.size)).1 (k.new (Nat.le_refl w.heap.size)).2.1 hB.lt)))
 have HG:=qh hG
 have HF:=qh (And.intro hF hq9)
 have Hq:=qh hq
 have Hx:=qh hx
 have c0:(w.alloc (deedO6 x)).cell? ⟨w.heap.size,0,none⟩=some (.int .i64 x.what):=hB.cell 0
 have c1:(w.alloc (deedO6 x)).cell? ⟨w.heap.size,1,none⟩=some (.int .i64 x.k):=hB.cell 1
 have c2:(w.alloc (deedO6 x)).cell? ⟨w.heap.size,2,none⟩=some (.int .i64 x.m.ver):=hB.cell 2
 have c3:(w.alloc (deedO6 x)).cell? ⟨w.heap.size,3,none⟩=some (.int .i64 x.m.idx):=hB.cell 3
 have c4:(w.alloc (deedO6 x)).cell? ⟨w.heap.size,4,none⟩=some (.int .i64 x.m.term):=hB.cell 4
 have c5:(w.alloc (deedO6 x)).cell? ⟨w.heap.size,5,none⟩=some (.int .i64 x.m.kind):=hB.cell 5
 have c6:(w.alloc (deedO6 x)).cell? ⟨w.heap.size,6,none⟩=some (.int .i64 x.m.void):=hB.cell 6
 have c7:(w.alloc (deedO6 x)).cell? ⟨w.heap.size,7,none⟩=some (.int .i64 x.n):=hB.cell 7
 obtain⟨X,cx,d0,_,_⟩:=k1.r.three
 have hM0:=k.d.at_.ok.some_
 have hM1:=k.d.at_.ok.many
 have Hnn:=qh hnn
 clear k k1 hB hbn hG hF hq hq9 hx hnn
 unfold doesV6
 go_enter Tryz.func19,Tryz.ntmps19
 go_wp2_with fail
 unfold deedO6 at *
 generalize (w.alloc (.cells #[.int .i64 x.what,.int .i64 x.k,.int .i64 x.m.ver,.int .i64 x.m.idx,.int .i64 x.m.term,.int .i64 x.m.kind,.int .i64 x.m.void,.int .i64 x.n,.int .i64 x.torn,.int .i64 x.part,.slice x.A x.bs.length x.c] 46))=w1 at *
 go_region_held3 (fun w'=>w'.cell? ⟨w.heap.size,7,none⟩=some (.int .i64 x.n)∧w'.cell? ⟨hr,0,none⟩=some (.slice X D.cells.length cx)) (first | exact⟨c7,d0⟩) (first
  | (go_at_call 49;refine(pick_any x.n (D.cells.length:Int) _ (by omega) (by omega)).mono ?_;rintro e w' ⟨rfl,rfl⟩;rw [Hnn.out])
  | fail)
 have K1d:=qh (show Two w0 w1.drew Td Tr hd hr D D∧BlockIs w1.drew w.heap.size 46 #[.int .i64 x.what,.int .i64 x.k,.int .i64 x.m.ver,.int .i64 x.m.idx,.int .i64 x.m.term,.int .i64 x.m.kind,.int .i64 x.m.void,.int .i64 x.n,.int .i64 x.torn,.int .i64 x.part,.slice x.A x.bs.length x.c]∧Free w1.drew Td Tr w.heap.size from⟨K1.out.1.drew,K1.out.2.1,K1.out.2.2.td,K1.out.2.2.tr,K1.out.2.2.lt⟩)
 clear d0 hM0 hM1 K1 c0 c1 c2 c3 c4 c5 c6 c7
 generalize w1.drew=w1 at K1d ⊢
 have K1:=qh K1d.out
 clear K1d
 have c0:w1.cell? ⟨w.heap.size,0,none⟩=some (.int .i64 x.what):=K1.out.2.1.cell 0
 have c1:w1.cell? ⟨w.heap.size,1,none⟩=some (.int .i64 x.k):=K1.out.2.1.cell 1
 have c2:w1.cell? ⟨w.heap.size,2,none⟩=some (.int .i64 x.m.ver):=K1.out.2.1.cell 2
 have c3:w1.cell? ⟨w.heap.size,3,none⟩=some (.int .i64 x.m.idx):=K1.out.2.1.cell 3
 have c4:w1.cell? ⟨w.heap.size,4,none⟩=some (.int .i64 x.m.term):=K1.out.2.1.cell 4
 have c5:w1.cell? ⟨w.heap.size,5,none⟩=some (.int .i64 x.m.kind):=K1.out.2.1.cell 5
 have c6:w1.cell? ⟨w.heap.size,6,none⟩=some (.int .i64 x.m.void):=K1.out.2.1.cell 6
 go_wp2_with fail
 refine(pick_any x.what 10 _ (by decide) (by decide)).mono ?_
 rintro e w' ⟨rfl,rfl⟩
 rw [Hq.out]
 clear c0
 have hbq:=beq_same6 ((putK D x.k x.m).1)
 go_wp2_with fail
 go_region_held3 (fun w'=>w'.cell? ⟨w.heap.size,1,none⟩=some (.int .i64 x.k)∧w'.cell? ⟨w.heap.size,2,none⟩=some (.int .i64 x.m.ver)∧w'.cell? ⟨w.heap.size,3,none⟩=some (.int .i64 x.m.idx)∧w'.cell? ⟨w.heap.size,4,none⟩=some (.int .i64 x.m.term)∧w'.cell? ⟨w.heap.size,5,none⟩=some (.int .i64 x.m.kind)∧w'.cell? ⟨w.heap.size,6,none⟩=some (.int .i64 x.m.void)) (first | exact⟨c1,c2,c3,c4,c5,c6⟩ | exact⟨k1,k2,k3,k4,k5,k6⟩ | exact⟨j1,j2,j3,j4,j5,j6⟩) (first | (go_at_call 32;refine((show Calls Tryz.prog 32 #[.pointer (some ⟨hd,0,none⟩),.int .i64 x.k,.agg #[.int .i64 x.m.ver,.int .i64 x.m.idx,.int .i64 x.m.term,.int .i64 x.m.kind,.int .i64 x.m.void]] _ _ from kput_any κ HG.out.d HG.out.k K1.out.1.drew.d HF.out.1 (by have:=HF.out.2;omega) x.k Hx.out.k x.m)).mono ?_;rintro e w2 ⟨rfl,h2⟩;have K2:=qh (And.intro (K1.out.1.drew.stp h2) (BlockIs.keep (show BlockIs w1.drew w.heap.size _ _ from K1.out.2.1) (h2.fr.block _ K1.out.2.2.lt K1.out.2.2.td)));have k1:w2.cell? ⟨w.heap.size,1,none⟩=some (.int .i64 x.k):=K2.out.2.cell 1;have k2:w2.cell? ⟨w.heap.size,2,none⟩=some (.int .i64 x.m.ver):=K2.out.2.cell 2;have k3:w2.cell? ⟨w.heap.size,3,none⟩=some (.int .i64 x.m.idx):=K2.out.2.cell 3;have k4:w2.cell? ⟨w.heap.size,4,none⟩=some (.int .i64 x.m.term):=K2.out.2.cell 4;have k5:w2.cell? ⟨w.heap.size,5,none⟩=some (.int .i64 x.m.kind):=K2.out.2.cell 5;have k6:w2.cell? ⟨w.heap.size,6,none⟩=some (.int .i64 x.m.void):=K2.out.2.cell 6;clear h2) | (go_at_call 51;refine((show Calls Tryz.prog 51 #[.pointer (some ⟨hr,0,none⟩),.int .i64 x.k,.agg #[.int .i64 x.m.ver,.int .i64 x.m.idx,.int .i64 x.m.term,.int .i64 x.m.kind,.int .i64 x.m.void]] _ _ from rput_any K2.out.1.r HF.out.1 (by have:=HF.out.2;omega) x.k x.m)).mono ?_;rintro e w3 ⟨rfl,h2⟩;have K3:=qh (And.intro (K2.out.1.ref h2) (K2.out.2.keep (h2.fr.block _ (World.block_lt_of_cell? _ _ (K2.out.2.cell 0)) K1.out.2.2.tr)));have j1:w3.cell? ⟨w.heap.size,1,none⟩=some (.int .i64 x.k):=K3.out.2.cell 1;have j2:w3.cell? ⟨w.heap.size,2,none⟩=some (.int .i64 x.m.ver):=K3.out.2.cell 2;have j3:w3.cell? ⟨w.heap.size,3,none⟩=some (.int .i64 x.m.idx):=K3.out.2.cell 3;have j4:w3.cell? ⟨w.heap.size,4,none⟩=some (.int .i64 x.m.term):=K3.out.2.cell 4;have j5:w3.cell? ⟨w.heap.size,5,none⟩=some (.int .i64 x.m.kind):=K3.out.2.cell 5;have j6:w3.cell? ⟨w.heap.size,6,none⟩=some (.int .i64 x.m.void):=K3.out.2.cell 6;clear h2))
 all_goals
  go_wp2_with fail
  go_ret
  exact⟨rfl,_,_,by rw [Hst.out];first | exact K3.out.1 | exact K3.out.1.drew⟩
theorem does6_put2 (hG:Gls σ τ δ κ w0) (k:Two w0 w Td Tr hd hr D D) {q:Nat} (hF:D.Few q) (hq9:q≤900000) (x:DeedK) (hx:x.ok w0) (hq:x.what % 10=2):
 Calls Tryz.prog 19 (doesV6 hd hr x) w (Did6 w0 hd hr (D.deedK x)):=by
 obtain⟨nn,hnn⟩: ∃nn,x.n % (D.cells.length:Int)=nn:=⟨_,rfl⟩
 have Hst:Hid (D.deedK x=(putK D x.k x.m).2):=qh (by unfold DM.deedK DM.at';rw [if_neg (by omega),if_pos (by omega)])
 have hbn:=below_new w (deedO6 x)
 have k1:=k.on hbn
 have hB:=BlockIs.made w 46 #[.int .i64 x.what,.int .i64 x.k,.int .i64 x.m.ver,.int .i64 x.m.idx,.int .i64 x.m.term,.int .i64 x.m.kind,.int .i64 x.m.void,.int .i64 x.n,.int .i64 x.torn,.int .i64 x.part,.slice x.A x.bs.length x.c]
 have K1:=qh (And.intro k1 (And.intro hB (Free.mk (k.new (Nat.le_refl w.heap.size)).1 (k.new (Nat.le_refl w.heap.size)).2.1 hB.lt)))
 have HG:=qh hG
 have HF:=qh (And.intro hF hq9)
 have Hq:=qh hq
 have Hx:=qh hx
 have c0:(w.alloc (deedO6 x)).cell? ⟨w.heap.size,0,none⟩=some (.int .i64 x.what):=hB.cell 0
 have c1:(w.alloc (deedO6 x)).cell? ⟨w.heap.size,1,none⟩=some (.int .i64 x.k):=hB.cell 1
 have c2:(w.alloc (deedO6 x)).cell? ⟨w.heap.size,2,none⟩=some (.int .i64 x.m.ver):=hB.cell 2
 have c3:(w.alloc (deedO6 x)).cell? ⟨w.heap.size,3,none⟩=some (.int .i64 x.m.idx):=hB.cell 3
 have c4:(w.alloc (deedO6 x)).cell? ⟨w.heap.size,4,none⟩=some (.int .i64 x.m.term):=hB.cell 4
 have c5:(w.alloc (deedO6 x)).cell? ⟨w.heap.size,5,none⟩=some (.int .i64 x.m.kind):=hB.cell 5
 have c6:(w.alloc (deedO6 x)).cell? ⟨w.heap.size,6,none⟩=some (.int .i64 x.m.void):=hB.cell 6
 have c7:(w.alloc (deedO6 x)).cell? ⟨w.heap.size,7,none⟩=some (.int .i64 x.n):=hB.cell 7
 obtain⟨X,cx,d0,_,_⟩:=k1.r.three
 have hM0:=k.d.at_.ok.some_
 have hM1:=k.d.at_.ok.many
 have Hnn:=qh hnn
 clear k k1 hB hbn hG hF hq hq9 hx hnn
 unfold doesV6
 go_enter Tryz.func19,Tryz.ntmps19
 go_wp2_with fail
 unfold deedO6 at *
 generalize (w.alloc (.cells #[.int .i64 x.what,.int .i64 x.k,.int .i64 x.m.ver,.int .i64 x.m.idx,.int .i64 x.m.term,.int .i64 x.m.kind,.int .i64 x.m.void,.int .i64 x.n,.int .i64 x.torn,.int .i64 x.part,.slice x.A x.bs.length x.c] 46))=w1 at *
 go_region_held3 (fun w'=>w'.cell? ⟨w.heap.size,7,none⟩=some (.int .i64 x.n)∧w'.cell? ⟨hr,0,none⟩=some (.slice X D.cells.length cx)) (first | exact⟨c7,d0⟩) (first
  | (go_at_call 49;refine(pick_any x.n (D.cells.length:Int) _ (by omega) (by omega)).mono ?_;rintro e w' ⟨rfl,rfl⟩;rw [Hnn.out])
  | fail)
 have K1d:=qh (show Two w0 w1.drew Td Tr hd hr D D∧BlockIs w1.drew w.heap.size 46 #[.int .i64 x.what,.int .i64 x.k,.int .i64 x.m.ver,.int .i64 x.m.idx,.int .i64 x.m.term,.int .i64 x.m.kind,.int .i64 x.m.void,.int .i64 x.n,.int .i64 x.torn,.int .i64 x.part,.slice x.A x.bs.length x.c]∧Free w1.drew Td Tr w.heap.size from⟨K1.out.1.drew,K1.out.2.1,K1.out.2.2.td,K1.out.2.2.tr,K1.out.2.2.lt⟩)
 clear d0 hM0 hM1 K1 c0 c1 c2 c3 c4 c5 c6 c7
 generalize w1.drew=w1 at K1d ⊢
 have K1:=qh K1d.out
 clear K1d
 have c0:w1.cell? ⟨w.heap.size,0,none⟩=some (.int .i64 x.what):=K1.out.2.1.cell 0
 have c1:w1.cell? ⟨w.heap.size,1,none⟩=some (.int .i64 x.k):=K1.out.2.1.cell 1
 have c2:w1.cell? ⟨w.heap.size,2,none⟩=some (.int .i64 x.m.ver):=K1.out.2.1.cell 2
 have c3:w1.cell? ⟨w.heap.size,3,none⟩=some (.int .i64 x.m.idx):=K1.out.2.1.cell 3
 have c4:w1.cell? ⟨w.heap.size,4,none⟩=some (.int .i64 x.m.term):=K1.out.2.1.cell 4
 have c5:w1.cell? ⟨w.heap.size,5,none⟩=some (.int .i64 x.m.kind):=K1.out.2.1.cell 5
 have c6:w1.cell? ⟨w.heap.size,6,none⟩=some (.int .i64 x.m.void):=K1.out.2.1.cell 6
 go_wp2_with fail
 refine(pick_any x.what 10 _ (by decide) (by decide)).mono ?_
 rintro e w' ⟨rfl,rfl⟩
 rw [Hq.out]
 clear c0
 have hbq:=beq_same6 ((putK D x.k x.m).1)
 go_wp2_with fail
 go_region_held3 (fun w'=>w'.cell? ⟨w.heap.size,1,none⟩=some (.int .i64 x.k)∧w'.cell? ⟨w.heap.size,2,none⟩=some (.int .i64 x.m.ver)∧w'.cell? ⟨w.heap.size,3,none⟩=some (.int .i64 x.m.idx)∧w'.cell? ⟨w.heap.size,4,none⟩=some (.int .i64 x.m.term)∧w'.cell? ⟨w.heap.size,5,none⟩=some (.int .i64 x.m.kind)∧w'.cell? ⟨w.heap.size,6,none⟩=some (.int .i64 x.m.void)) (first | exact⟨c1,c2,c3,c4,c5,c6⟩ | exact⟨k1,k2,k3,k4,k5,k6⟩ | exact⟨j1,j2,j3,j4,j5,j6⟩) (first | (go_at_call 32;refine((show Calls Tryz.prog 32 #[.pointer (some ⟨hd,0,none⟩),.int .i64 x.k,.agg #[.int .i64 x.m.ver,.int .i64 x.m.idx,.int .i64 x.m.term,.int .i64 x.m.kind,.int .i64 x.m.void]] _ _ from kput_any κ HG.out.d HG.out.k K1.out.1.drew.d HF.out.1 (by have:=HF.out.2;omega) x.k Hx.out.k x.m)).mono ?_;rintro e w2 ⟨rfl,h2⟩;have K2:=qh (And.intro (K1.out.1.drew.stp h2) (BlockIs.keep (show BlockIs w1.drew w.heap.size _ _ from K1.out.2.1) (h2.fr.block _ K1.out.2.2.lt K1.out.2.2.td)));have k1:w2.cell? ⟨w.heap.size,1,none⟩=some (.int .i64 x.k):=K2.out.2.cell 1;have k2:w2.cell? ⟨w.heap.size,2,none⟩=some (.int .i64 x.m.ver):=K2.out.2.cell 2;have k3:w2.cell? ⟨w.heap.size,3,none⟩=some (.int .i64 x.m.idx):=K2.out.2.cell 3;have k4:w2.cell? ⟨w.heap.size,4,none⟩=some (.int .i64 x.m.term):=K2.out.2.cell 4;have k5:w2.cell? ⟨w.heap.size,5,none⟩=some (.int .i64 x.m.kind):=K2.out.2.cell 5;have k6:w2.cell? ⟨w.heap.size,6,none⟩=some (.int .i64 x.m.void):=K2.out.2.cell 6;clear h2) | (go_at_call 51;refine((show Calls Tryz.prog 51 #[.pointer (some ⟨hr,0,none⟩),.int .i64 x.k,.agg #[.int .i64 x.m.ver,.int .i64 x.m.idx,.int .i64 x.m.term,.int .i64 x.m.kind,.int .i64 x.m.void]] _ _ from rput_any K2.out.1.r HF.out.1 (by have:=HF.out.2;omega) x.k x.m)).mono ?_;rintro e w3 ⟨rfl,h2⟩;have K3:=qh (And.intro (K2.out.1.ref h2) (K2.out.2.keep (h2.fr.block _ (World.block_lt_of_cell? _ _ (K2.out.2.cell 0)) K1.out.2.2.tr)));have j1:w3.cell? ⟨w.heap.size,1,none⟩=some (.int .i64 x.k):=K3.out.2.cell 1;have j2:w3.cell? ⟨w.heap.size,2,none⟩=some (.int .i64 x.m.ver):=K3.out.2.cell 2;have j3:w3.cell? ⟨w.heap.size,3,none⟩=some (.int .i64 x.m.idx):=K3.out.2.cell 3;have j4:w3.cell? ⟨w.heap.size,4,none⟩=some (.int .i64 x.m.term):=K3.out.2.cell 4;have j5:w3.cell? ⟨w.heap.size,5,none⟩=some (.int .i64 x.m.kind):=K3.out.2.cell 5;have j6:w3.cell? ⟨w.heap.size,6,none⟩=some (.int .i64 x.m.void):=K3.out.2.cell 6;clear h2))
 all_goals
  go_wp2_with fail
  go_ret
  exact⟨rfl,_,_,by rw [Hst.out];first | exact K3.out.1 | exact K3.out.1.drew⟩
theorem does6_get (hG:Gls σ τ δ κ w0) (k:Two w0 w Td Tr hd hr D D) {q:Nat} (hF:D.Few q) (hq9:q≤900000) (x:DeedK) (hx:x.ok w0) (hq:x.what % 10=3):
 Calls Tryz.prog 19 (doesV6 hd hr x) w (Did6 w0 hd hr (D.deedK x)):=by
 obtain⟨nn,hnn⟩: ∃nn,x.n % (D.cells.length:Int)=nn:=⟨_,rfl⟩
 have Hst:Hid (D.deedK x=D):=qh (by unfold DM.deedK DM.at';rw [if_neg (by omega),if_neg (by omega),if_pos hq])
 have hbn:=below_new w (deedO6 x)
 have k1:=k.on hbn
 have hB:=BlockIs.made w 46 #[.int .i64 x.what,.int .i64 x.k,.int .i64 x.m.ver,.int .i64 x.m.idx,.int .i64 x.m.term,.int .i64 x.m.kind,.int .i64 x.m.void,.int .i64 x.n,.int .i64 x.torn,.int .i64 x.part,.slice x.A x.bs.length x.c]
 have K1:=qh (And.intro k1 (And.intro hB (Free.mk (k.new (Nat.le_refl w.heap.size)).1 (k.new (Nat.le_refl w.heap.size)).2.1 hB.lt)))
 have HG:=qh hG
 have HF:=qh (And.intro hF hq9)
 have Hq:=qh hq
 have Hx:=qh hx
 have c0:(w.alloc (deedO6 x)).cell? ⟨w.heap.size,0,none⟩=some (.int .i64 x.what):=hB.cell 0
 have c1:(w.alloc (deedO6 x)).cell? ⟨w.heap.size,1,none⟩=some (.int .i64 x.k):=hB.cell 1
 have c7:(w.alloc (deedO6 x)).cell? ⟨w.heap.size,7,none⟩=some (.int .i64 x.n):=hB.cell 7
 obtain⟨X,cx,d0,_,_⟩:=k1.r.three
 have hM0:=k.d.at_.ok.some_
 have hM1:=k.d.at_.ok.many
 have Hnn:=qh hnn
 clear k k1 hB hbn hG hF hq hq9 hx hnn
 unfold doesV6
 go_enter Tryz.func19,Tryz.ntmps19
 go_wp2_with fail
 unfold deedO6 at *
 generalize (w.alloc (.cells #[.int .i64 x.what,.int .i64 x.k,.int .i64 x.m.ver,.int .i64 x.m.idx,.int .i64 x.m.term,.int .i64 x.m.kind,.int .i64 x.m.void,.int .i64 x.n,.int .i64 x.torn,.int .i64 x.part,.slice x.A x.bs.length x.c] 46))=w1 at *
 go_region_held3 (fun w'=>w'.cell? ⟨w.heap.size,7,none⟩=some (.int .i64 x.n)∧w'.cell? ⟨hr,0,none⟩=some (.slice X D.cells.length cx)) (first | exact⟨c7,d0⟩) (first
  | (go_at_call 49;refine(pick_any x.n (D.cells.length:Int) _ (by omega) (by omega)).mono ?_;rintro e w' ⟨rfl,rfl⟩;rw [Hnn.out])
  | fail)
 have K1d:=qh (show Two w0 w1.drew Td Tr hd hr D D∧BlockIs w1.drew w.heap.size 46 #[.int .i64 x.what,.int .i64 x.k,.int .i64 x.m.ver,.int .i64 x.m.idx,.int .i64 x.m.term,.int .i64 x.m.kind,.int .i64 x.m.void,.int .i64 x.n,.int .i64 x.torn,.int .i64 x.part,.slice x.A x.bs.length x.c]∧Free w1.drew Td Tr w.heap.size from⟨K1.out.1.drew,K1.out.2.1,K1.out.2.2.td,K1.out.2.2.tr,K1.out.2.2.lt⟩)
 clear d0 hM0 hM1 K1 c0 c1 c7
 generalize w1.drew=w1 at K1d ⊢
 have K1:=qh K1d.out
 clear K1d
 have c0:w1.cell? ⟨w.heap.size,0,none⟩=some (.int .i64 x.what):=K1.out.2.1.cell 0
 have c1:w1.cell? ⟨w.heap.size,1,none⟩=some (.int .i64 x.k):=K1.out.2.1.cell 1
 go_wp2_with fail
 refine(pick_any x.what 10 _ (by decide) (by decide)).mono ?_
 rintro e w' ⟨rfl,rfl⟩
 rw [Hq.out]
 clear c0
 have HA:=qh (asks_get HG.out K1.out.1 HF.out.1 HF.out.2 x.k Hx.out.k)
 go_wp2_with fail
 refine HA.out.mono ?_
 rintro e w2 ⟨rfl,Td2,Tr2,k2⟩
 have K3:=qh k2
 clear k2 HA c1
 go_wp2_with fail
 go_ret
 exact⟨rfl,_,_,by rw [Hst.out];exact K3.out⟩
theorem does6_open (hG:Gls σ τ δ κ w0) (k:Two w0 w Td Tr hd hr D D) {q:Nat} (hF:D.Few q) (hq9:q≤900000) (x:DeedK) (hx:x.ok w0) (hq:x.what % 10=4):
 Calls Tryz.prog 19 (doesV6 hd hr x) w (Did6 w0 hd hr (D.deedK x)):=by
 obtain⟨nn,hnn⟩: ∃nn,x.n % (D.cells.length:Int)=nn:=⟨_,rfl⟩
 have Hst:Hid (D.deedK x=(openK D x.k).2):=qh (by unfold DM.deedK DM.at';rw [if_neg (by omega),if_neg (by omega),if_neg (by omega),if_pos hq])
 have hbn:=below_new w (deedO6 x)
 have k1:=k.on hbn
 have hB:=BlockIs.made w 46 #[.int .i64 x.what,.int .i64 x.k,.int .i64 x.m.ver,.int .i64 x.m.idx,.int .i64 x.m.term,.int .i64 x.m.kind,.int .i64 x.m.void,.int .i64 x.n,.int .i64 x.torn,.int .i64 x.part,.slice x.A x.bs.length x.c]
 have K1:=qh (And.intro k1 (And.intro hB (Free.mk (k.new (Nat.le_refl w.heap.size)).1 (k.new (Nat.le_refl w.heap.size)).2.1 hB.lt)))
 have HG:=qh hG
 have HF:=qh (And.intro hF hq9)
 have Hq:=qh hq
 have Hx:=qh hx
 have c0:(w.alloc (deedO6 x)).cell? ⟨w.heap.size,0,none⟩=some (.int .i64 x.what):=hB.cell 0
 have c1:(w.alloc (deedO6 x)).cell? ⟨w.heap.size,1,none⟩=some (.int .i64 x.k):=hB.cell 1
 have c7:(w.alloc (deedO6 x)).cell? ⟨w.heap.size,7,none⟩=some (.int .i64 x.n):=hB.cell 7
 obtain⟨X,cx,d0,_,_⟩:=k1.r.three
 have hM0:=k.d.at_.ok.some_
 have hM1:=k.d.at_.ok.many
 have Hnn:=qh hnn
 clear k k1 hB hbn hG hF hq hq9 hx hnn
 unfold doesV6
 go_enter Tryz.func19,Tryz.ntmps19
 go_wp2_with fail
 unfold deedO6 at *
 generalize (w.alloc (.cells #[.int .i64 x.what,.int .i64 x.k,.int .i64 x.m.ver,.int .i64 x.m.idx,.int .i64 x.m.term,.int .i64 x.m.kind,.int .i64 x.m.void,.int .i64 x.n,.int .i64 x.torn,.int .i64 x.part,.slice x.A x.bs.length x.c] 46))=w1 at *
 go_region_held3 (fun w'=>w'.cell? ⟨w.heap.size,7,none⟩=some (.int .i64 x.n)∧w'.cell? ⟨hr,0,none⟩=some (.slice X D.cells.length cx)) (first | exact⟨c7,d0⟩) (first
  | (go_at_call 49;refine(pick_any x.n (D.cells.length:Int) _ (by omega) (by omega)).mono ?_;rintro e w' ⟨rfl,rfl⟩;rw [Hnn.out])
  | fail)
 have K1d:=qh (show Two w0 w1.drew Td Tr hd hr D D∧BlockIs w1.drew w.heap.size 46 #[.int .i64 x.what,.int .i64 x.k,.int .i64 x.m.ver,.int .i64 x.m.idx,.int .i64 x.m.term,.int .i64 x.m.kind,.int .i64 x.m.void,.int .i64 x.n,.int .i64 x.torn,.int .i64 x.part,.slice x.A x.bs.length x.c]∧Free w1.drew Td Tr w.heap.size from⟨K1.out.1.drew,K1.out.2.1,K1.out.2.2.td,K1.out.2.2.tr,K1.out.2.2.lt⟩)
 clear d0 hM0 hM1 K1 c0 c1 c7
 generalize w1.drew=w1 at K1d ⊢
 have K1:=qh K1d.out
 clear K1d
 have c0:w1.cell? ⟨w.heap.size,0,none⟩=some (.int .i64 x.what):=K1.out.2.1.cell 0
 have c1:w1.cell? ⟨w.heap.size,1,none⟩=some (.int .i64 x.k):=K1.out.2.1.cell 1
 go_wp2_with fail
 refine(pick_any x.what 10 _ (by decide) (by decide)).mono ?_
 rintro e w' ⟨rfl,rfl⟩
 rw [Hq.out]
 clear c0
 have HA:=qh (asks_open HG.out K1.out.1 HF.out.1 HF.out.2 x.k Hx.out.k)
 go_wp2_with fail
 refine HA.out.mono ?_
 rintro e w2 ⟨rfl,Td2,Tr2,k2⟩
 have K3:=qh k2
 clear k2 HA c1
 go_wp2_with fail
 go_ret
 exact⟨rfl,_,_,by rw [Hst.out];exact K3.out⟩
theorem does6_arm (hG:Gls σ τ δ κ w0) (k:Two w0 w Td Tr hd hr D D) {q:Nat} (hF:D.Few q) (hq9:q≤900000) (x:DeedK) (hx:x.ok w0) (hq:x.what % 10=5):
 Calls Tryz.prog 19 (doesV6 hd hr x) w (Did6 w0 hd hr (D.deedK x)):=by
 obtain⟨nn,hnn⟩: ∃nn,x.n % (D.cells.length:Int)=nn:=⟨_,rfl⟩
 have Hst:Hid (D.deedK x=D.arm x.n):=qh (by unfold DM.deedK DM.at';rw [if_neg (by omega),if_neg (by omega),if_neg (by omega),if_neg (by omega),if_pos hq])
 have hbn:=below_new w (deedO6 x)
 have k1:=k.on hbn
 have hB:=BlockIs.made w 46 #[.int .i64 x.what,.int .i64 x.k,.int .i64 x.m.ver,.int .i64 x.m.idx,.int .i64 x.m.term,.int .i64 x.m.kind,.int .i64 x.m.void,.int .i64 x.n,.int .i64 x.torn,.int .i64 x.part,.slice x.A x.bs.length x.c]
 have K1:=qh (And.intro k1 (And.intro hB (Free.mk (k.new (Nat.le_refl w.heap.size)).1 (k.new (Nat.le_refl w.heap.size)).2.1 hB.lt)))
 have HG:=qh hG
 have HF:=qh (And.intro hF hq9)
 have Hq:=qh hq
 have Hx:=qh hx
 have c0:(w.alloc (deedO6 x)).cell? ⟨w.heap.size,0,none⟩=some (.int .i64 x.what):=hB.cell 0
 have c7:(w.alloc (deedO6 x)).cell? ⟨w.heap.size,7,none⟩=some (.int .i64 x.n):=hB.cell 7
 obtain⟨X,cx,d0,_,_⟩:=k1.r.three
 have hM0:=k.d.at_.ok.some_
 have hM1:=k.d.at_.ok.many
 have Hnn:=qh hnn
 clear k k1 hB hbn hG hF hq hq9 hx hnn
 unfold doesV6
 go_enter Tryz.func19,Tryz.ntmps19
 go_wp2_with fail
 unfold deedO6 at *
 generalize (w.alloc (.cells #[.int .i64 x.what,.int .i64 x.k,.int .i64 x.m.ver,.int .i64 x.m.idx,.int .i64 x.m.term,.int .i64 x.m.kind,.int .i64 x.m.void,.int .i64 x.n,.int .i64 x.torn,.int .i64 x.part,.slice x.A x.bs.length x.c] 46))=w1 at *
 go_region_held3 (fun w'=>w'.cell? ⟨w.heap.size,7,none⟩=some (.int .i64 x.n)∧w'.cell? ⟨hr,0,none⟩=some (.slice X D.cells.length cx)) (first | exact⟨c7,d0⟩) (first
  | (go_at_call 49;refine(pick_any x.n (D.cells.length:Int) _ (by omega) (by omega)).mono ?_;rintro e w' ⟨rfl,rfl⟩;rw [Hnn.out])
  | fail)
 have K1d:=qh (show Two w0 w1.drew Td Tr hd hr D D∧BlockIs w1.drew w.heap.size 46 #[.int .i64 x.what,.int .i64 x.k,.int .i64 x.m.ver,.int .i64 x.m.idx,.int .i64 x.m.term,.int .i64 x.m.kind,.int .i64 x.m.void,.int .i64 x.n,.int .i64 x.torn,.int .i64 x.part,.slice x.A x.bs.length x.c]∧Free w1.drew Td Tr w.heap.size from⟨K1.out.1.drew,K1.out.2.1,K1.out.2.2.td,K1.out.2.2.tr,K1.out.2.2.lt⟩)
 clear d0 hM0 hM1 K1 c0 c7
 generalize w1.drew=w1 at K1d ⊢
 have K1:=qh K1d.out
 clear K1d
 have c0:w1.cell? ⟨w.heap.size,0,none⟩=some (.int .i64 x.what):=K1.out.2.1.cell 0
 have c7:w1.cell? ⟨w.heap.size,7,none⟩=some (.int .i64 x.n):=K1.out.2.1.cell 7
 go_wp2_with fail
 refine(pick_any x.what 10 _ (by decide) (by decide)).mono ?_
 rintro e w' ⟨rfl,rfl⟩
 rw [Hq.out]
 clear c0
 have HD:=qh (arm_stp HG.out.d K1.out.1.d x.n Hx.out.n)
 go_wp2_with fail
 refine HD.out.mono ?_
 rintro e w2 ⟨rfl,h2⟩
 have K2:=qh (And.intro (K1.out.1.stp h2) (K1.out.2.1.keep (h2.fr.block _ K1.out.2.2.lt K1.out.2.2.td)))
 have c72:w2.cell? ⟨w.heap.size,7,none⟩=some (.int .i64 x.n):=K2.out.2.cell 7
 have HR:=qh (arm3_any K2.out.1.r x.n Hx.out.n)
 clear h2 HD c7
 go_wp2_with fail
 refine HR.out.mono ?_
 rintro e w3 ⟨rfl,h2⟩
 have K3:=qh (K2.out.1.ref h2)
 clear h2 HR c72
 go_wp2_with fail
 go_ret
 exact⟨rfl,_,_,by rw [Hst.out];exact K3.out⟩
theorem does6_wipe (hG:Gls σ τ δ κ w0) (k:Two w0 w Td Tr hd hr D D) {q:Nat} (hF:D.Few q) (hq9:q≤900000) (x:DeedK) (hx:x.ok w0) (hq:x.what % 10=7):
 Calls Tryz.prog 19 (doesV6 hd hr x) w (Did6 w0 hd hr (D.deedK x)):=by
 obtain⟨nn,hnn⟩: ∃nn,x.n % (D.cells.length:Int)=nn:=⟨_,rfl⟩
 have Hst:Hid (D.deedK x=(D.wipe nn).2):=qh (by unfold DM.deedK DM.at';rw [if_neg (by omega),if_neg (by omega),if_neg (by omega),if_neg (by omega),if_neg (by omega),if_neg (by omega),if_pos hq,hnn])
 have hbn:=below_new w (deedO6 x)
 have k1:=k.on hbn
 have hB:=BlockIs.made w 46 #[.int .i64 x.what,.int .i64 x.k,.int .i64 x.m.ver,.int .i64 x.m.idx,.int .i64 x.m.term,.int .i64 x.m.kind,.int .i64 x.m.void,.int .i64 x.n,.int .i64 x.torn,.int .i64 x.part,.slice x.A x.bs.length x.c]
 have K1:=qh (And.intro k1 (And.intro hB (Free.mk (k.new (Nat.le_refl w.heap.size)).1 (k.new (Nat.le_refl w.heap.size)).2.1 hB.lt)))
 have HG:=qh hG
 have HF:=qh (And.intro hF hq9)
 have Hq:=qh hq
 have Hx:=qh hx
 have c0:(w.alloc (deedO6 x)).cell? ⟨w.heap.size,0,none⟩=some (.int .i64 x.what):=hB.cell 0
 have c7:(w.alloc (deedO6 x)).cell? ⟨w.heap.size,7,none⟩=some (.int .i64 x.n):=hB.cell 7
 obtain⟨X,cx,d0,_,_⟩:=k1.r.three
 have hM0:=k.d.at_.ok.some_
 have hM1:=k.d.at_.ok.many
 have Hnn:=qh hnn
 clear k k1 hB hbn hG hF hq hq9 hx hnn
 unfold doesV6
 go_enter Tryz.func19,Tryz.ntmps19
 go_wp2_with fail
 unfold deedO6 at *
 generalize (w.alloc (.cells #[.int .i64 x.what,.int .i64 x.k,.int .i64 x.m.ver,.int .i64 x.m.idx,.int .i64 x.m.term,.int .i64 x.m.kind,.int .i64 x.m.void,.int .i64 x.n,.int .i64 x.torn,.int .i64 x.part,.slice x.A x.bs.length x.c] 46))=w1 at *
 go_region_held3 (fun w'=>w'.cell? ⟨w.heap.size,7,none⟩=some (.int .i64 x.n)∧w'.cell? ⟨hr,0,none⟩=some (.slice X D.cells.length cx)) (first | exact⟨c7,d0⟩) (first
  | (go_at_call 49;refine(pick_any x.n (D.cells.length:Int) _ (by omega) (by omega)).mono ?_;rintro e w' ⟨rfl,rfl⟩;rw [Hnn.out])
  | fail)
 have K1d:=qh (show Two w0 w1.drew Td Tr hd hr D D∧BlockIs w1.drew w.heap.size 46 #[.int .i64 x.what,.int .i64 x.k,.int .i64 x.m.ver,.int .i64 x.m.idx,.int .i64 x.m.term,.int .i64 x.m.kind,.int .i64 x.m.void,.int .i64 x.n,.int .i64 x.torn,.int .i64 x.part,.slice x.A x.bs.length x.c]∧Free w1.drew Td Tr w.heap.size from⟨K1.out.1.drew,K1.out.2.1,K1.out.2.2.td,K1.out.2.2.tr,K1.out.2.2.lt⟩)
 clear d0 hM0 hM1 K1 c0 c7
 generalize w1.drew=w1 at K1d ⊢
 have K1:=qh K1d.out
 clear K1d
 have c0:w1.cell? ⟨w.heap.size,0,none⟩=some (.int .i64 x.what):=K1.out.2.1.cell 0
 go_wp2_with fail
 refine(pick_any x.what 10 _ (by decide) (by decide)).mono ?_
 rintro e w' ⟨rfl,rfl⟩
 rw [Hq.out]
 clear c0
 have hbq:=beq_same6 (D.wipe nn).1
 have HD:=qh (wipe_stp HG.out.d HG.out.s K1.out.1.d nn)
 go_wp2_with fail
 refine HD.out.mono ?_
 rintro e w2 ⟨rfl,h2⟩
 have K2:=qh (K1.out.1.stp h2)
 have HR:=qh (wipe3_any K2.out.r nn)
 clear h2 HD
 go_wp2_with fail
 refine HR.out.mono ?_
 rintro e w3 ⟨rfl,h2⟩
 have K3:=qh (K2.out.ref h2)
 clear h2 HR
 go_wp2_with fail
 go_ret
 exact⟨rfl,_,_,by rw [Hst.out];exact K3.out⟩
end
end Go.Proofs.YtpaikolnampcfaaGreatDoor
