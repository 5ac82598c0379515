/- One deed of law 06, done to both disks: a crash, rot, a write. -/
import Derived.Test.YtpaikolnampcfaaGreatDoorLaw06Do
namespace Go.Proofs.YtpaikolnampcfaaGreatDoor
set_option maxRecDepth 100000
set_option maxHeartbeats 8000000
open Go.RowKit
section
variable {σ : Sen} {τ : SenU} {δ : SenD} {κ : SenK} {w0 w w2 : World} {Td Tr : Nat → Prop} {hd hr : Nat} {D E D' E' : DM} {g : Nat} {t : TypeId} {cs : Array Value}
structure DeeS (w0 w:World) (Td Tr:Nat→Prop) (hd hr:Nat) (D E:DM) (g:Nat) (t:TypeId) (cs:Array Value):Prop where
 two:Two w0 w Td Tr hd hr D E
 blk:BlockIs w g t cs
 td: ¬Td g
 tr: ¬Tr g
theorem DeeS.stp (k:DeeS w0 w Td Tr hd hr D E g t cs) (s:Stp w0 w Td hd D' w2):DeeS w0 w2 (grow Td w w2) Tr hd hr D' E g t cs:=
 ⟨k.two.stp s,(s.block k.blk k.td).1,(s.block k.blk k.td).2,k.tr⟩
theorem DeeS.ref (k:DeeS w0 w Td Tr hd hr D E g t cs) (a:Ref3 w Tr hr E' w2):DeeS w0 w2 Td (grow Tr w w2) hd hr D E' g t cs:=
 ⟨k.two.ref a,(a.block k.blk k.tr).1,k.td,(a.block k.blk k.tr).2⟩
theorem DeeS.drew (k:DeeS w0 w Td Tr hd hr D E g t cs):DeeS w0 w.drew Td Tr hd hr D E g t cs:=⟨k.two.drew,k.blk,k.td,k.tr⟩
theorem wrap_u32 (p:Int):IntKind.u32.wrap p=((p % 4294967296).toNat:Int):=by
 have h:=Int.emod_nonneg p (show(4294967296:Int)≠0 by decide)
 rw [Int.toNat_of_nonneg h]
 rfl
theorem mod_u32 (p:Int):(p % 4294967296).toNat < 4294967296:=by
 have h:=Int.emod_lt_of_pos p (show(0:Int) < 4294967296 by decide)
 omega
theorem rot_stp6 (hD:GlD δ w0) (hS:GlS δ w0) (k:OwnT w0 w Td hd D) (n bit part:Int):
 Calls Tryz.prog 38 #[.pointer (some ⟨hd,0,none⟩),.int .i64 n,.int .i64 bit,.int .u32 (IntKind.u32.wrap part)] w fun e w2=>e= .returned (.int .i64 (D.rot n bit (part % 4294967296).toNat).1)∧Stp w0 w Td hd (D.rot n bit (part % 4294967296).toNat).2 w2:=by
 rw [wrap_u32]
 exact rot_stp hD hS k n bit _ (mod_u32 part)
theorem rot3_6 (k:RefAt3 w Tr hr D) (n bit part:Int):
 Calls Tryz.prog 57 #[.pointer (some ⟨hr,0,none⟩),.int .i64 n,.int .i64 bit,.int .u32 (IntKind.u32.wrap part)] w fun e w'=>e= .returned (.int .i64 (D.rot n bit (part % 4294967296).toNat).1)∧Ref3 w Tr hr (D.rot n bit (part % 4294967296).toNat).2 w':=by
 rw [wrap_u32]
 exact rot3_any k n bit _ (mod_u32 part)
theorem write_stp6 {bs:List Int} {A:Option Addr} {c:Nat} (hD:GlD δ w0) (k:OwnT w0 w Td hd D) {q:Nat} (hF:D.Few q) (hq:q≤999000) (n:Int) (hz:BytesAt w A bs) (ho:bs≠ []→ ∀a,A=some a→ ¬Td a.block) (hl:bs.length≤140737488351232):
 Calls Tryz.prog 58 #[.pointer (some ⟨hd,0,none⟩),.int .i64 n,.slice A bs.length c] w fun e w2=>e= .returned (.int .i64 (D.write n bs).1)∧Stp w0 w Td hd (D.write n bs).2 w2:=
 (OwnT.write hD k (few6 hF hq) n A bs c hz ho hl).mono fun _ _ ⟨h1,h2,h3⟩=>⟨h1,h2,h3⟩
end
section
variable {σ : Sen} {τ : SenU} {δ : SenD} {κ : SenK} {w0 w : World} {Td Tr : Nat → Prop} {hd hr : Nat} {D : DM}
theorem does6_crash (hG:Gls σ τ δ κ w0) (k:Two w0 w Td Tr hd hr D D) {q:Nat} (hF:D.Few q) (hq9:q≤900000) (x:DeedK) (hx:x.ok w0) (hq:x.what % 10=6):
 Calls Tryz.prog 19 (doesV6 hd hr x) w (Did6 w0 hd hr (D.deedK x)):=by
 obtain⟨nn,hnn⟩: ∃nn,x.n % (D.cells.length:Int)=nn:=⟨_,rfl⟩
 have Hst:Hid (D.deedK x=(D.crash.2.wake x.n x.torn x.part).2):=qh (by unfold DM.deedK DM.at';rw [if_neg (by omega),if_neg (by omega),if_neg (by omega),if_neg (by omega),if_neg (by omega),if_pos hq])
 have hbn:=below_new w (deedO6 x)
 have k1:=k.on hbn
 have hB:=BlockIs.made w 46 #[.int .i64 x.what,.int .i64 x.k,.int .i64 x.m.ver,.int .i64 x.m.idx,.int .i64 x.m.term,.int .i64 x.m.kind,.int .i64 x.m.void,.int .i64 x.n,.int .i64 x.torn,.int .i64 x.part,.slice x.A x.bs.length x.c]
 have K1:=qh (And.intro k1 (And.intro hB (Free.mk (k.new (Nat.le_refl w.heap.size)).1 (k.new (Nat.le_refl w.heap.size)).2.1 hB.lt)))
 have HG:=qh hG
 have HF:=qh (And.intro hF hq9)
 have Hq:=qh hq
 have Hx:=qh hx
 have c0:(w.alloc (deedO6 x)).cell? ⟨w.heap.size,0,none⟩=some (.int .i64 x.what):=hB.cell 0
 have c7:(w.alloc (deedO6 x)).cell? ⟨w.heap.size,7,none⟩=some (.int .i64 x.n):=hB.cell 7
 have c8:(w.alloc (deedO6 x)).cell? ⟨w.heap.size,8,none⟩=some (.int .i64 x.torn):=hB.cell 8
 have c9:(w.alloc (deedO6 x)).cell? ⟨w.heap.size,9,none⟩=some (.int .i64 x.part):=hB.cell 9
 obtain⟨X,cx,d0,_,_⟩:=k1.r.three
 have hM0:=k.d.at_.ok.some_
 have hM1:=k.d.at_.ok.many
 have Hnn:=qh hnn
 clear k k1 hB hbn hG hF hq hq9 hx hnn
 unfold doesV6
 go_enter Tryz.func19,Tryz.ntmps19
 go_wp2_with fail
 unfold deedO6 at *
 generalize (w.alloc (.cells #[.int .i64 x.what,.int .i64 x.k,.int .i64 x.m.ver,.int .i64 x.m.idx,.int .i64 x.m.term,.int .i64 x.m.kind,.int .i64 x.m.void,.int .i64 x.n,.int .i64 x.torn,.int .i64 x.part,.slice x.A x.bs.length x.c] 46))=w1 at *
 go_region_held3 (fun w'=>w'.cell? ⟨w.heap.size,7,none⟩=some (.int .i64 x.n)∧w'.cell? ⟨hr,0,none⟩=some (.slice X D.cells.length cx)) (first | exact⟨c7,d0⟩) (first
  | (go_at_call 49;refine(pick_any x.n (D.cells.length:Int) _ (by omega) (by omega)).mono ?_;rintro e w' ⟨rfl,rfl⟩;rw [Hnn.out])
  | fail)
 have K1d:=qh (show Two w0 w1.drew Td Tr hd hr D D∧BlockIs w1.drew w.heap.size 46 #[.int .i64 x.what,.int .i64 x.k,.int .i64 x.m.ver,.int .i64 x.m.idx,.int .i64 x.m.term,.int .i64 x.m.kind,.int .i64 x.m.void,.int .i64 x.n,.int .i64 x.torn,.int .i64 x.part,.slice x.A x.bs.length x.c]∧Free w1.drew Td Tr w.heap.size from⟨K1.out.1.drew,K1.out.2.1,K1.out.2.2.td,K1.out.2.2.tr,K1.out.2.2.lt⟩)
 clear d0 hM0 hM1 K1 c0 c7 c8 c9
 generalize w1.drew=w1 at K1d ⊢
 have K1:=qh K1d.out
 clear K1d
 have c0:w1.cell? ⟨w.heap.size,0,none⟩=some (.int .i64 x.what):=K1.out.2.1.cell 0
 have c7:w1.cell? ⟨w.heap.size,7,none⟩=some (.int .i64 x.n):=K1.out.2.1.cell 7
 have c8:w1.cell? ⟨w.heap.size,8,none⟩=some (.int .i64 x.torn):=K1.out.2.1.cell 8
 have c9:w1.cell? ⟨w.heap.size,9,none⟩=some (.int .i64 x.part):=K1.out.2.1.cell 9
 go_wp2_with fail
 refine(pick_any x.what 10 _ (by decide) (by decide)).mono ?_
 rintro e w' ⟨rfl,rfl⟩
 rw [Hq.out]
 clear c0
 have hbq:=beq_same6 D.crash.1
 have hbq2:=beq_same6 (D.crash.2.wake x.n x.torn x.part).1
 have HFc:=qh (few_crash HF.out.1)
 have E1:Hid (DeeS w0 w1 Td Tr hd hr D D w.heap.size 46 #[.int .i64 x.what,.int .i64 x.k,.int .i64 x.m.ver,.int .i64 x.m.idx,.int .i64 x.m.term,.int .i64 x.m.kind,.int .i64 x.m.void,.int .i64 x.n,.int .i64 x.torn,.int .i64 x.part,.slice x.A x.bs.length x.c]):=qh ⟨K1.out.1,K1.out.2.1,K1.out.2.2.td,K1.out.2.2.tr⟩
 go_wp2_with fail
 go_region_held3 (fun w'=>w'.cell? ⟨w.heap.size,7,none⟩=some (.int .i64 x.n)∧w'.cell? ⟨w.heap.size,8,none⟩=some (.int .i64 x.torn)∧w'.cell? ⟨w.heap.size,9,none⟩=some (.int .i64 x.part)) (first | exact⟨c7,c8,c9⟩ | exact⟨k2_7,k2_8,k2_9⟩ | exact⟨k3_7,k3_8,k3_9⟩ | exact⟨k4_7,k4_8,k4_9⟩ | exact⟨k5_7,k5_8,k5_9⟩) (first
  | (go_at_call 35;refine(crash_stp HG.out.d E1.out.drew.two.d HF.out.1 (by have:=HF.out.2;omega)).mono ?_;rintro e w2 ⟨rfl,h2⟩;have E2:=qh (E1.out.drew.stp h2);have k2_7:w2.cell? ⟨w.heap.size,7,none⟩=some (.int .i64 x.n):=E2.out.blk.cell 7;have k2_8:w2.cell? ⟨w.heap.size,8,none⟩=some (.int .i64 x.torn):=E2.out.blk.cell 8;have k2_9:w2.cell? ⟨w.heap.size,9,none⟩=some (.int .i64 x.part):=E2.out.blk.cell 9;clear h2)
  | (go_at_call 54;refine(crash3_any E2.out.two.r (few6 HF.out.1 (by have:=HF.out.2;omega))).mono ?_;rintro e w3 ⟨rfl,h2⟩;have E3:=qh (E2.out.ref h2);have k3_7:w3.cell? ⟨w.heap.size,7,none⟩=some (.int .i64 x.n):=E3.out.blk.cell 7;have k3_8:w3.cell? ⟨w.heap.size,8,none⟩=some (.int .i64 x.torn):=E3.out.blk.cell 8;have k3_9:w3.cell? ⟨w.heap.size,9,none⟩=some (.int .i64 x.part):=E3.out.blk.cell 9;clear h2)
  | (go_at_call 36;refine(wake_stp E3.out.two.d HFc.out (by have:=HF.out.2;omega) x.n x.torn x.part).mono ?_;rintro e w4 ⟨rfl,h2⟩;have E4:=qh (E3.out.stp h2);have k4_7:w4.cell? ⟨w.heap.size,7,none⟩=some (.int .i64 x.n):=E4.out.blk.cell 7;have k4_8:w4.cell? ⟨w.heap.size,8,none⟩=some (.int .i64 x.torn):=E4.out.blk.cell 8;have k4_9:w4.cell? ⟨w.heap.size,9,none⟩=some (.int .i64 x.part):=E4.out.blk.cell 9;clear h2)
  | (go_at_call 55;refine(wake3_any E4.out.two.r (few6 HFc.out (by have:=HF.out.2;omega)) x.n x.torn x.part).mono ?_;rintro e w5 ⟨rfl,h2⟩;have E5:=qh (E4.out.ref h2);have k5_7:w5.cell? ⟨w.heap.size,7,none⟩=some (.int .i64 x.n):=E5.out.blk.cell 7;have k5_8:w5.cell? ⟨w.heap.size,8,none⟩=some (.int .i64 x.torn):=E5.out.blk.cell 8;have k5_9:w5.cell? ⟨w.heap.size,9,none⟩=some (.int .i64 x.part):=E5.out.blk.cell 9;clear h2)
  | fail)
 all_goals
  go_wp2_with fail
  go_ret
  exact⟨rfl,_,_,by rw [Hst.out];first | exact E5.out.two | exact E5.out.drew.two⟩
theorem does6_rot (hG:Gls σ τ δ κ w0) (k:Two w0 w Td Tr hd hr D D) {q:Nat} (hF:D.Few q) (hq9:q≤900000) (x:DeedK) (hx:x.ok w0) (hq:x.what % 10=8):
 Calls Tryz.prog 19 (doesV6 hd hr x) w (Did6 w0 hd hr (D.deedK x)):=by
 obtain⟨nn,hnn⟩: ∃nn,x.n % (D.cells.length:Int)=nn:=⟨_,rfl⟩
 have Hst:Hid (D.deedK x=(D.rot nn x.torn (x.part % 4294967296).toNat).2):=qh (by unfold DM.deedK DM.at';rw [if_neg (by omega),if_neg (by omega),if_neg (by omega),if_neg (by omega),if_neg (by omega),if_neg (by omega),if_neg (by omega),if_pos hq,hnn])
 have hbn:=below_new w (deedO6 x)
 have k1:=k.on hbn
 have hB:=BlockIs.made w 46 #[.int .i64 x.what,.int .i64 x.k,.int .i64 x.m.ver,.int .i64 x.m.idx,.int .i64 x.m.term,.int .i64 x.m.kind,.int .i64 x.m.void,.int .i64 x.n,.int .i64 x.torn,.int .i64 x.part,.slice x.A x.bs.length x.c]
 have K1:=qh (And.intro k1 (And.intro hB (Free.mk (k.new (Nat.le_refl w.heap.size)).1 (k.new (Nat.le_refl w.heap.size)).2.1 hB.lt)))
 have HG:=qh hG
 have HF:=qh (And.intro hF hq9)
 have Hq:=qh hq
 have Hx:=qh hx
 have c0:(w.alloc (deedO6 x)).cell? ⟨w.heap.size,0,none⟩=some (.int .i64 x.what):=hB.cell 0
 have c7:(w.alloc (deedO6 x)).cell? ⟨w.heap.size,7,none⟩=some (.int .i64 x.n):=hB.cell 7
 have c8:(w.alloc (deedO6 x)).cell? ⟨w.heap.size,8,none⟩=some (.int .i64 x.torn):=hB.cell 8
 have c9:(w.alloc (deedO6 x)).cell? ⟨w.heap.size,9,none⟩=some (.int .i64 x.part):=hB.cell 9
 obtain⟨X,cx,d0,_,_⟩:=k1.r.three
 have hM0:=k.d.at_.ok.some_
 have hM1:=k.d.at_.ok.many
 have Hnn:=qh hnn
 clear k k1 hB hbn hG hF hq hq9 hx hnn
 unfold doesV6
 go_enter Tryz.func19,Tryz.ntmps19
 go_wp2_with fail
 unfold deedO6 at *
 generalize (w.alloc (.cells #[.int .i64 x.what,.int .i64 x.k,.int .i64 x.m.ver,.int .i64 x.m.idx,.int .i64 x.m.term,.int .i64 x.m.kind,.int .i64 x.m.void,.int .i64 x.n,.int .i64 x.torn,.int .i64 x.part,.slice x.A x.bs.length x.c] 46))=w1 at *
 go_region_held3 (fun w'=>w'.cell? ⟨w.heap.size,7,none⟩=some (.int .i64 x.n)∧w'.cell? ⟨hr,0,none⟩=some (.slice X D.cells.length cx)) (first | exact⟨c7,d0⟩) (first
  | (go_at_call 49;refine(pick_any x.n (D.cells.length:Int) _ (by omega) (by omega)).mono ?_;rintro e w' ⟨rfl,rfl⟩;rw [Hnn.out])
  | fail)
 have K1d:=qh (show Two w0 w1.drew Td Tr hd hr D D∧BlockIs w1.drew w.heap.size 46 #[.int .i64 x.what,.int .i64 x.k,.int .i64 x.m.ver,.int .i64 x.m.idx,.int .i64 x.m.term,.int .i64 x.m.kind,.int .i64 x.m.void,.int .i64 x.n,.int .i64 x.torn,.int .i64 x.part,.slice x.A x.bs.length x.c]∧Free w1.drew Td Tr w.heap.size from⟨K1.out.1.drew,K1.out.2.1,K1.out.2.2.td,K1.out.2.2.tr,K1.out.2.2.lt⟩)
 clear d0 hM0 hM1 K1 c0 c7 c8 c9
 generalize w1.drew=w1 at K1d ⊢
 have K1:=qh K1d.out
 clear K1d
 have c0:w1.cell? ⟨w.heap.size,0,none⟩=some (.int .i64 x.what):=K1.out.2.1.cell 0
 have c8:w1.cell? ⟨w.heap.size,8,none⟩=some (.int .i64 x.torn):=K1.out.2.1.cell 8
 have c9:w1.cell? ⟨w.heap.size,9,none⟩=some (.int .i64 x.part):=K1.out.2.1.cell 9
 go_wp2_with fail
 refine(pick_any x.what 10 _ (by decide) (by decide)).mono ?_
 rintro e w' ⟨rfl,rfl⟩
 rw [Hq.out]
 clear c0
 have hbq:=beq_same6 (D.rot nn x.torn (x.part % 4294967296).toNat).1
 have E1:Hid (DeeS w0 w1 Td Tr hd hr D D w.heap.size 46 #[.int .i64 x.what,.int .i64 x.k,.int .i64 x.m.ver,.int .i64 x.m.idx,.int .i64 x.m.term,.int .i64 x.m.kind,.int .i64 x.m.void,.int .i64 x.n,.int .i64 x.torn,.int .i64 x.part,.slice x.A x.bs.length x.c]):=qh ⟨K1.out.1,K1.out.2.1,K1.out.2.2.td,K1.out.2.2.tr⟩
 go_wp2_with fail
 go_region_held3 (fun w'=>w'.cell? ⟨w.heap.size,8,none⟩=some (.int .i64 x.torn)∧w'.cell? ⟨w.heap.size,9,none⟩=some (.int .i64 x.part)) (first | exact⟨c8,c9⟩ | exact⟨k2_8,k2_9⟩ | exact⟨k3_8,k3_9⟩) (first
  | (go_at_call 38;refine(rot_stp6 HG.out.d HG.out.s E1.out.drew.two.d nn x.torn x.part).mono ?_;rintro e w2 ⟨rfl,h2⟩;have E2:=qh (E1.out.drew.stp h2);have k2_8:w2.cell? ⟨w.heap.size,8,none⟩=some (.int .i64 x.torn):=E2.out.blk.cell 8;have k2_9:w2.cell? ⟨w.heap.size,9,none⟩=some (.int .i64 x.part):=E2.out.blk.cell 9;clear h2)
  | (go_at_call 57;refine(rot3_6 E2.out.two.r nn x.torn x.part).mono ?_;rintro e w3 ⟨rfl,h2⟩;have E3:=qh (E2.out.ref h2);have k3_8:w3.cell? ⟨w.heap.size,8,none⟩=some (.int .i64 x.torn):=E3.out.blk.cell 8;have k3_9:w3.cell? ⟨w.heap.size,9,none⟩=some (.int .i64 x.part):=E3.out.blk.cell 9;clear h2)
  | fail)
 all_goals
  go_wp2_with fail
  go_ret
  exact⟨rfl,_,_,by rw [Hst.out];first | exact E3.out.two | exact E3.out.drew.two⟩
theorem does6_write (hG:Gls σ τ δ κ w0) (k:Two w0 w Td Tr hd hr D D) {q:Nat} (hF:D.Few q) (hq9:q≤900000) (x:DeedK) (hx:x.ok w0) (hq:x.what % 10=9):
 Calls Tryz.prog 19 (doesV6 hd hr x) w (Did6 w0 hd hr (D.deedK x)):=by
 obtain⟨nn,hnn⟩: ∃nn,x.n % (D.cells.length:Int)=nn:=⟨_,rfl⟩
 have Hst:Hid (D.deedK x=(D.write nn x.bs).2.sync.2):=qh (by unfold DM.deedK DM.at';rw [if_neg (by omega),if_neg (by omega),if_neg (by omega),if_neg (by omega),if_neg (by omega),if_neg (by omega),if_neg (by omega),if_neg (by omega),hnn])
 have hbn:=below_new w (deedO6 x)
 have k1:=k.on hbn
 have hB:=BlockIs.made w 46 #[.int .i64 x.what,.int .i64 x.k,.int .i64 x.m.ver,.int .i64 x.m.idx,.int .i64 x.m.term,.int .i64 x.m.kind,.int .i64 x.m.void,.int .i64 x.n,.int .i64 x.torn,.int .i64 x.part,.slice x.A x.bs.length x.c]
 have K1:=qh (And.intro k1 (And.intro hB (Free.mk (k.new (Nat.le_refl w.heap.size)).1 (k.new (Nat.le_refl w.heap.size)).2.1 hB.lt)))
 have HG:=qh hG
 have HF:=qh (And.intro hF hq9)
 have Hq:=qh hq
 have Hx:=qh hx
 have c0:(w.alloc (deedO6 x)).cell? ⟨w.heap.size,0,none⟩=some (.int .i64 x.what):=hB.cell 0
 have c7:(w.alloc (deedO6 x)).cell? ⟨w.heap.size,7,none⟩=some (.int .i64 x.n):=hB.cell 7
 have c10:(w.alloc (deedO6 x)).cell? ⟨w.heap.size,10,none⟩=some (.slice x.A x.bs.length x.c):=hB.cell 10
 obtain⟨X,cx,d0,_,_⟩:=k1.r.three
 have hM0:=k.d.at_.ok.some_
 have hM1:=k.d.at_.ok.many
 have Hnn:=qh hnn
 clear k k1 hB hbn hG hF hq hq9 hx hnn
 unfold doesV6
 go_enter Tryz.func19,Tryz.ntmps19
 go_wp2_with fail
 unfold deedO6 at *
 generalize (w.alloc (.cells #[.int .i64 x.what,.int .i64 x.k,.int .i64 x.m.ver,.int .i64 x.m.idx,.int .i64 x.m.term,.int .i64 x.m.kind,.int .i64 x.m.void,.int .i64 x.n,.int .i64 x.torn,.int .i64 x.part,.slice x.A x.bs.length x.c] 46))=w1 at *
 go_region_held3 (fun w'=>w'.cell? ⟨w.heap.size,7,none⟩=some (.int .i64 x.n)∧w'.cell? ⟨hr,0,none⟩=some (.slice X D.cells.length cx)) (first | exact⟨c7,d0⟩) (first
  | (go_at_call 49;refine(pick_any x.n (D.cells.length:Int) _ (by omega) (by omega)).mono ?_;rintro e w' ⟨rfl,rfl⟩;rw [Hnn.out])
  | fail)
 have K1d:=qh (show Two w0 w1.drew Td Tr hd hr D D∧BlockIs w1.drew w.heap.size 46 #[.int .i64 x.what,.int .i64 x.k,.int .i64 x.m.ver,.int .i64 x.m.idx,.int .i64 x.m.term,.int .i64 x.m.kind,.int .i64 x.m.void,.int .i64 x.n,.int .i64 x.torn,.int .i64 x.part,.slice x.A x.bs.length x.c]∧Free w1.drew Td Tr w.heap.size from⟨K1.out.1.drew,K1.out.2.1,K1.out.2.2.td,K1.out.2.2.tr,K1.out.2.2.lt⟩)
 clear d0 hM0 hM1 K1 c0 c7 c10
 generalize w1.drew=w1 at K1d ⊢
 have K1:=qh K1d.out
 clear K1d
 have c0:w1.cell? ⟨w.heap.size,0,none⟩=some (.int .i64 x.what):=K1.out.2.1.cell 0
 have c10:w1.cell? ⟨w.heap.size,10,none⟩=some (.slice x.A x.bs.length x.c):=K1.out.2.1.cell 10
 go_wp2_with fail
 refine(pick_any x.what 10 _ (by decide) (by decide)).mono ?_
 rintro e w' ⟨rfl,rfl⟩
 rw [Hq.out]
 clear c0
 have hbq:=beq_same6 (D.write nn x.bs).1
 have hbq2:=beq_same6 ((D.write nn x.bs).2.sync).1
 have HF1:=qh (HF.out.1.write nn x.bs)
 have E1:Hid (DeeS w0 w1 Td Tr hd hr D D w.heap.size 46 #[.int .i64 x.what,.int .i64 x.k,.int .i64 x.m.ver,.int .i64 x.m.idx,.int .i64 x.m.term,.int .i64 x.m.kind,.int .i64 x.m.void,.int .i64 x.n,.int .i64 x.torn,.int .i64 x.part,.slice x.A x.bs.length x.c]):=qh ⟨K1.out.1,K1.out.2.1,K1.out.2.2.td,K1.out.2.2.tr⟩
 go_wp2_with fail
 go_region_held3 (fun w'=>w'.cell? ⟨w.heap.size,10,none⟩=some (.slice x.A x.bs.length x.c)) (first | exact c10 | exact k2_10 | exact k3_10 | exact k4_10 | exact k5_10) (first
  | (go_at_call 58;refine(write_stp6 HG.out.d E1.out.drew.two.d HF.out.1 (by have:=HF.out.2;omega) nn (Hx.out.bytes.below E1.out.drew.two.d.below) (fun hne a e=>(E1.out.drew.two.old (Hx.out.old hne a e)).1) Hx.out.len).mono ?_;rintro e w2 ⟨rfl,h2⟩;have E2:=qh (E1.out.drew.stp h2);have k2_10:w2.cell? ⟨w.heap.size,10,none⟩=some (.slice x.A x.bs.length x.c):=E2.out.blk.cell 10;clear h2)
  | (go_at_call 59;refine(write3_any E2.out.two.r (few6 HF.out.1 (by have:=HF.out.2;omega)) nn x.A x.bs x.c (Hx.out.bytes.below E2.out.two.d.below) (fun hne a e=>(E2.out.two.old (Hx.out.old hne a e)).2) Hx.out.len).mono ?_;rintro e w3 ⟨rfl,h2⟩;have E3:=qh (E2.out.ref h2);have k3_10:w3.cell? ⟨w.heap.size,10,none⟩=some (.slice x.A x.bs.length x.c):=E3.out.blk.cell 10;clear h2)
  | (go_at_call 60;refine(sync_stp HG.out.d E3.out.two.d HF1.out (by have:=HF.out.2;omega)).mono ?_;rintro e w4 ⟨rfl,h2⟩;have E4:=qh (E3.out.stp h2);have k4_10:w4.cell? ⟨w.heap.size,10,none⟩=some (.slice x.A x.bs.length x.c):=E4.out.blk.cell 10;clear h2)
  | (go_at_call 61;refine(sync3_any E4.out.two.r (few6 HF1.out (by have:=HF.out.2;omega))).mono ?_;rintro e w5 ⟨rfl,h2⟩;have E5:=qh (E4.out.ref h2);have k5_10:w5.cell? ⟨w.heap.size,10,none⟩=some (.slice x.A x.bs.length x.c):=E5.out.blk.cell 10;clear h2)
  | fail)
 all_goals
  go_wp2_with fail
  go_ret
  exact⟨rfl,_,_,by rw [Hst.out];first | exact E5.out.two | exact E5.out.drew.two⟩
theorem does6_any (hG:Gls σ τ δ κ w0) (k:Two w0 w Td Tr hd hr D D) {q:Nat} (hF:D.Few q) (hq9:q≤900000) (x:DeedK) (hx:x.ok w0):
 Calls Tryz.prog 19 (doesV6 hd hr x) w (Did6 w0 hd hr (D.deedK x)):=by
 have h:x.what % 10=0∨x.what % 10=1∨x.what % 10=2∨x.what % 10=3∨x.what % 10=4∨x.what % 10=5∨x.what % 10=6∨x.what % 10=7∨x.what % 10=8∨x.what % 10=9:=by omega
 rcases h with h | h | h | h | h | h | h | h | h | h
 · exact does6_format hG k hF hq9 x hx h
 · exact does6_put1 hG k hF hq9 x hx h
 · exact does6_put2 hG k hF hq9 x hx h
 · exact does6_get hG k hF hq9 x hx h
 · exact does6_open hG k hF hq9 x hx h
 · exact does6_arm hG k hF hq9 x hx h
 · exact does6_crash hG k hF hq9 x hx h
 · exact does6_wipe hG k hF hq9 x hx h
 · exact does6_rot hG k hF hq9 x hx h
 · exact does6_write hG k hF hq9 x hx h
end
end Go.Proofs.YtpaikolnampcfaaGreatDoor
