/- Walks over mix's and the page's arithmetic: one shift; facts on numbers of 32 bits. -/
import Derived.Test.YtpaikolnampcfaaGreatDoorKitInts
import Derived.Test.YtpaikolnampcfaaGreatDoorMarkV
import Derived.WalkKit
import Derived.WalkLawsBesides
import Derived.WalkSpells
import Derived.Laws.BitsAllLaws
import Derived.LoopTactic
import Derived.Lib.Hide
import Derived.Deep.LoopGhost
import Derived.Outline
import Derived.Deep.QuietTactic
import Derived.BigQuiet
import Derived.RegionTactic
import Derived.BigRegion
import Derived.Deep.WholeRow
import Derived.Below
namespace Go.Proofs.YtpaikolnampcfaaGreatDoor
set_option maxRecDepth 100000
set_option maxHeartbeats 8000000
open Go.RowKit
theorem u32_toInt (x:BitVec 32):BitVec.ofInt 32 (x.toNat:Int)=x:=by
 rw [BitVec.ofInt_natCast,BitVec.ofNat_toNat];simp
theorem wrap_u32_id (x:BitVec 32):IntKind.u32.wrap (x.toNat:Int)=x.toNat:=by
 rw [IntKind.wrap_u32'];have:=x.isLt;omega
theorem bits_xor (x y:Int):bits .xor .u32 x y=((BitVec.ofInt 32 x ^^^ BitVec.ofInt 32 y).toNat:Int):=wrap_u32_id _
theorem bits_and (x y:Int):bits .and .u32 x y=((BitVec.ofInt 32 x &&& BitVec.ofInt 32 y).toNat:Int):=wrap_u32_id _
theorem bits_or (x y:Int):bits .or .u32 x y=((BitVec.ofInt 32 x ||| BitVec.ofInt 32 y).toNat:Int):=wrap_u32_id _
theorem half (x:BitVec 32):(x.toNat:Int) / (2:Int)=((x >>> 1).toNat:Int):=by
 rw [BitVec.toNat_ushiftRight,Nat.shiftRight_eq_div_pow];rfl
theorem lsb_mod (x:BitVec 32):x.getLsbD 0=((x.toNat:Int) % 2==1):=by
 rw [← BitVec.testBit_toNat,Nat.testBit_zero,Bool.eq_iff_iff];simp;omega
theorem lsb_and (x:BitVec 32):x.getLsbD 0=(bits .and .u32 (x.toNat:Int) 1==1):=by
 rw [lsb_mod,bits_and,u32_toInt,BitVec.toNat_and,show(BitVec.ofInt 32 1).toNat=1 by decide,Nat.and_one_is_mod];rfl
theorem sh_one (x:BitVec 32) (h:x.getLsbD 0=true):bits .xor .u32 ((x.toNat:Int) / 2) 2197175160=((Mx.sh x).toNat:Int):=by
 rw [half,bits_xor,u32_toInt,Mx.sh,if_pos h,show BitVec.ofInt 32 2197175160=0x82F63B78#32 by decide]
theorem sh_none (x:BitVec 32) (h:x.getLsbD 0=false):(x.toNat:Int) / 2=((Mx.sh x).toNat:Int):=by
 rw [half,Mx.sh,h];rfl

theorem shift_any (x:BitVec 32) (w:World):
 Calls Tryz.prog 171 #[.int .u32 (x.toNat:Int)] w fun e w'=>e= .returned (.int .u32 ((Mx.sh x).toNat:Int))∧w=w':=by
 cases hb:x.getLsbD 0
 · have h:=hb
   rw [lsb_and]at h
   have Hb:=qh hb;clear hb
   go_enter Tryz.func171,Tryz.ntmps171
   go_wp2
   go_ret
   exact⟨ret_int (sh_none x Hb.out),rfl⟩
 · have h:=hb
   rw [lsb_and]at h
   have Hb:=qh hb;clear hb
   go_enter Tryz.func171,Tryz.ntmps171
   go_wp2
   go_ret
   exact⟨ret_int (sh_one x Hb.out),rfl⟩

theorem xor_val (x y:BitVec 32):bits .xor .u32 (x.toNat:Int) (y.toNat:Int)=((x ^^^ y).toNat:Int):=by rw [bits_xor,u32_toInt,u32_toInt]
open Go.RowKit
theorem xor_half (x y:BitVec 32):bits .xor .u32 ((x.toNat:Int) / 256) (y.toNat:Int)=((x >>> 8 ^^^ y).toNat:Int):=by
 have h:(x.toNat:Int) / (256:Int)=((x >>> 8).toNat:Int):=by rw [BitVec.toNat_ushiftRight,Nat.shiftRight_eq_div_pow];rfl
 rw [h,xor_val]
theorem addByte_walk (c:BitVec 32) (z:Int) (tb:Nat) (w:World) (h0:0≤z) (h1:z < 256) (l t1 t2:BitVec 32) (i j:Nat) (hi:i < 16) (hj:j < 16)
 (e1:bits .xor .u32 (bits .and .u32 (c.toNat:Int) 255) z=(l.toNat:Int)) (e2:bits .and .u32 (l.toNat:Int) 15=(i:Int)) (e3:(l.toNat:Int) / 16=(j:Int))
 (c1:w.cell? ⟨tb,96+i,none⟩=some (.int .u32 (t1.toNat:Int))) (c2:w.cell? ⟨tb,112+j,none⟩=some (.int .u32 (t2.toNat:Int))):
  Calls Tryz.prog 173 #[.pointer (some ⟨tb,0,none⟩),.int .u32 (c.toNat:Int),.int .u8 z] w fun e w'=>e= .returned (.int .u32 ((c >>> 8 ^^^ t1 ^^^ t2).toNat:Int))∧ ∃n,w'=w.drewN n:=by
 go_enter Tryz.func173,Tryz.ntmps173
 go_wp2_with fail
 go_quiet (fail)
 go_wp2_with fail
 go_ret
 exact⟨ret_int (by rw [xor_half,xor_val]),_,rfl⟩
theorem addWord_walk (c x:BitVec 32) (z0 z1 z2 z3:Int) (tb pb off n cap:Nat) (w:World) (h0:0≤z0) (g0:z0 < 256) (h1:0≤z1) (g1:z1 < 256) (h2:0≤z2) (g2:z2 < 256) (h3:0≤z3) (g3:z3 < 256) (hn:4≤n)
 (t0 t1 t2 t3 t4 t5 t6 t7:BitVec 32) (i0 i1 i2 i3 i4 i5 i6 i7:Nat) (l0:i0 < 16) (l1:i1 < 16) (l2:i2 < 16) (l3:i3 < 16) (l4:i4 < 16) (l5:i5 < 16) (l6:i6 < 16) (l7:i7 < 16)
 (e:bits .xor .u32 (c.toNat:Int) (bits .or .u32 (bits .or .u32 (bits .or .u32 z0 (z1 * 256)) (z2 * 65536)) (z3 * 16777216))=(x.toNat:Int))
 (e0:bits .and .u32 (x.toNat:Int) 15=(i0:Int)) (e1:bits .and .u32 ((x.toNat:Int) / 16) 15=(i1:Int)) (e2:bits .and .u32 ((x.toNat:Int) / 256) 15=(i2:Int))
 (e3:bits .and .u32 ((x.toNat:Int) / 4096) 15=(i3:Int)) (e4:bits .and .u32 ((x.toNat:Int) / 65536) 15=(i4:Int)) (e5:bits .and .u32 ((x.toNat:Int) / 1048576) 15=(i5:Int))
 (e6:bits .and .u32 ((x.toNat:Int) / 16777216) 15=(i6:Int)) (e7:(x.toNat:Int) / 268435456=(i7:Int))
 (b0:w.cell? ⟨pb,off,none⟩=some (.int .u8 z0)) (b1:w.cell? ⟨pb,off+1,none⟩=some (.int .u8 z1)) (b2:w.cell? ⟨pb,off+2,none⟩=some (.int .u8 z2)) (b3:w.cell? ⟨pb,off+3,none⟩=some (.int .u8 z3))
 (c0:w.cell? ⟨tb,i0,none⟩=some (.int .u32 (t0.toNat:Int))) (c1:w.cell? ⟨tb,16+i1,none⟩=some (.int .u32 (t1.toNat:Int))) (c2:w.cell? ⟨tb,32+i2,none⟩=some (.int .u32 (t2.toNat:Int))) (c3:w.cell? ⟨tb,48+i3,none⟩=some (.int .u32 (t3.toNat:Int)))
 (c4:w.cell? ⟨tb,64+i4,none⟩=some (.int .u32 (t4.toNat:Int))) (c5:w.cell? ⟨tb,80+i5,none⟩=some (.int .u32 (t5.toNat:Int))) (c6:w.cell? ⟨tb,96+i6,none⟩=some (.int .u32 (t6.toNat:Int))) (c7:w.cell? ⟨tb,112+i7,none⟩=some (.int .u32 (t7.toNat:Int))):
  Calls Tryz.prog 172 #[.pointer (some ⟨tb,0,none⟩),.int .u32 (c.toNat:Int),.slice (some ⟨pb,off,none⟩) n cap] w fun e w'=>e= .returned (.int .u32 ((t0 ^^^ t1 ^^^ t2 ^^^ t3 ^^^ t4 ^^^ t5 ^^^ t6 ^^^ t7).toNat:Int))∧ ∃n,w'=w.drewN n:=by
 have hn': ¬n < 4:=by omega
 go_enter Tryz.func172,Tryz.ntmps172
 go_wp2_with fail
 go_quiet (fail)
 go_wp2_with fail
 refine wp_region_quiet_lit (by kernel_rfl) (by kernel_rfl) ?_
 simp only [List.append_eq,List.cons_append,List.nil_append]
 repeat (go_big_quiet_step (fail))
 refine wpQuiet_nil ?_
 intro _ hw'
 obtain⟨nq2,hw''⟩:=hw'
 subst hw''
 go_wp2_with fail
 go_ret
 exact⟨ret_int (by simp only [xor_val]),_,World.drewN_drewN _ _ _⟩

def TabAt (w:World) (tb:Nat):Prop:= ∀r n,r < 8→n < 16→w.cell? ⟨tb,16 * r+n,none⟩=some (.int .u32 ((Mx.tab r n).toNat:Int))
theorem TabAt.drewN {w:World} {tb:Nat} (h:TabAt w tb) (n:Nat):TabAt (w.drewN n) tb:=h
theorem nat_and15 (n:Nat) (h:n < 4294967296):bits .and .u32 (n:Int) 15=((n % 16:Nat):Int):=by
 have:=u32_and_nat n 15 h (by decide)
 rw [nat_mask4]at this
 exact this
theorem and15 (x:BitVec 32) (d:Nat):bits .and .u32 ((x.toNat:Int) / (d:Int)) 15=((x.toNat / d % 16:Nat):Int):=by
 rw [← Int.natCast_ediv,nat_and15 _ (Nat.lt_of_le_of_lt (Nat.div_le_self _ _) x.isLt)]
theorem low8 (c:BitVec 32) (z:Int) (h0:0≤z) (h1:z < 256):bits .xor .u32 (bits .and .u32 (c.toNat:Int) 255) z=((Mx.byte (c ^^^ BitVec.ofInt 32 z)).toNat:Int):=by
 rw [bits_and,bits_xor,u32_toInt,u32_toInt,Mx.byte_xor,Mx.byte_of z h0 h1];rfl
theorem byte_lt (y:BitVec 32):(Mx.byte y).toNat < 256:=by
 unfold Mx.byte;rw [BitVec.toNat_and,show(255#32:BitVec 32).toNat=255 by decide,nat_mask8];omega
theorem addByte_any (c:BitVec 32) (z:Int) (tb:Nat) (w:World) (h0:0≤z) (h1:z < 256) (ht:TabAt w tb):
 Calls Tryz.prog 173 #[.pointer (some ⟨tb,0,none⟩),.int .u32 (c.toNat:Int),.int .u8 z] w fun e w'=>e= .returned (.int .u32 ((Mx.shN 8 (c ^^^ BitVec.ofInt 32 z)).toNat:Int))∧ ∃n,w'=w.drewN n:=by
 have hl:=byte_lt (c ^^^ BitVec.ofInt 32 z)
 have e:=Mx.byte_tab c z h0 h1
 have t0:=Mx.tab_nib 0 (Mx.byte (c ^^^ BitVec.ofInt 32 z))
 have t1:=Mx.tab_nib 1 (Mx.byte (c ^^^ BitVec.ofInt 32 z))
 have h:=addByte_walk c z tb w h0 h1 (Mx.byte (c ^^^ BitVec.ofInt 32 z)) (Mx.tab 6 ((Mx.byte (c ^^^ BitVec.ofInt 32 z)).toNat % 16)) (Mx.tab 7 ((Mx.byte (c ^^^ BitVec.ofInt 32 z)).toNat / 16))
  ((Mx.byte (c ^^^ BitVec.ofInt 32 z)).toNat % 16) ((Mx.byte (c ^^^ BitVec.ofInt 32 z)).toNat / 16) (by omega) (by omega) (low8 c z h0 h1) (nat_and15 _ (by omega)) (Int.natCast_ediv _ 16).symm
  (ht 6 _ (by omega) (by omega)) (ht 7 _ (by omega) (by omega))
 have e6:Mx.tab 6 ((Mx.byte (c ^^^ BitVec.ofInt 32 z)).toNat % 16)=Mx.shN 32 (Mx.nib 0 (Mx.byte (c ^^^ BitVec.ofInt 32 z)) <<< 24):=by
  have:=Mx.nib_nat 0 (Mx.byte (c ^^^ BitVec.ofInt 32 z))
  simp only [Nat.mul_zero,Nat.pow_zero,Nat.div_one]at this
  unfold Mx.tab;rw [this]
 have e7:Mx.tab 7 ((Mx.byte (c ^^^ BitVec.ofInt 32 z)).toNat / 16)=Mx.shN 32 (Mx.nib 1 (Mx.byte (c ^^^ BitVec.ofInt 32 z)) <<< 28):=by
  have:=Mx.nib_nat 1 (Mx.byte (c ^^^ BitVec.ofInt 32 z))
  simp only [Nat.mul_one,Nat.reducePow]at this
  rw [Nat.mod_eq_of_lt (by omega)]at this
  unfold Mx.tab;rw [this]
 rw [e6,e7,e]at h
 exact h

theorem scale (n k:Nat):BitVec.ofInt 32 ((n:Int) * ((2 ^ k:Nat):Int))=BitVec.ofNat 32 (n * 2 ^ k):=by rw [← Int.natCast_mul,BitVec.ofInt_natCast]
theorem word_val (c:BitVec 32) (z0 z1 z2 z3:Int) (g0:0≤z0∧z0 < 256) (g1:0≤z1∧z1 < 256) (g2:0≤z2∧z2 < 256) (g3:0≤z3∧z3 < 256):
 bits .xor .u32 (c.toNat:Int) (bits .or .u32 (bits .or .u32 (bits .or .u32 z0 (z1 * 256)) (z2 * 65536)) (z3 * 16777216))=((c ^^^ Mx.word z0 z1 z2 z3).toNat:Int):=by
 obtain⟨n0,rfl⟩:=Int.eq_ofNat_of_zero_le g0.1
 obtain⟨n1,rfl⟩:=Int.eq_ofNat_of_zero_le g1.1
 obtain⟨n2,rfl⟩:=Int.eq_ofNat_of_zero_le g2.1
 obtain⟨n3,rfl⟩:=Int.eq_ofNat_of_zero_le g3.1
 have hw:=Mx.word_or n0 n1 n2 n3 (by omega) (by omega) (by omega)
 have s1:=scale n1 8
 have s2:=scale n2 16
 have s3:=scale n3 24
 rw [bits_or,bits_or,bits_or,bits_xor,u32_toInt,u32_toInt,u32_toInt,u32_toInt]
 rw [show ((n1:Int) * 256)=(n1:Int) * ((2 ^ 8:Nat):Int) by rfl,show((n2:Int) * 65536)=(n2:Int) * ((2 ^ 16:Nat):Int) by rfl,show((n3:Int) * 16777216)=(n3:Int) * ((2 ^ 24:Nat):Int) by rfl]
 rw [s1,s2,s3,BitVec.ofInt_natCast,hw]
 unfold Mx.word
 simp only [BitVec.ofInt_natCast]
theorem addWord_any (c:BitVec 32) (z0 z1 z2 z3:Int) (tb pb off n cap:Nat) (w:World) (g0:0≤z0∧z0 < 256) (g1:0≤z1∧z1 < 256) (g2:0≤z2∧z2 < 256) (g3:0≤z3∧z3 < 256) (hn:4≤n)
 (b0:w.cell? ⟨pb,off,none⟩=some (.int .u8 z0)) (b1:w.cell? ⟨pb,off+1,none⟩=some (.int .u8 z1)) (b2:w.cell? ⟨pb,off+2,none⟩=some (.int .u8 z2)) (b3:w.cell? ⟨pb,off+3,none⟩=some (.int .u8 z3)) (ht:TabAt w tb):
  Calls Tryz.prog 172 #[.pointer (some ⟨tb,0,none⟩),.int .u32 (c.toNat:Int),.slice (some ⟨pb,off,none⟩) n cap] w fun e w'=>e= .returned (.int .u32 ((Mx.crc c [z0,z1,z2,z3]).toNat:Int))∧ ∃n,w'=w.drewN n:=by
 have hw:=Mx.word_tab (c ^^^ Mx.word z0 z1 z2 z3)
 have hc:=Mx.crc_word c z0 z1 z2 z3 g1 g2 g3
 have he:=word_val c z0 z1 z2 z3 g0 g1 g2 g3
 generalize hx:c ^^^ Mx.word z0 z1 z2 z3=x at hw hc he
 have hl:=x.isLt
 have i7:(x.toNat:Int) / 268435456=((x.toNat / 268435456 % 16:Nat):Int):=by omega
 have h:=addWord_walk c x z0 z1 z2 z3 tb pb off n cap w g0.1 g0.2 g1.1 g1.2 g2.1 g2.2 g3.1 g3.2 hn
  (Mx.tab 0 (x.toNat % 16)) (Mx.tab 1 (x.toNat / 16 % 16)) (Mx.tab 2 (x.toNat / 256 % 16)) (Mx.tab 3 (x.toNat / 4096 % 16)) (Mx.tab 4 (x.toNat / 65536 % 16)) (Mx.tab 5 (x.toNat / 1048576 % 16)) (Mx.tab 6 (x.toNat / 16777216 % 16)) (Mx.tab 7 (x.toNat / 268435456 % 16))
  (x.toNat % 16) (x.toNat / 16 % 16) (x.toNat / 256 % 16) (x.toNat / 4096 % 16) (x.toNat / 65536 % 16) (x.toNat / 1048576 % 16) (x.toNat / 16777216 % 16) (x.toNat / 268435456 % 16)
  (by omega) (by omega) (by omega) (by omega) (by omega) (by omega) (by omega) (by omega) he
  (nat_and15 _ hl) (and15 x 16) (and15 x 256) (and15 x 4096) (and15 x 65536) (and15 x 1048576) (and15 x 16777216) i7 b0 b1 b2 b3
  (by have:=ht 0 (x.toNat % 16) (by omega) (by omega);rwa [Nat.mul_zero,Nat.zero_add]at this) (ht 1 _ (by omega) (by omega)) (ht 2 _ (by omega) (by omega)) (ht 3 _ (by omega) (by omega)) (ht 4 _ (by omega) (by omega)) (ht 5 _ (by omega) (by omega)) (ht 6 _ (by omega) (by omega)) (ht 7 _ (by omega) (by omega))
 rw [hw, ← hc]at h
 exact h
open Go.RowKit
theorem addPart_any (c:BitVec 32) (zs:List Int) (A:Option Addr) (tb cap:Nat) (w:World) (hz:BytesAt w A zs) (ht:TabAt w tb) (hcap:zs.length≤cap) (hm:cap≤9223372036854775807):
 Calls Tryz.prog 170 #[.pointer (some ⟨tb,0,none⟩),.int .u32 (c.toNat:Int),.slice A zs.length cap] w fun e w'=>e= .returned (.int .u32 ((Mx.crc c zs).toNat:Int))∧ ∃n,w'=w.drewN n:=by
 go_enter Tryz.func170,Tryz.ntmps170
 go_wp2_with fail
 go_loopg [1,2] zs.length (fun g s v wx=>(∃nq,wx=w.drewN nq)∧ ∃(d:BitVec 32) (ys:List Int) (B:Option Addr) (k:Nat),g=ys.length∧s= .int .u32 (d.toNat:Int)∧v= .slice B ys.length k∧ys.length≤k∧k≤cap∧BytesAt w B ys∧Hid (Mx.crc d ys=Mx.crc c zs))
 case atStart=>exact⟨⟨0,rfl⟩,c,zs,A,cap,rfl,rfl,rfl,hcap,Nat.le_refl _,hz,qh rfl⟩
 case round=>
  obtain⟨⟨nq,rfl⟩,d,ys,B,k,hg,rfl,rfl,hk,hkc,hb,hd⟩:=hrel
  have Hg:=qh hg;clear hg
  match ys,hb with
  | z0::z1::z2::z3::rest,hb=>
    obtain⟨b,off,rfl⟩:=hb.some_ (by simp)
    have c0:=hb.one 0 (by simp)
    have c1:=hb.one 1 (by simp)
    have c2:=hb.one 2 (by simp)
    have c3:=hb.one 3 (by simp)
    simp only [Nat.add_zero,List.getD_cons_zero,List.getD_cons_succ]at c0 c1 c2 c3
    have g0:=hb.1 z0 (by simp)
    have g1:=hb.1 z1 (by simp)
    have g2:=hb.1 z2 (by simp)
    have g3:=hb.1 z3 (by simp)
    simp only [List.length_cons]at hk ⊢
    by_cases h4:k=4
    · subst h4
      obtain rfl:rest= []:=List.eq_nil_of_length_eq_zero (by omega)
      go_wp2_with fail
      refine(addWord_any d z0 z1 z2 z3 tb b off _ _ (w.drewN nq) g0 g1 g2 g3 ?_ c0 c1 c2 c3 (ht.drewN _)).mono ?_
      · exact Nat.le_refl _
      rintro e w' ⟨rfl,n2,rfl⟩
      go_wp2_with fail
      go_roundg 0
      case measure=>rw [Hg.out];simp
      case rel=>exact⟨⟨_,rfl⟩,Mx.crc d [z0,z1,z2,z3],[],some ⟨b,off,none⟩,0,rfl,rfl,rfl,by simp,by omega,BytesAt.nil _ _,qh hd.out⟩
    · go_wp2_with fail
      refine(addWord_any d z0 z1 z2 z3 tb b off _ _ (w.drewN nq) g0 g1 g2 g3 ?_ c0 c1 c2 c3 (ht.drewN _)).mono ?_
      · omega
      rintro e w' ⟨rfl,n2,rfl⟩
      go_wp2_with fail
      go_roundg rest.length
      case measure=>rw [Hg.out];simp;omega
      case rel=>exact⟨⟨_,rfl⟩,Mx.crc d [z0,z1,z2,z3],rest,some ⟨b,off+4,none⟩,k - 4,rfl,rfl,rfl,by omega,by omega,BytesAt.tail4 hb,qh hd.out⟩
  | [z0,z1,z2],hb=>
    obtain⟨b,off,rfl⟩:=hb.some_ (by simp)
    have c0:=hb.one 0 (by simp)
    have c1:=hb.one 1 (by simp)
    have c2:=hb.one 2 (by simp)
    simp only [Nat.add_zero,List.getD_cons_zero,List.getD_cons_succ]at c0 c1 c2
    have g0:=hb.1 z0 (by simp)
    have g1:=hb.1 z1 (by simp)
    have g2:=hb.1 z2 (by simp)
    simp only [List.length_cons,List.length_nil]at hk ⊢
    go_wp2_with fail
    refine(addByte_any d z0 tb _ g0.1 g0.2 (ht.drewN _)).mono ?_
    rintro e w' ⟨rfl,n2,rfl⟩
    go_wp2_with fail
    refine(addByte_any _ z1 tb _ g1.1 g1.2 (ht.drewN _)).mono ?_
    rintro e w' ⟨rfl,n3,rfl⟩
    go_wp2_with fail
    refine(addByte_any _ z2 tb _ g2.1 g2.2 (ht.drewN _)).mono ?_
    rintro e w' ⟨rfl,n4,rfl⟩
    go_wp2_with fail
    go_ret
    exact⟨ret_int (by rw [← hd.out];rfl),_,rfl⟩
  | [z0,z1],hb=>
    obtain⟨b,off,rfl⟩:=hb.some_ (by simp)
    have c0:=hb.one 0 (by simp)
    have c1:=hb.one 1 (by simp)
    simp only [Nat.add_zero,List.getD_cons_zero,List.getD_cons_succ]at c0 c1
    have g0:=hb.1 z0 (by simp)
    have g1:=hb.1 z1 (by simp)
    simp only [List.length_cons,List.length_nil]at hk ⊢
    go_wp2_with fail
    refine(addByte_any d z0 tb _ g0.1 g0.2 (ht.drewN _)).mono ?_
    rintro e w' ⟨rfl,n2,rfl⟩
    go_wp2_with fail
    refine(addByte_any _ z1 tb _ g1.1 g1.2 (ht.drewN _)).mono ?_
    rintro e w' ⟨rfl,n3,rfl⟩
    go_wp2_with fail
    go_ret
    exact⟨ret_int (by rw [← hd.out];rfl),_,rfl⟩
  | [z0],hb=>
    obtain⟨b,off,rfl⟩:=hb.some_ (by simp)
    have c0:=hb.one 0 (by simp)
    simp only [Nat.add_zero,List.getD_cons_zero]at c0
    have g0:=hb.1 z0 (by simp)
    simp only [List.length_cons,List.length_nil]at hk ⊢
    go_wp2_with fail
    refine(addByte_any d z0 tb _ g0.1 g0.2 (ht.drewN _)).mono ?_
    rintro e w' ⟨rfl,n2,rfl⟩
    go_wp2_with fail
    go_ret
    exact⟨ret_int (by rw [← hd.out];rfl),_,rfl⟩
  | [],hb=>
    simp only [List.length_nil]at hk ⊢
    go_wp2_with fail
    go_ret
    exact⟨ret_int (by rw [← hd.out];rfl),_,rfl⟩
end Go.Proofs.YtpaikolnampcfaaGreatDoor
namespace Go.Proofs.YtpaikolnampcfaaGreatDoor.Mx
def wordAt (i:Nat):Nat:=i % 16 * 2 ^ (4 * (i / 16))
def filled (g i:Nat):Nat:=if wordAt i % 2 ^ g=0 then wordAt i else 0
def midway (b n i:Nat):Nat:=if i / 16=b / 4∧i % 16 < n then filled b i else filled (b+1) i
def wt (b:Nat):Nat:=2 ^ (b % 4)
theorem step_all :(List.range 32).all (fun b=>(List.range 8).all fun k=>decide (16≤2 * wt b * k) || (List.range 128).all fun i=>
 midway b (2 * wt b * (k+1)) i==(if i=16 * (b / 4)+(2 * wt b * k+wt b)then midway b (2 * wt b * k) (16 * (b / 4)+2 * wt b * k) ^^^ 2 ^ b else midway b (2 * wt b * k) i))=true:=by decide +kernel
theorem row_all :(List.range 32).all (fun b=>(List.range 128).all fun i=>midway b 16 i==filled b i&&midway b 0 i==filled (b+1) i)=true:=by decide +kernel
theorem ends_all :(List.range 128).all (fun i=>filled 32 i==0&&filled 0 i==wordAt i)=true:=by decide +kernel
theorem shifted_all :(List.range 32).all (fun b=>shN (31 - b) 0x82F63B78#32==shN 32 (BitVec.ofNat 32 (2 ^ b)))=true:=by decide +kernel
theorem all_at {p:Nat→Bool} {n:Nat} (h:(List.range n).all p=true) (i:Nat) (hi:i < n):p i=true:=by
 rw [List.all_eq_true]at h;exact h i (List.mem_range.2 hi)
theorem shifted_at (b:Nat) (hb:b < 32):shN (31 - b) 0x82F63B78#32=shN 32 (BitVec.ofNat 32 (2 ^ b)):=eq_of_beq (all_at shifted_all b hb)
theorem step_at (b k i:Nat) (hb:b < 32) (hk:2 * wt b * k < 16) (hi:i < 128):
 midway b (2 * wt b * (k+1)) i=(if i=16 * (b / 4)+(2 * wt b * k+wt b)then midway b (2 * wt b * k) (16 * (b / 4)+2 * wt b * k) ^^^ 2 ^ b else midway b (2 * wt b * k) i):=by
 have hw:0 < wt b:=Nat.two_pow_pos _
 have hk8:k < 8:=by
  have:=Nat.mul_le_mul_right k (show 2≤2 * wt b by omega)
  omega
 have h:=all_at (all_at step_all b hb) k hk8
 rw [Bool.or_eq_true]at h
 rcases h with h | h
 · have:=of_decide_eq_true h;omega
 · exact eq_of_beq (all_at h i hi)
theorem row_end (b i:Nat) (hb:b < 32) (hi:i < 128):midway b 16 i=filled b i:=by
 have h:=all_at (all_at row_all b hb) i hi
 rw [Bool.and_eq_true]at h;exact eq_of_beq h.1
theorem row_start (b i:Nat) (hb:b < 32) (hi:i < 128):midway b 0 i=filled (b+1) i:=by
 have h:=all_at (all_at row_all b hb) i hi
 rw [Bool.and_eq_true]at h;exact eq_of_beq h.2
theorem filled_top (i:Nat) (hi:i < 128):filled 32 i=0:=by
 have h:=all_at ends_all i hi
 rw [Bool.and_eq_true]at h;exact eq_of_beq h.1
theorem filled_done (i:Nat) (hi:i < 128):filled 0 i=wordAt i:=by
 have h:=all_at ends_all i hi
 rw [Bool.and_eq_true]at h;exact eq_of_beq h.2
theorem tab_word (r n:Nat) (hn:n < 16):tab r n=shN 32 (BitVec.ofNat 32 (wordAt (16 * r+n))):=by
 unfold tab wordAt
 rw [show (16 * r+n) % 16=n by omega,show(16 * r+n) / 16=r by omega,mul_shift]
theorem ofNat_xor (a b:Nat):BitVec.ofNat 32 (a ^^^ b)=BitVec.ofNat 32 a ^^^ BitVec.ofNat 32 b:=by
 apply BitVec.eq_of_getLsbD_eq
 intro i hi
 rw [BitVec.getLsbD_xor,BitVec.getLsbD_ofNat,BitVec.getLsbD_ofNat,BitVec.getLsbD_ofNat,Nat.testBit_xor]
 simp [hi]
end Go.Proofs.YtpaikolnampcfaaGreatDoor.Mx
namespace Go.Proofs.YtpaikolnampcfaaGreatDoor
open Go.RowKit
def tcells (f:Nat→BitVec 32):Array Value:=((List.range 128).map fun i=>Value.int .u32 ((f i).toNat:Int)).toArray
theorem tcells_get (f:Nat→BitVec 32) (i:Nat) (hi:i < 128):(tcells f)[i]? =some (.int .u32 ((f i).toNat:Int)):=by
 unfold tcells;simp [hi]
theorem tcells_set (f h:Nat→BitVec 32) (k:Nat) (x:BitVec 32) (hk:k < 128) (hh: ∀i,i < 128→h i=if i=k then x else f i):
 (tcells f).setIfInBounds k (.int .u32 (x.toNat:Int))=tcells h:=by
 apply Array.ext_getElem?
 intro i
 rw [Array.getElem?_setIfInBounds]
 by_cases hi:i < 128
 · rw [tcells_get h i hi,tcells_get f i hi,hh i hi]
   by_cases e:k=i
   · subst e;rw [if_pos rfl,if_pos rfl];simp [tcells,hk]
   · rw [if_neg e,if_neg (fun e'=>e e'.symm)]
 · have n1:(tcells f)[i]? =none:=by unfold tcells;simp;omega
   have n2:(tcells h)[i]? =none:=by unfold tcells;simp;omega
   rw [n1,n2,if_neg (by omega)]
theorem tcells_congr (f h:Nat→BitVec 32) (hh: ∀i,i < 128→f i=h i):tcells f=tcells h:=by
 unfold tcells
 congr 1
 apply List.map_congr_left
 intro i hi
 rw [hh i (List.mem_range.1 hi)]
def lift32 (s:Nat→Nat) (i:Nat):BitVec 32:=Mx.shN 32 (BitVec.ofNat 32 (s i))
theorem zeroTab (w:World):(zeroValue 257).run Tryz.prog w= .ok (.agg (tcells fun _=>0#32)) w:=by kernel_rfl
theorem tcells_size (f:Nat→BitVec 32):(tcells f).size=128:=by unfold tcells;simp
theorem tcells_one (f:Nat→BitVec 32):(tcells f).all (·.oneCell')=true:=by
 unfold tcells
 rw [Array.all_eq_true_iff_forall_mem]
 intro v hv
 simp at hv
 obtain⟨i,_,rfl⟩:=hv
 rfl
theorem Below.setRow {B:Nat} {a w:World} (h:Below B a w) {g:Nat} (hg:B≤g) (cs:Array Value):Below B a (w.setRow g cs):=
 ⟨h.os,h.tape,h.output,by rw [size_setRow];exact h.size,fun k hk=>(setRow_other w g k cs (by omega)).trans (h.block k hk)⟩
def twoTabs (w:World) (f:Nat→BitVec 32) (n:Nat):World:=((w.alloc (.cells (tcells fun _=>0#32) 257)).alloc (.cells (tcells f) 257)).drewN n
theorem twoTabs_set (w:World) (f h:Nat→BitVec 32) (n k:Nat) (x:BitVec 32) (hk:k < 128) (hh: ∀i,i < 128→h i=if i=k then x else f i):
 (twoTabs w f n).setCell ⟨w.heap.size+1,k,none⟩ (.int .u32 (x.toNat:Int))=twoTabs w h n:=by
 show(((w.alloc _).alloc _).setCell _ _).drewN n=_
 rw [World.setCell_alloc_at (w:=w.alloc (.cells (tcells fun _=>0#32) 257)) _ _ _ _ _ (by simp),tcells_set f h k x hk hh]
 rfl
theorem twoTabs_below (w:World) (f:Nat→BitVec 32) (n:Nat):Below w.heap.size w (twoTabs w f n):=
 Below.drewN (((Below.refl _ _).alloc (Nat.le_refl _) _).alloc (by simp) _) n
theorem twoTabs_old (w:World) (f:Nat→BitVec 32) (n:Nat):(twoTabs w f n).heap[w.heap.size]? =some (.cells (tcells fun _=>0#32) 257 (0,0)):=heap_alloc2_old w _ _
theorem twoTabs_new (w:World) (f:Nat→BitVec 32) (n:Nat):(twoTabs w f n).heap[w.heap.size+1]? =some (.cells (tcells f) 257 (0,0)):=heap_alloc2_new w _ _
theorem step_value (b k m r W:Nat) (h:Nat→BitVec 32) (hb:b < 32) (hr:r=b / 4) (hW:Mx.wt b=W) (hm:m=2 * Mx.wt b * k) (hlt:m < 16)
 (hh: ∀i,i < 128→h i=lift32 (Mx.midway b m) i):
 ∀i,i < 128→lift32 (Mx.midway b (m+2 * W)) i=if i=r * 16+(m+W)then(h (r * 16+m) ^^^ Mx.shN (31 - b) 0x82F63B78#32)else h i:=by
 intro i hi
 have hs:=Mx.step_at b k i hb (by omega) hi
 rw [show 2 * Mx.wt b * (k+1)=m+2 * W by rw [hm, ← hW,Nat.mul_add];omega, ← hm,hW]at hs
 unfold lift32
 rw [hs,hr,Nat.mul_comm (b / 4) 16]
 by_cases e:i=16 * (b / 4)+(m+W)
 · rw [if_pos e,if_pos e,Mx.ofNat_xor,Mx.shN_xor, ← Mx.shifted_at b hb,hh _ (by omega)];rfl
 · rw [if_neg e,if_neg e,hh _ hi];rfl
theorem twoTabs_draw (w:World) (h:Nat→BitVec 32) (nq n k:Nat) {a:Int} {x:BitVec 32} {h2:Nat→BitVec 32} (ha:a=(x.toNat:Int)) (hk:k < 128) (hh: ∀i,i < 128→h2 i=if i=k then x else h i):
 ((twoTabs w h nq).drewN n).setCell ⟨w.heap.size+1,k,none⟩ (.int .u32 a)=twoTabs w h2 (nq+n):=by
 subst ha
 have h0:=twoTabs_set w h h2 (nq+n) k x hk hh
 have e:(twoTabs w h nq).drewN n=twoTabs w h (nq+n):=World.drewN_drewN _ _ _
 rw [e];exact h0
theorem heap_setRow_old (w:World) (f:Nat→BitVec 32) (n:Nat):((twoTabs w f n).setRow w.heap.size (tcells f)).heap[w.heap.size]? =some (.cells (tcells f) 257 (0,0)):=setRow_heap _ _ _ _ _ _ (twoTabs_old w f n)
theorem bits_tab (x y:BitVec 32):bits .xor .u32 (x.toNat:Int) (y.toNat:Int)=((x ^^^ y).toNat:Int):=xor_val x y
theorem newTable_any (w:World):
 Calls Tryz.prog 169 #[] w fun e w'=>e= .returned (.agg (tcells fun i=>Mx.tab (i / 16) (i % 16)))∧Below w.heap.size w w':=by
 have hz:=zeroTab
 go_enter Tryz.func169,Tryz.ntmps169
 go_wp2_with fail
 go_loopg [2,3,4,5] 32 (fun g s b _ _ wx=> ∃(f:Nat→BitVec 32) (nq:Nat) (bit:Int),wx=twoTabs w f nq∧g≤32∧Hid (bit=(g:Int) - 1)∧b= .int .i64 bit∧s= .int .u32 ((Mx.shN (32 - g) 0x82F63B78#32).toNat:Int)∧Hid (∀i,i < 128→f i=lift32 (Mx.filled g) i))
 case atStart=>exact⟨fun _=>0#32,0,31,rfl,by omega,qh rfl,rfl,rfl,qh (fun i hi=>by unfold lift32;rw [Mx.filled_top i hi];exact(Mx.shN_zero 32).symm)⟩
 case round=>
  obtain⟨f,nq,bit,rfl,hg,hb,rfl,rfl,hf⟩:=hrel
  by_cases h0:gk=0
  · subst h0
    obtain rfl:bit= -1:=by have:=hb.out;omega
    have hinfo:(Tryz.prog.info? 257).map (·.size)=some 128:=by kernel_rfl
    have hg1:=twoTabs_new w f nq
    have hg0:=heap_setRow_old w f nq
    go_wp2_with (first | (refine wpList_load_row rfl 257 _ rfl (w.heap.size+1) rfl 257 (tcells f) (0,0) _ hg1 Tryz.underlying257 rfl (by rw [tcells_size];exact hinfo) ?_) | (refine wpList_store_row rfl 257 _ _ rfl w.heap.size (tcells f) rfl rfl 257 (tcells fun _=>0#32) (twoTabs_old w f nq) (by rw [tcells_size];exact hinfo) (by rw [tcells_size,tcells_size]) (tcells_one f) ?_))
    refine bodyPost_ret (v:= .agg (tcells f)) (results_cell_row rfl _ _ w.heap.size 257 (tcells f) (0,0) _ rfl hg0 Tryz.underlying257 rfl (by rw [tcells_size];exact hinfo)) rfl ⟨?_,Below.setRow (twoTabs_below w f nq) (Nat.le_refl _) _⟩
    rw [tcells_congr f (fun i=>Mx.tab (i / 16) (i % 16)) (fun i hi=>by rw [hf.out i hi];unfold lift32;rw [Mx.filled_done i hi,Mx.tab_word (i / 16) (i % 16) (by omega),Nat.div_add_mod])]
  · obtain⟨b,rfl⟩: ∃b,gk=b+1:=⟨gk - 1,by omega⟩
    obtain rfl:bit=(b:Int):=by have:=hb.out;omega
    clear h0
    obtain⟨r,hr⟩: ∃r,r=b / 4:=⟨_,rfl⟩
    have hq:(b:Int) / 4=(r:Int):=by omega
    have hr8:r < 8:=by omega
    have Hr:=qh hr
    have hj:b % 4=0∨b % 4=1∨b % 4=2∨b % 4=3:=by omega
    rcases hj with hj | hj | hj | hj
    · have hm:(b:Int) % 4=0:=by omega
      have hwt:Mx.wt b=2 ^ 0:=by unfold Mx.wt;rw [hj]
      simp only [Nat.reducePow]at hwt
      have Hwt:=qh hwt
      clear hr hj hwt
      go_wp2_with fail
      go_loopg [5] 8 (fun g n wx=> ∃(h:Nat→BitVec 32) (nq m k:Nat),wx=twoTabs w h nq∧n= .int .i64 (m:Int)∧m≤16∧Hid (m=2 * Mx.wt b * k)∧Hid (g+k=8)∧Hid (∀i,i < 128→h i=lift32 (Mx.midway b m) i))
      case atStart=>exact⟨f,nq,0,0,rfl,rfl,by omega,qh rfl,qh rfl,qh (fun i hi=>by rw [hf.out i hi];unfold lift32;rw [Mx.row_start b i (by omega) hi])⟩
      case round=>
       obtain⟨h,nq,m,k,rfl,rfl,hm16,hmk,hgk,hh⟩:=hrel
       by_cases hlt:m < 16
       · have hlim:m+1 < 16:=by have h1:=hmk.out;rw [Hwt.out]at h1;omega
         have hlim2:m+2≤16:=by have h1:=hmk.out;rw [Hwt.out]at h1;omega
         have hd:r * 16+m < 128:=by omega
         have hd2:r * 16+(m+1) < 128:=by omega
         have c1:(twoTabs w h nq).cell? ⟨w.heap.size+1,r * 16+m,none⟩=some (.int .u32 ((h (r * 16+m)).toNat:Int)):=(cell_of_row _ _ _ _ _ _ (twoTabs_new w h nq)).trans (tcells_get h _ hd)
         have c2:(twoTabs w h nq).cell? ⟨w.heap.size+1,r * 16+(m+1),none⟩=some (.int .u32 ((h (r * 16+(m+1))).toNat:Int)):=(cell_of_row _ _ _ _ _ _ (twoTabs_new w h nq)).trans (tcells_get h _ hd2)
         have c3:(twoTabs w h nq).frozen? ⟨w.heap.size+1,r * 16+(m+1),none⟩=false:=frozen_of_row _ _ _ _ _ (twoTabs_new w h nq)
         go_wp2_with fail
         go_region
         go_wp2_with fail
         go_roundg (gk - 1)
         case measure=>have h1:=hmk.out;have h2:=hgk.out;rw [Hwt.out]at h1;omega
         case rel=>exact⟨lift32 (Mx.midway b (m+2)),_,m+2,k+1,twoTabs_draw w h nq _ _ (bits_tab _ _) hd2 (step_value b k m r 1 h (by omega) Hr.out Hwt.out hmk.out hlt hh.out),rfl,by omega,qh (by rw [Nat.mul_add, ← hmk.out,Hwt.out]),qh (by have:=hgk.out;have h1:=hmk.out;rw [Hwt.out]at h1;omega),qh (fun i _=>rfl)⟩
       · obtain rfl:m=16:=by omega
         go_wp2_with fail
         refine(shift_any _ _).mono ?_
         rintro e w' ⟨rfl,rfl⟩
         go_wp2_with fail
         go_roundg b
         case measure=>omega
         case rel=>exact⟨h,nq,(b:Int) - 1,rfl,by omega,qh rfl,rfl,val_int (by rw [← Mx.shN_succ,show 31 - b+1=32 - b by omega]),qh (fun i hi=>by rw [hh.out i hi];unfold lift32;rw [Mx.row_end b i (by omega) hi])⟩
    · have hm:(b:Int) % 4=1:=by omega
      have hwt:Mx.wt b=2 ^ 1:=by unfold Mx.wt;rw [hj]
      simp only [Nat.reducePow]at hwt
      have Hwt:=qh hwt
      clear hr hj hwt
      go_wp2_with fail
      go_loopg [5] 8 (fun g n wx=> ∃(h:Nat→BitVec 32) (nq m k:Nat),wx=twoTabs w h nq∧n= .int .i64 (m:Int)∧m≤16∧Hid (m=2 * Mx.wt b * k)∧Hid (g+k=8)∧Hid (∀i,i < 128→h i=lift32 (Mx.midway b m) i))
      case atStart=>exact⟨f,nq,0,0,rfl,rfl,by omega,qh rfl,qh rfl,qh (fun i hi=>by rw [hf.out i hi];unfold lift32;rw [Mx.row_start b i (by omega) hi])⟩
      case round=>
       obtain⟨h,nq,m,k,rfl,rfl,hm16,hmk,hgk,hh⟩:=hrel
       by_cases hlt:m < 16
       · have hlim:m+2 < 16:=by have h1:=hmk.out;rw [Hwt.out]at h1;omega
         have hlim2:m+4≤16:=by have h1:=hmk.out;rw [Hwt.out]at h1;omega
         have hd:r * 16+m < 128:=by omega
         have hd2:r * 16+(m+2) < 128:=by omega
         have c1:(twoTabs w h nq).cell? ⟨w.heap.size+1,r * 16+m,none⟩=some (.int .u32 ((h (r * 16+m)).toNat:Int)):=(cell_of_row _ _ _ _ _ _ (twoTabs_new w h nq)).trans (tcells_get h _ hd)
         have c2:(twoTabs w h nq).cell? ⟨w.heap.size+1,r * 16+(m+2),none⟩=some (.int .u32 ((h (r * 16+(m+2))).toNat:Int)):=(cell_of_row _ _ _ _ _ _ (twoTabs_new w h nq)).trans (tcells_get h _ hd2)
         have c3:(twoTabs w h nq).frozen? ⟨w.heap.size+1,r * 16+(m+2),none⟩=false:=frozen_of_row _ _ _ _ _ (twoTabs_new w h nq)
         go_wp2_with fail
         go_region
         go_wp2_with fail
         go_roundg (gk - 1)
         case measure=>have h1:=hmk.out;have h2:=hgk.out;rw [Hwt.out]at h1;omega
         case rel=>exact⟨lift32 (Mx.midway b (m+4)),_,m+4,k+1,twoTabs_draw w h nq _ _ (bits_tab _ _) hd2 (step_value b k m r 2 h (by omega) Hr.out Hwt.out hmk.out hlt hh.out),rfl,by omega,qh (by rw [Nat.mul_add, ← hmk.out,Hwt.out]),qh (by have:=hgk.out;have h1:=hmk.out;rw [Hwt.out]at h1;omega),qh (fun i _=>rfl)⟩
       · obtain rfl:m=16:=by omega
         go_wp2_with fail
         refine(shift_any _ _).mono ?_
         rintro e w' ⟨rfl,rfl⟩
         go_wp2_with fail
         go_roundg b
         case measure=>omega
         case rel=>exact⟨h,nq,(b:Int) - 1,rfl,by omega,qh rfl,rfl,val_int (by rw [← Mx.shN_succ,show 31 - b+1=32 - b by omega]),qh (fun i hi=>by rw [hh.out i hi];unfold lift32;rw [Mx.row_end b i (by omega) hi])⟩
    · have hm:(b:Int) % 4=2:=by omega
      have hwt:Mx.wt b=2 ^ 2:=by unfold Mx.wt;rw [hj]
      simp only [Nat.reducePow]at hwt
      have Hwt:=qh hwt
      clear hr hj hwt
      go_wp2_with fail
      go_loopg [5] 8 (fun g n wx=> ∃(h:Nat→BitVec 32) (nq m k:Nat),wx=twoTabs w h nq∧n= .int .i64 (m:Int)∧m≤16∧Hid (m=2 * Mx.wt b * k)∧Hid (g+k=8)∧Hid (∀i,i < 128→h i=lift32 (Mx.midway b m) i))
      case atStart=>exact⟨f,nq,0,0,rfl,rfl,by omega,qh rfl,qh rfl,qh (fun i hi=>by rw [hf.out i hi];unfold lift32;rw [Mx.row_start b i (by omega) hi])⟩
      case round=>
       obtain⟨h,nq,m,k,rfl,rfl,hm16,hmk,hgk,hh⟩:=hrel
       by_cases hlt:m < 16
       · have hlim:m+4 < 16:=by have h1:=hmk.out;rw [Hwt.out]at h1;omega
         have hlim2:m+8≤16:=by have h1:=hmk.out;rw [Hwt.out]at h1;omega
         have hd:r * 16+m < 128:=by omega
         have hd2:r * 16+(m+4) < 128:=by omega
         have c1:(twoTabs w h nq).cell? ⟨w.heap.size+1,r * 16+m,none⟩=some (.int .u32 ((h (r * 16+m)).toNat:Int)):=(cell_of_row _ _ _ _ _ _ (twoTabs_new w h nq)).trans (tcells_get h _ hd)
         have c2:(twoTabs w h nq).cell? ⟨w.heap.size+1,r * 16+(m+4),none⟩=some (.int .u32 ((h (r * 16+(m+4))).toNat:Int)):=(cell_of_row _ _ _ _ _ _ (twoTabs_new w h nq)).trans (tcells_get h _ hd2)
         have c3:(twoTabs w h nq).frozen? ⟨w.heap.size+1,r * 16+(m+4),none⟩=false:=frozen_of_row _ _ _ _ _ (twoTabs_new w h nq)
         go_wp2_with fail
         go_region
         go_wp2_with fail
         go_roundg (gk - 1)
         case measure=>have h1:=hmk.out;have h2:=hgk.out;rw [Hwt.out]at h1;omega
         case rel=>exact⟨lift32 (Mx.midway b (m+8)),_,m+8,k+1,twoTabs_draw w h nq _ _ (bits_tab _ _) hd2 (step_value b k m r 4 h (by omega) Hr.out Hwt.out hmk.out hlt hh.out),rfl,by omega,qh (by rw [Nat.mul_add, ← hmk.out,Hwt.out]),qh (by have:=hgk.out;have h1:=hmk.out;rw [Hwt.out]at h1;omega),qh (fun i _=>rfl)⟩
       · obtain rfl:m=16:=by omega
         go_wp2_with fail
         refine(shift_any _ _).mono ?_
         rintro e w' ⟨rfl,rfl⟩
         go_wp2_with fail
         go_roundg b
         case measure=>omega
         case rel=>exact⟨h,nq,(b:Int) - 1,rfl,by omega,qh rfl,rfl,val_int (by rw [← Mx.shN_succ,show 31 - b+1=32 - b by omega]),qh (fun i hi=>by rw [hh.out i hi];unfold lift32;rw [Mx.row_end b i (by omega) hi])⟩
    · have hm:(b:Int) % 4=3:=by omega
      have hwt:Mx.wt b=2 ^ 3:=by unfold Mx.wt;rw [hj]
      simp only [Nat.reducePow]at hwt
      have Hwt:=qh hwt
      clear hr hj hwt
      go_wp2_with fail
      go_loopg [5] 8 (fun g n wx=> ∃(h:Nat→BitVec 32) (nq m k:Nat),wx=twoTabs w h nq∧n= .int .i64 (m:Int)∧m≤16∧Hid (m=2 * Mx.wt b * k)∧Hid (g+k=8)∧Hid (∀i,i < 128→h i=lift32 (Mx.midway b m) i))
      case atStart=>exact⟨f,nq,0,0,rfl,rfl,by omega,qh rfl,qh rfl,qh (fun i hi=>by rw [hf.out i hi];unfold lift32;rw [Mx.row_start b i (by omega) hi])⟩
      case round=>
       obtain⟨h,nq,m,k,rfl,rfl,hm16,hmk,hgk,hh⟩:=hrel
       by_cases hlt:m < 16
       · have hlim:m+8 < 16:=by have h1:=hmk.out;rw [Hwt.out]at h1;omega
         have hlim2:m+16≤16:=by have h1:=hmk.out;rw [Hwt.out]at h1;omega
         have hd:r * 16+m < 128:=by omega
         have hd2:r * 16+(m+8) < 128:=by omega
         have c1:(twoTabs w h nq).cell? ⟨w.heap.size+1,r * 16+m,none⟩=some (.int .u32 ((h (r * 16+m)).toNat:Int)):=(cell_of_row _ _ _ _ _ _ (twoTabs_new w h nq)).trans (tcells_get h _ hd)
         have c2:(twoTabs w h nq).cell? ⟨w.heap.size+1,r * 16+(m+8),none⟩=some (.int .u32 ((h (r * 16+(m+8))).toNat:Int)):=(cell_of_row _ _ _ _ _ _ (twoTabs_new w h nq)).trans (tcells_get h _ hd2)
         have c3:(twoTabs w h nq).frozen? ⟨w.heap.size+1,r * 16+(m+8),none⟩=false:=frozen_of_row _ _ _ _ _ (twoTabs_new w h nq)
         go_wp2_with fail
         go_region
         go_wp2_with fail
         go_roundg (gk - 1)
         case measure=>have h1:=hmk.out;have h2:=hgk.out;rw [Hwt.out]at h1;omega
         case rel=>exact⟨lift32 (Mx.midway b (m+16)),_,m+16,k+1,twoTabs_draw w h nq _ _ (bits_tab _ _) hd2 (step_value b k m r 8 h (by omega) Hr.out Hwt.out hmk.out hlt hh.out),rfl,by omega,qh (by rw [Nat.mul_add, ← hmk.out,Hwt.out]),qh (by have:=hgk.out;have h1:=hmk.out;rw [Hwt.out]at h1;omega),qh (fun i _=>rfl)⟩
       · obtain rfl:m=16:=by omega
         go_wp2_with fail
         refine(shift_any _ _).mono ?_
         rintro e w' ⟨rfl,rfl⟩
         go_wp2_with fail
         go_roundg b
         case measure=>omega
         case rel=>exact⟨h,nq,(b:Int) - 1,rfl,by omega,qh rfl,rfl,val_int (by rw [← Mx.shN_succ,show 31 - b+1=32 - b by omega]),qh (fun i hi=>by rw [hh.out i hi];unfold lift32;rw [Mx.row_end b i (by omega) hi])⟩
open Go.RowKit
theorem crc_parts (c:BitVec 32) (ps:List Part) (k:Nat) (p:Part) (h:ps[k]? =some p):Mx.crc c (bytesOf (ps.take (k+1)))=Mx.crc (Mx.crc c (bytesOf (ps.take k))) p.zs:=by
 rw [List.take_add_one,h]
 unfold bytesOf
 rw [List.flatMap_append,Mx.crc_append]
 simp
theorem tabAt_row (w:World) (g:Nat) (hg:w.heap[g]? =some (.cells (tcells fun i=>Mx.tab (i / 16) (i % 16)) 257 (0,0))):TabAt w g:=by
 intro r n hr hn
 rw [cell_of_row _ _ _ _ _ _ hg,tcells_get _ _ (by omega),show(16 * r+n) / 16=r by omega,show(16 * r+n) % 16=n by omega]
theorem compl (x:BitVec 32):bits .xor .u32 IntKind.u32.max (x.toNat:Int)=((~~~ x).toNat:Int):=by
 rw [bits_xor,u32_toInt,Mx.not_eq_xor,BitVec.xor_comm];rfl
theorem sum_any (ps:List Part) (A:Option Addr) (cap:Nat) (w:World) (hp:PartsAt w A ps) (hn:ps.length≤9223372036854775807):
 Calls Tryz.prog 167 #[.slice A ps.length cap] w fun e w'=>e= .returned (.int .u32 ((Mx.sum (bytesOf ps)).toNat:Int))∧Below w.heap.size w w':=by
 have hz:=zeroTab
 have hinfo:(Tryz.prog.info? 257).map (·.size)=some 128:=by kernel_rfl
 go_enter Tryz.func167,Tryz.ntmps167
 go_wp2_with fail
 refine(newTable_any _).mono ?_
 rintro e w1 ⟨rfl,hb1⟩
 have hb2:=hb1.alloc hb1.size (.cells (tcells fun _=>0#32) 257)
 have hg:=heap_alloc_new w1 (.cells (tcells fun _=>0#32) 257)
 go_wp2_with (refine wpList_store_row rfl 257 _ _ rfl w1.heap.size (tcells fun i=>Mx.tab (i / 16) (i % 16)) rfl rfl 257 (tcells fun _=>0#32) hg (by rw [tcells_size];exact hinfo) (by rw [tcells_size,tcells_size]) (tcells_one _) ?_)
 have hb3:=Below.setRow hb2 hb1.size (tcells fun i=>Mx.tab (i / 16) (i % 16))
 have ht:=tabAt_row _ _ (setRow_heap _ _ _ (tcells fun i=>Mx.tab (i / 16) (i % 16)) _ _ hg)
 have hps:=hp.below hb3
 generalize hw2:(w1.alloc (.cells (tcells fun _=>0#32) 257)).setRow w1.heap.size (tcells fun i=>Mx.tab (i / 16) (i % 16))=w2 at hb3 ht hps ⊢
 generalize hgt:w1.heap.size=tb at ht ⊢
 clear hw2 hgt hg hb2 hb1 hinfo hz
 go_loopg [4,6,10] ps.length (fun g s _ i wx=>(∃nq,wx=w2.drewN nq)∧ ∃(k:Nat),g=ps.length - k∧k≤ps.length∧i= .int .i64 (k:Int)∧s= .int .u32 ((Mx.crc 0xFFFFFFFF#32 (bytesOf (ps.take k))).toNat:Int))
 case atStart=>exact⟨⟨0,rfl⟩,0,rfl,by omega,rfl,rfl⟩
 case round=>
  obtain⟨⟨nq,rfl⟩,k,hgk,hk,rfl,rfl⟩:=hrel
  have Hg:=qh hgk;clear hgk
  by_cases hlt:k < ps.length
  · have hq:ps[k]? =some ps[k]:=List.getElem?_eq_getElem hlt
    generalize hpk:ps[k]=p at hq
    have hm:p∈ps:=by rw [← hpk];exact List.getElem_mem hlt
    obtain⟨b,off,rfl,hc⟩:=hps.2 (by intro e;simp [e]at hlt)
    have c1:w2.cell? ⟨b,off+k,none⟩=some (.slice p.A p.zs.length p.cap):=hc k p hq
    have hok:=hps.1 p hm
    have hcrc:=crc_parts 0xFFFFFFFF#32 ps k p hq
    have Hc:=qh hcrc
    clear hcrc hpk hc hq
    go_wp2_with fail
    refine(addPart_any _ p.zs p.A tb p.cap (w2.drewN nq) hok.1 ht hok.2.1 hok.2.2).mono ?_
    rintro e w' ⟨rfl,n2,rfl⟩
    go_wp2_with fail
    go_roundg (ps.length - (k+1))
    case measure=>rw [Hg.out];omega
    case rel=>exact⟨⟨_,rfl⟩,k+1,rfl,by omega,by go_num,by rw [Hc.out]⟩
  · obtain rfl:k=ps.length:=by omega
    go_wp2_with fail
    go_ret
    exact⟨ret_int (compl _),Below.drewN hb3 _⟩
end Go.Proofs.YtpaikolnampcfaaGreatDoor
