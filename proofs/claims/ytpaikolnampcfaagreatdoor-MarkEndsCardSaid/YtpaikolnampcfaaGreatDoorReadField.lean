/- What a reader has in memory; its small functions. -/
import Derived.Test.YtpaikolnampcfaaGreatDoorCodeBytes
import Derived.StillTailTactics
namespace Go.Proofs.YtpaikolnampcfaaGreatDoor
set_option maxRecDepth 100000
set_option maxHeartbeats 1000000
open Go.RowKit
structure Sen where
 wd:Addr
 few:Addr
 gr:Addr
 mu:Addr
 en:Addr
def Sen.has (σ:Sen) (a:Addr):Prop:=a=σ.wd∨a=σ.few∨a=σ.gr∨a=σ.mu∨a=σ.en
def errV (a:Addr):Value:= .iface 262 (.pointer (some a))
structure GlAt (σ:Sen) (w:World):Prop where
 wd:w.cell? ⟨12,0,none⟩=some (errV σ.wd)
 few:w.cell? ⟨13,0,none⟩=some (errV σ.few)
 gr:w.cell? ⟨14,0,none⟩=some (errV σ.gr)
 mu:w.cell? ⟨19,0,none⟩=some (errV σ.mu)
 ty:w.cell? ⟨9,0,none⟩=some (.iface 202 (.agg #[.pointer (some ⟨23,84,none⟩)]))
 there: ∀a,σ.has a→ ∃c t,w.heap[a.block]? =some (.cells c t (0,0))
 ne:σ.wd≠σ.mu∧σ.few≠σ.mu∧σ.gr≠σ.mu∧σ.en≠σ.mu
theorem GlAt.below {σ:Sen} {w w':World} (h:GlAt σ w) (hb:Below w.heap.size w w'):GlAt σ w':=
 ⟨cell_below h.wd hb,cell_below h.few hb,cell_below h.gr hb,cell_below h.mu hb,cell_below h.ty hb,fun a ha=>by
  obtain⟨c,t,e⟩:=h.there a ha
  exact⟨c,t,(hb.block _ (Array.getElem?_eq_some_iff.1 e).1).trans e⟩,h.ne⟩
structure GlF (σ:Sen) (w:World):Prop where
 wd:w.cell? ⟨12,0,none⟩=some (errV σ.wd)
 few:w.cell? ⟨13,0,none⟩=some (errV σ.few)
 gr:w.cell? ⟨14,0,none⟩=some (errV σ.gr)
 ne:σ.wd≠σ.mu∧σ.few≠σ.mu∧σ.gr≠σ.mu
theorem GlF.below {σ:Sen} {w w':World} (h:GlF σ w) (hb:Below w.heap.size w w'):GlF σ w':=
 ⟨cell_below h.wd hb,cell_below h.few hb,cell_below h.gr hb,h.ne⟩
theorem GlAt.f {σ:Sen} {w:World} (h:GlAt σ w):GlF σ w:=⟨h.wd,h.few,h.gr,h.ne.1,h.ne.2.1,h.ne.2.2.1⟩
structure EnvF (σ:Sen) (w0:World) (g:Nat) (w:World):Prop where
 gl:GlF σ w0
 bl:Below w0.heap.size w0 w
 lo:w0.heap.size≤g
theorem EnvF.at_ {σ:Sen} {w0 w:World} {g:Nat} (h:EnvF σ w0 g w):GlF σ w:=h.gl.below h.bl
structure Env (σ:Sen) (w0:World) (g:Nat) (w:World):Prop where
 gl:GlAt σ w0
 bl:Below w0.heap.size w0 w
 lo:w0.heap.size≤g
theorem Env.at_ {σ:Sen} {w0 w:World} {g:Nat} (h:Env σ w0 g w):GlAt σ w:=h.gl.below h.bl
theorem Env.grown {σ:Sen} {w0 w w':World} {g:Nat} (h:Env σ w0 g w) (hg:w.grownBy w' (some g)):Env σ w0 g w':=⟨h.gl,below_grown h.bl hg h.bl.size h.lo,h.lo⟩
theorem Env.below {σ:Sen} {w0 w w':World} {g:Nat} (h:Env σ w0 g w) (hb:Below w.heap.size w w'):Env σ w0 g w':=⟨h.gl,h.bl.trans (hb.mono h.bl.size),h.lo⟩
theorem Env.f {σ:Sen} {w0 w:World} {g:Nat} (h:Env σ w0 g w):EnvF σ w0 g w:=⟨h.gl.f,h.bl,h.lo⟩
def faultV (pos:Nat) (a:Addr):Value:= .iface 231 (.agg #[.int .i64 (pos:Int),errV a])
def RdErr (σ:Sen):RSt→Nat→Value→Prop
 | .ok j,k,ev=>j=k∧ev= .nilIface
 | .bad pos long,_,ev=> ∃a,ev=faultV pos a∧σ.has a∧(long=true↔a=σ.mu)
structure RdIs (σ:Sen) (w:World) (g:Nat) (bs:List Int) (s:RSt) (x:Option Addr) (cap k:Nat) (ev:Value):Prop where
 blk:BlockIs w g 227 #[.slice x bs.length cap,.int .i64 (k:Int),.bool true,ev]
 rd:BytesAt w x bs
 off: ∀a,x=some a→a.block < g
 len:bs.length≤cap∧cap≤9223372036854775807∧k≤bs.length
 err:RdErr σ s k ev
def RdAt (σ:Sen) (w:World) (g:Nat) (bs:List Int) (s:RSt):Prop:= ∃x cap k ev,RdIs σ w g bs s x cap k ev
theorem RdIs.kept {σ:Sen} {w w':World} {g:Nat} {bs:List Int} {s:RSt} {x:Option Addr} {cap k:Nat} {ev:Value} {row:Option Nat} (h:RdIs σ w g bs s x cap k ev) (hg:w.grownBy w' row) (h0:some g≠row) (hx: ∀a,x=some a→some a.block≠row):RdIs σ w' g bs s x cap k ev:=
 ⟨h.blk.kept hg h0,h.rd.far hg hx,h.off,h.len,h.err⟩
theorem RdIs.below {σ:Sen} {w w':World} {g:Nat} {bs:List Int} {s:RSt} {x:Option Addr} {cap k:Nat} {ev:Value} (h:RdIs σ w g bs s x cap k ev) (hb:Below w.heap.size w w'):RdIs σ w' g bs s x cap k ev:=
 h.kept (grown_below hb none) (by simp) (fun _ _=>by simp)
theorem RdAt.below {σ:Sen} {w w':World} {g:Nat} {bs:List Int} {s:RSt} (h:RdAt σ w g bs s) (hb:Below w.heap.size w w'):RdAt σ w' g bs s:=by
 obtain⟨x,cap,k,ev,h⟩:=h;exact⟨x,cap,k,ev,h.below hb⟩
theorem RdAt.newer {σ:Sen} {w w':World} {g:Nat} {bs:List Int} {s:RSt} {row:Option Nat} (h:RdAt σ w g bs s) (hg:w.grownBy w' row) (hr: ∀b,row=some b→g < b):RdAt σ w' g bs s:=by
 obtain⟨x,cap,k,ev,h⟩:=h
 exact⟨x,cap,k,ev,h.kept hg (fun e=>Nat.lt_irrefl g (hr g e.symm)) (fun a ha e=>by have:=hr _ e.symm;have:=h.off a ha;omega)⟩
theorem reader_cells {w:World} {g:Nat} {t:TypeId} {x y z v:Value} (h:BlockIs w g t #[x,y,z,v]):w.cell? ⟨g,0,none⟩=some x∧w.cell? ⟨g,1,none⟩=some y∧w.cell? ⟨g,2,none⟩=some z∧w.cell? ⟨g,3,none⟩=some v:=
 ⟨h.cell 0,h.cell 1,h.cell 2,h.cell 3⟩
theorem cread_any (σ:Sen) (w:World) (bs:List Int) (A:Option Addr) (c:Nat) (hz:BytesAt w A bs) (hl:bs.length≤140737488351232) (hA:A=none→c=0):
 Calls Tryz.prog 121 #[.slice A bs.length c] w fun e w'=> ∃g,e= .returned (.pointer (some ⟨g,0,none⟩))∧w.heap.size≤g∧RdAt σ w' g bs (.ok 0)∧Below w.heap.size w w':=by
 go_enter Tryz.func121,Tryz.ntmps121
 go_wp2_with fail
 refine(clone_any w bs A c hz hl hA).mono ?_
 rintro e w1 ⟨v,rfl,hown,hb⟩
 obtain⟨X,cap,rfl,h1,h2⟩:=own_slice hown
 have Hown:=qh hown
 clear hown
 go_wp2_with fail
 go_ret
 have hrd:=own_reads Hown.out hz.1
 have hbn:=below_new w1 (.cells #[.slice X bs.length cap,.int .i64 0,.bool true,.nilIface] 227)
 exact⟨w1.heap.size,rfl,hb.size,⟨X,cap,0,.nilIface,BlockIs.made _ _ _,hrd.below hbn,fun a e=>by
  have:=Hown.out.lt a.block (by rw [e];rfl)
  omega,⟨h1,h2,Nat.zero_le _⟩,rfl,rfl⟩,hb.trans (hbn.mono hb.size)⟩
theorem going_is (σ:Sen) (w:World) (g:Nat) (bs:List Int) (s:RSt) (h:RdAt σ w g bs s):
 Calls Tryz.prog 142 #[.pointer (some ⟨g,0,none⟩)] w fun e w'=>e= .returned (.bool (isOk s))∧w=w':=by
 obtain⟨x,cap,k,ev,h⟩:=h
 obtain⟨c0,c1,c2,c3⟩:=reader_cells h.blk
 cases s with
 | ok j=>
   obtain⟨_,rfl⟩:=h.err
   clear h c0 c1
   go_enter Tryz.func142,Tryz.ntmps142
   go_wp2
   go_ret
   exact⟨rfl,rfl⟩
 | bad pos long=>
   obtain⟨a,rfl,_⟩:=h.err
   clear h c0 c1
   unfold faultV at c3
   go_enter Tryz.func142,Tryz.ntmps142
   go_wp2
   go_ret
   exact⟨rfl,rfl⟩
theorem left_is (σ:Sen) (w:World) (g:Nat) (bs:List Int) (j:Nat) (h:RdAt σ w g bs (.ok j)):
 Calls Tryz.prog 145 #[.pointer (some ⟨g,0,none⟩)] w fun e w'=>e= .returned (.int .i64 ((bs.length:Int) - (j:Int)))∧ ∃n,w'=w.drewN n:=by
 obtain⟨x,cap,k,ev,h⟩:=h
 obtain⟨c0,c1,c2,c3⟩:=reader_cells h.blk
 obtain⟨h1,h2,h3⟩:=h.len
 obtain⟨rfl,rfl⟩:=h.err
 clear h c2 c3
 go_enter Tryz.func145,Tryz.ntmps145
 go_wp2_with fail
 go_quiet (fail)
 go_wp2_with fail
 go_ret
 exact⟨rfl,_,rfl⟩
theorem next_is (σ:Sen) (w:World) (g:Nat) (bs:List Int) (j m:Nat) (x:Option Addr) (cap:Nat) (h:RdIs σ w g bs (.ok j) x cap j .nilIface) (hm:j+m≤bs.length):
 Calls Tryz.prog 147 #[.pointer (some ⟨g,0,none⟩),.int .i64 (m:Int)] w fun e w'=>e= .returned (.slice (cutAt x cap j) m (cap - j))∧ ∃n,w'=w.drewN n:=by
 obtain⟨c0,c1,c2,c3⟩:=reader_cells h.blk
 obtain⟨h1,h2,h3⟩:=h.len
 clear h c2 c3
 have r1:=fun w=>cut_run1 x bs.length j cap w h3
 have q1:(0:Int)≤(j:Int):=by omega
 have q2:(j:Int)≤(bs.length:Int):=by omega
 have q3:(0:Int)≤(m:Int):=by omega
 have q4:(m:Int)≤(cap:Int) - (j:Int):=by omega
 have q5:(m:Int)≤((cap - j:Nat):Int):=by omega
 go_enter Tryz.func147,Tryz.ntmps147
 go_wp2_with fail
 go_quiet (fail)
 go_wp2_with fail
 go_ret
 exact⟨rfl,_,rfl⟩
theorem pass_is (σ:Sen) (w:World) (g:Nat) (bs:List Int) (j m:Nat) (h:RdAt σ w g bs (.ok j)) (hm:j+m≤bs.length):
 Calls Tryz.prog 148 #[.pointer (some ⟨g,0,none⟩),.int .i64 (m:Int)] w fun e w'=>e= .returned (.tuple #[])∧RdAt σ w' g bs (.ok (j+m))∧w.grownBy w' (some g):=by
 obtain⟨x,cap,k,ev,h⟩:=h
 obtain⟨c0,c1,c2,c3⟩:=reader_cells h.blk
 obtain⟨h1,h2,h3⟩:=h.len
 obtain⟨rfl,rfl⟩:=h.err
 have f1:=h.blk.free 1
 have hg:w.grownBy (w.setCell ⟨g,1,none⟩ (.int .i64 ((j:Int)+(m:Int)))) (some g):=grown_at (World.grownBy.refl _ _) _ _
 have hR:RdAt σ (w.setCell ⟨g,1,none⟩ (.int .i64 ((j:Int)+(m:Int)))) g bs (.ok (j+m)):=
  ⟨x,cap,j+m,.nilIface,h.blk.set1 1 _,h.rd.far hg (fun a e he=>Nat.ne_of_lt (h.off a e) (by simpa using he)),h.off,⟨h1,h2,hm⟩,rfl,rfl⟩
 clear h c0 c2 c3
 go_enter Tryz.func148,Tryz.ntmps148
 go_wp2
 go_end0
 exact⟨rfl,hR,hg⟩
theorem fail_is (σ:Sen) (w:World) (g:Nat) (bs:List Int) (j pos:Nat) (a:Addr) (h:RdAt σ w g bs (.ok j)) (ha:σ.has a) (long:Bool) (hlong:long=true↔a=σ.mu):
 Calls Tryz.prog 144 #[.pointer (some ⟨g,0,none⟩),.int .i64 (pos:Int),errV a] w fun e w'=>e= .returned (.tuple #[])∧RdAt σ w' g bs (.bad pos long)∧w.grownBy w' (some g):=by
 obtain⟨x,cap,k,ev,h⟩:=h
 obtain⟨c0,c1,c2,c3⟩:=reader_cells h.blk
 obtain⟨h1,h2,h3⟩:=h.len
 obtain⟨rfl,rfl⟩:=h.err
 have f3:=h.blk.free 3
 have hg:w.grownBy (w.setCell ⟨g,3,none⟩ (faultV pos a)) (some g):=grown_at (World.grownBy.refl _ _) _ _
 have hR:RdAt σ (w.setCell ⟨g,3,none⟩ (faultV pos a)) g bs (.bad pos long):=
  ⟨x,cap,j,faultV pos a,h.blk.set1 3 _,h.rd.far hg (fun a e he=>Nat.ne_of_lt (h.off a e) (by simpa using he)),h.off,⟨h1,h2,h3⟩,a,rfl,ha,hlong⟩
 clear h c0 c1 c2
 unfold faultV errV at *
 go_enter Tryz.func144,Tryz.ntmps144
 go_wp2
 go_end0
 exact⟨rfl,hR,hg⟩
open Go.RowKit
theorem ofInt64 (a:Nat) (ha:a < 9223372036854775808):(BitVec.ofInt 64 (a:Int)).toNat=a:=by
 rw [BitVec.ofInt_natCast,BitVec.toNat_ofNat];exact Nat.mod_eq_of_lt (by omega)
theorem or_sum (x y:Int) (c m:Nat) (hc:c=2 ^ m) (hx:0≤x) (hd:x % (c:Int)=0) (hy:0≤y) (hyc:y < (c:Int)) (hs:x+y < 9223372036854775808):bits .or .i64 x y=x+y:=by
 obtain⟨a,rfl⟩:=Int.eq_ofNat_of_zero_le hx
 obtain⟨b,rfl⟩:=Int.eq_ofNat_of_zero_le hy
 have hdv:c ∣ a:=by
  have:(c:Int) ∣ (a:Int):=Int.dvd_of_emod_eq_zero hd
  exact Int.ofNat_dvd.1 this
 obtain⟨q,rfl⟩:=hdv
 have hbc:b < 2 ^ m:=by omega
 have hor:c * q ||| b=c * q+b:=by rw [hc, ← Nat.two_pow_add_eq_or_of_lt hbc]
 show IntKind.i64.wrap ((BitVec.ofInt 64 ((c * q:Nat):Int) ||| BitVec.ofInt 64 (b:Int)).toNat:Int)=_
 rw [BitVec.toNat_or,ofInt64 _ (by omega),ofInt64 b (by omega),hor]
 exact IntWalk.i64_in _ (by omega)
theorem or_zero (y:Int) (hy:0≤y) (hs:y < 9223372036854775808):bits .or .i64 0 y=y:=by
 obtain⟨b,rfl⟩:=Int.eq_ofNat_of_zero_le hy
 show IntKind.i64.wrap ((BitVec.ofInt 64 ((0:Nat):Int) ||| BitVec.ofInt 64 (b:Int)).toNat:Int)=_
 rw [BitVec.toNat_or,ofInt64 _ (by omega),ofInt64 b (by omega),Nat.zero_or]
 exact IntWalk.i64_in _ (by omega)
theorem number_six (w:World) (b o c:Nat) (z0 z1 z2 z3 z4 z5:Int) (hz:BytesAt w (some ⟨b,o,none⟩) [z0,z1,z2,z3,z4,z5]):
 Calls Tryz.prog 146 #[.slice (some ⟨b,o,none⟩) 6 c] w fun e w'=>e= .returned (.int .i64 (unle [z0,z1,z2,z3,z4,z5]))∧ ∃n,w'=w.drewN n:=by
 have c0:w.cell? ⟨b,o,none⟩=some (.int .u8 z0):=hz.one 0 (by simp)
 have c1:w.cell? ⟨b,o+1,none⟩=some (.int .u8 z1):=hz.one 1 (by simp)
 have c2:w.cell? ⟨b,o+2,none⟩=some (.int .u8 z2):=hz.one 2 (by simp)
 have c3:w.cell? ⟨b,o+3,none⟩=some (.int .u8 z3):=hz.one 3 (by simp)
 have c4:w.cell? ⟨b,o+4,none⟩=some (.int .u8 z4):=hz.one 4 (by simp)
 have c5:w.cell? ⟨b,o+5,none⟩=some (.int .u8 z5):=hz.one 5 (by simp)
 have b0:=hz.1 z0 (by simp)
 have b1:=hz.1 z1 (by simp)
 have b2:=hz.1 z2 (by simp)
 have b3:=hz.1 z3 (by simp)
 have b4:=hz.1 z4 (by simp)
 have b5:=hz.1 z5 (by simp)
 clear hz
 go_enter Tryz.func146,Tryz.ntmps146
 go_wp2_with fail
 go_quiet (fail)
 go_wp2_with fail
 go_quiet (fail)
 go_wp2_with fail
 go_ret
 exact⟨ret_int (by
  rw [or_sum (z5 * 1099511627776) (z4 * 4294967296) 1099511627776 40 (by decide) (by omega) (by omega) (by omega) (by omega) (by omega),or_zero _ (by omega) (by omega),
   or_sum (z3 * 16777216) (z2 * 65536) 16777216 24 (by decide) (by omega) (by omega) (by omega) (by omega) (by omega),
   or_sum _ (z3 * 16777216+z2 * 65536) 4294967296 32 (by decide) (by omega) (by omega) (by omega) (by omega) (by omega),
   or_sum _ (z1 * 256) 65536 16 (by decide) (by omega) (by omega) (by omega) (by omega) (by omega),
   or_sum _ z0 256 8 (by decide) (by omega) (by omega) (by omega) (by omega) (by omega)]
  simp only [unle];omega
  ),_,rfl⟩
theorem number_four (w:World) (b o c:Nat) (z0 z1 z2 z3:Int) (hz:BytesAt w (some ⟨b,o,none⟩) [z0,z1,z2,z3]):
 Calls Tryz.prog 146 #[.slice (some ⟨b,o,none⟩) 4 c] w fun e w'=>e= .returned (.int .i64 (unle [z0,z1,z2,z3]))∧ ∃n,w'=w.drewN n:=by
 have c0:w.cell? ⟨b,o,none⟩=some (.int .u8 z0):=hz.one 0 (by simp)
 have c1:w.cell? ⟨b,o+1,none⟩=some (.int .u8 z1):=hz.one 1 (by simp)
 have c2:w.cell? ⟨b,o+2,none⟩=some (.int .u8 z2):=hz.one 2 (by simp)
 have c3:w.cell? ⟨b,o+3,none⟩=some (.int .u8 z3):=hz.one 3 (by simp)
 have b0:=hz.1 z0 (by simp)
 have b1:=hz.1 z1 (by simp)
 have b2:=hz.1 z2 (by simp)
 have b3:=hz.1 z3 (by simp)
 clear hz
 go_enter Tryz.func146,Tryz.ntmps146
 go_wp2_with fail
 go_quiet (fail)
 go_wp2_with fail
 go_ret
 exact⟨ret_int (by
  rw [or_sum (z3 * 16777216) (z2 * 65536) 16777216 24 (by decide) (by omega) (by omega) (by omega) (by omega) (by omega),or_zero _ (by omega) (by omega),
   or_sum _ (z1 * 256) 65536 16 (by decide) (by omega) (by omega) (by omega) (by omega) (by omega),
   or_sum _ z0 256 8 (by decide) (by omega) (by omega) (by omega) (by omega) (by omega)]
  simp only [unle];omega
  ),_,rfl⟩
theorem number_two (w:World) (b o c:Nat) (z0 z1:Int) (hz:BytesAt w (some ⟨b,o,none⟩) [z0,z1]):
 Calls Tryz.prog 146 #[.slice (some ⟨b,o,none⟩) 2 c] w fun e w'=>e= .returned (.int .i64 (unle [z0,z1]))∧ ∃n,w'=w.drewN n:=by
 have c0:w.cell? ⟨b,o,none⟩=some (.int .u8 z0):=hz.one 0 (by simp)
 have c1:w.cell? ⟨b,o+1,none⟩=some (.int .u8 z1):=hz.one 1 (by simp)
 have b0:=hz.1 z0 (by simp)
 have b1:=hz.1 z1 (by simp)
 clear hz
 go_enter Tryz.func146,Tryz.ntmps146
 go_wp2_with fail
 go_ret
 exact⟨ret_int (by
  rw [or_zero _ (by omega) (by omega),or_sum _ z0 256 8 (by decide) (by omega) (by omega) (by omega) (by omega) (by omega)]
  simp only [unle];omega
  ),0,rfl⟩
theorem number_one (w:World) (b o c:Nat) (z0:Int) (hz:BytesAt w (some ⟨b,o,none⟩) [z0]):
 Calls Tryz.prog 146 #[.slice (some ⟨b,o,none⟩) 1 c] w fun e w'=>e= .returned (.int .i64 (unle [z0]))∧ ∃n,w'=w.drewN n:=by
 have c0:w.cell? ⟨b,o,none⟩=some (.int .u8 z0):=hz.one 0 (by simp)
 have b0:=hz.1 z0 (by simp)
 clear hz
 go_enter Tryz.func146,Tryz.ntmps146
 go_wp2_with fail
 go_ret
 exact⟨ret_int (by
  rw [or_zero _ (by omega) (by omega)]
  simp only [unle];omega
  ),0,rfl⟩
theorem number_any (w:World) (A:Option Addr) (c k:Nat) (zs:List Int) (hk:zs.length=k) (ht:0≤top k) (hz:BytesAt w A zs):
 Calls Tryz.prog 146 #[.slice A k c] w fun e w'=>e= .returned (.int .i64 (unle zs))∧ ∃n,w'=w.drewN n:=by
 have hp:0 < k:=by rcases top_cases (k:Int)with⟨e,_⟩ | ⟨e,_⟩ | ⟨e,_⟩ | ⟨e,_⟩ | ⟨_,_,_,_,t⟩<;>omega
 obtain⟨b,o,rfl⟩:=hz.some_ (by intro e;subst e;simp at hk;omega)
 rcases top_cases (k:Int)with⟨e,t⟩ | ⟨e,t⟩ | ⟨e,t⟩ | ⟨e,t⟩ | ⟨_,_,_,_,t⟩
 · obtain rfl:k=1:=by omega
   match zs,hk with
   | [z0],_=>exact number_one w b o c z0 hz
 · obtain rfl:k=2:=by omega
   match zs,hk with
   | [z0,z1],_=>exact number_two w b o c z0 z1 hz
 · obtain rfl:k=4:=by omega
   match zs,hk with
   | [z0,z1,z2,z3],_=>exact number_four w b o c z0 z1 z2 z3 hz
 · obtain rfl:k=6:=by omega
   match zs,hk with
   | [z0,z1,z2,z3,z4,z5],_=>exact number_six w b o c z0 z1 z2 z3 z4 z5 hz
 · omega
open Go.RowKit
theorem RdAt.drew {σ:Sen} {w:World} {g:Nat} {bs:List Int} {s:RSt} (h:RdAt σ w g bs s):RdAt σ w.drew g bs s:=by
 obtain⟨x,cap,k,ev,h⟩:=h
 exact⟨x,cap,k,ev,h.blk,h.rd,h.off,h.len,h.err⟩
theorem RdAt.drewN {σ:Sen} {w:World} {g:Nat} {bs:List Int} {s:RSt} (h:RdAt σ w g bs s) (n:Nat):RdAt σ (w.drewN n) g bs s:=by
 obtain⟨x,cap,k,ev,h⟩:=h
 exact⟨x,cap,k,ev,h.blk,h.rd,h.off,h.len,h.err⟩
def Qu (w w1:World):Prop:= ∃n,w1=w.drewN n
theorem Qu.trans {a b c:World} (h:Qu a b) (k:Qu b c):Qu a c:=by
 obtain⟨n,rfl⟩:=h
 obtain⟨m,rfl⟩:=k
 exact⟨_,World.drewN_drewN _ _ _⟩
theorem Qu.grown {w w1:World} (h:Qu w w1) (row:Option Nat):w.grownBy w1 row:=by
 obtain⟨n,rfl⟩:=h;exact grown_drewN (World.grownBy.refl _ _) n
theorem Qu.cell {w w1:World} (h:Qu w w1) (a:Addr):w1.cell? a=w.cell? a:=by
 obtain⟨n,rfl⟩:=h;rfl
theorem undrew_grown {w w':World} {row:Option Nat} (h:w.drew.grownBy w' row):w.grownBy w' row:=⟨h.os,h.tape,h.output,h.size,h.block⟩
theorem rfield_none (σ:Sen) (w0 w:World) (g:Nat) (bs:List Int) (j:Nat) (wd:Int) (h:RdAt σ w g bs (.ok j)) (hE:EnvF σ w0 g w) (ht:top wd < 0):
 Calls Tryz.prog 122 #[.pointer (some ⟨g,0,none⟩),.int .i64 wd] w fun e w'=>e= .returned (.int .i64 0)∧RdAt σ w' g bs (.bad j false)∧w.grownBy w' (some g):=by
 obtain⟨x,cap,k,ev,hI⟩:=h
 obtain⟨c0,c1,c2,c3⟩:=reader_cells hI.blk
 obtain⟨rfl,rfl⟩:=hI.err
 have hR:RdAt σ w g bs (.ok j):=⟨x,cap,j,_,hI⟩
 have cg:=hE.at_.wd
 have hne:=hE.gl.ne.1
 have HI:=qh hI
 clear hI c0 c2 c3 hE
 go_enter Tryz.func122,Tryz.ntmps122
 go_wp2_with fail
 refine(going_is σ w g bs _ hR).mono ?_
 rintro e w' ⟨rfl,rfl⟩
 unfold isOk
 go_wp2_with fail
 refine(greatest_any wd _).mono ?_
 rintro e w' ⟨rfl,rfl⟩
 go_wp2_with fail
 go_still_tail 7,(by kernel_rfl)
 go_wp2_with fail
 refine(fail_is σ _ g bs j j σ.wd (RdAt.drew hR) (.inl rfl) false (by simp [hne])).mono ?_
 rintro e w2 ⟨rfl,hR2,hg2⟩
 go_wp2_with fail
 go_ret
 exact⟨rfl,hR2,undrew_grown hg2⟩
theorem rfield_bad (σ:Sen) (w:World) (g:Nat) (bs:List Int) (p:Nat) (l:Bool) (v:Value) (h:RdAt σ w g bs (.bad p l)):
 Calls Tryz.prog 122 #[.pointer (some ⟨g,0,none⟩),v] w fun e w'=>e= .returned (.int .i64 0)∧w'=w:=by
 go_enter Tryz.func122,Tryz.ntmps122
 go_wp2_with fail
 refine(going_is σ w g bs _ h).mono ?_
 rintro e w' ⟨rfl,rfl⟩
 unfold isOk
 go_wp2_with fail
 go_ret
 exact⟨rfl,rfl⟩
theorem rfield_few (σ:Sen) (w0 w:World) (g:Nat) (bs:List Int) (j:Nat) (wd:Int) (h:RdAt σ w g bs (.ok j)) (hE:EnvF σ w0 g w) (_hl:bs.length≤140737488351232) (ht:0≤top wd) (hf:(bs.length:Int) - j < wd):
 Calls Tryz.prog 122 #[.pointer (some ⟨g,0,none⟩),.int .i64 wd] w fun e w'=>e= .returned (.int .i64 0)∧RdAt σ w' g bs (.bad j false)∧w.grownBy w' (some g):=by
 obtain⟨x,cap,k,ev,hI⟩:=h
 obtain⟨c0,c1,c2,c3⟩:=reader_cells hI.blk
 obtain⟨rfl,rfl⟩:=hI.err
 have hR:RdAt σ w g bs (.ok j):=⟨x,cap,j,_,hI⟩
 have cg:=hE.at_.few
 have hne:=hE.gl.ne.2.1
 have hjl:=hI.len.2.2
 clear hI c0 c2 c3 hE
 go_enter Tryz.func122,Tryz.ntmps122
 go_wp2_with fail
 refine(going_is σ w g bs _ hR).mono ?_
 rintro e w' ⟨rfl,rfl⟩
 unfold isOk
 go_wp2_with fail
 refine(greatest_any wd _).mono ?_
 rintro e w' ⟨rfl,rfl⟩
 have htl: ¬top wd < 0:=by omega
 go_wp2_with fail
 refine(left_is σ _ g bs j hR).mono ?_
 rintro e w' ⟨rfl,n,rfl⟩
 have hf':decide ((bs.length:Int) - (j:Int) < wd)=true:=decide_eq_true hf
 have hRn:=hR.drewN n
 have c1n:(w.drewN n).cell? ⟨g,1,none⟩=some (.int .i64 (j:Int)):=c1
 have cgn:(w.drewN n).cell? ⟨13,0,none⟩=some (errV σ.few):=cg
 have hgn:w.grownBy (w.drewN n) (some g):=grown_drewN (World.grownBy.refl _ _) n
 clear c1 cg hR
 generalize w.drewN n=W at *
 go_wp2_with fail
 go_still_tail 7,(by kernel_rfl)
 go_wp2_with fail
 refine(fail_is σ _ g bs j j σ.few (RdAt.drew hRn) (.inr (.inl rfl)) false (by simp [hne])).mono ?_
 rintro e w2 ⟨rfl,hR2,hg2⟩
 go_wp2_with fail
 go_ret
 exact⟨rfl,hR2,hgn.trans (undrew_grown hg2)⟩
theorem here_bytes {σ:Sen} {w:World} {g:Nat} {bs:List Int} {j:Nat} {x:Option Addr} {cap:Nat} (h:RdIs σ w g bs (.ok j) x cap j .nilIface) (m:Nat):BytesAt w (cutAt x cap j) ((bs.drop j).take m):=
 front_reads (cut_reads h.rd h.len.1)
theorem here_len (bs:List Int) (j m:Nat) (h:j+m≤bs.length):((bs.drop j).take m).length=m:=by
 rw [List.length_take,List.length_drop];omega
theorem rfield_here (σ:Sen) (w0 w:World) (g:Nat) (bs:List Int) (j wn:Nat) (h:RdAt σ w g bs (.ok j)) (hE:EnvF σ w0 g w) (_hl:bs.length≤140737488351232) (ht:0≤top wn) (hf:j+wn≤bs.length):
 Calls Tryz.prog 122 #[.pointer (some ⟨g,0,none⟩),.int .i64 (wn:Int)] w fun e w'=>
  (top wn < unle ((bs.drop j).take wn)→e= .returned (.int .i64 0)∧RdAt σ w' g bs (.bad j false))∧(¬top wn < unle ((bs.drop j).take wn)→e= .returned (.int .i64 (unle ((bs.drop j).take wn)))∧RdAt σ w' g bs (.ok (j+wn)))∧w.grownBy w' (some g):=by
 obtain⟨x,cap,k,ev,hI⟩:=h
 obtain⟨c0,c1,c2,c3⟩:=reader_cells hI.blk
 obtain⟨rfl,rfl⟩:=hI.err
 have hR:RdAt σ w g bs (.ok j):=⟨x,cap,j,_,hI⟩
 have cg:=hE.at_.gr
 have hne:=hE.gl.ne.2.2
 have hjl:=hI.len.2.2
 have HI:=qh hI
 clear hI c0 c2 c3 hE
 have Hc:=qh (And.intro c1 cg)
 clear c1 cg
 go_enter Tryz.func122,Tryz.ntmps122
 go_wp2_with fail
 refine(going_is σ w g bs _ hR).mono ?_
 rintro e w' ⟨rfl,rfl⟩
 unfold isOk
 go_wp2_with fail
 refine(greatest_any wn _).mono ?_
 rintro e w' ⟨rfl,rfl⟩
 have htl: ¬top (wn:Int) < 0:=by omega
 go_wp2_with fail
 refine(left_is σ _ g bs j hR).mono ?_
 rintro e w1 ⟨rfl,hq1⟩
 have hq1:Qu w w1:=hq1
 have hf': ¬((bs.length:Int) - (j:Int) < (wn:Int)):=by omega
 have hI1:=HI.out.kept (hq1.grown none) (by simp) (fun _ _=>by simp)
 go_wp2_with fail
 refine(next_is σ w1 g bs j wn x cap hI1 hf).mono ?_
 rintro e w2 ⟨rfl,hq2⟩
 have hq2:=hq1.trans hq2
 have hI2:=HI.out.kept (hq2.grown none) (by simp) (fun _ _=>by simp)
 go_wp2_with fail
 refine(number_any w2 (cutAt x cap j) (cap - j) wn _ (here_len bs j wn hf) ht (here_bytes hI2 wn)).mono ?_
 rintro e w3 ⟨rfl,hq3⟩
 have hq3:=hq2.trans hq3
 have hI3:=HI.out.kept (hq3.grown none) (by simp) (fun _ _=>by simp)
 have hR3:RdAt σ w3 g bs (.ok j):=⟨x,cap,j,_,hI3⟩
 generalize hv:unle ((bs.drop j).take wn)=v
 have Hv:=qh hv;clear hv
 have c1:=(hq3.cell _).trans Hc.out.1
 have cg:=(hq3.cell _).trans Hc.out.2
 have hg3:=hq3.grown (some g)
 clear hI1 hI2 hI3 hq1 hq2 hq3 HI Hc hR
 by_cases hgt:top wn < v
 · go_wp2_with fail
   go_still_tail 7,(by kernel_rfl)
   go_wp2_with fail
   refine(fail_is σ _ g bs j j σ.gr (RdAt.drew hR3) (.inr (.inr (.inl rfl))) false (by simp [hne])).mono ?_
   rintro e w4 ⟨rfl,hR4,hg4⟩
   go_wp2_with fail
   go_ret
   exact⟨fun _=>⟨rfl,hR4⟩,fun h=>absurd hgt (by rw [Hv.out]at h;omega),hg3.trans (undrew_grown hg4)⟩
 · clear c1 cg
   go_wp2_with fail
   refine(pass_is σ w3 g bs j wn hR3 hf).mono ?_
   rintro e w4 ⟨rfl,hR4,hg4⟩
   go_wp2_with fail
   go_ret
   exact⟨fun h=>absurd h (by rw [Hv.out];omega),fun _=>⟨by rw [Hv.out];rfl,hR4⟩,hg3.trans hg4⟩
theorem top_nat (wd:Int) (h:0≤top wd): ∃n:Nat,wd=n∧n≤6:=by
 rcases top_cases wd with⟨e,_⟩ | ⟨e,_⟩ | ⟨e,_⟩ | ⟨e,_⟩ | ⟨_,_,_,_,t⟩
 · exact⟨1,e,by decide⟩
 · exact⟨2,e,by decide⟩
 · exact⟨4,e,by decide⟩
 · exact⟨6,e,by decide⟩
 · omega
structure Got (σ:Sen) (w:World) (g:Nat) (bs:List Int) (s:RSt) (w':World):Prop where
 rd:RdAt σ w' g bs s
 fr:w.grownBy w' (some g)
theorem Got.same {σ:Sen} {w:World} {g:Nat} {bs:List Int} {s:RSt} (h:RdAt σ w g bs s):Got σ w g bs s w:=⟨h,World.grownBy.refl _ _⟩
theorem rfield_any (σ:Sen) (w0 w:World) (g:Nat) (bs:List Int) (s:RSt) (wd:Int) (h:RdAt σ w g bs s) (hE:EnvF σ w0 g w) (hl:bs.length≤140737488351232):
 Calls Tryz.prog 122 #[.pointer (some ⟨g,0,none⟩),.int .i64 wd] w fun e w'=>e= .returned (.int .i64 (fieldR bs wd s).1)∧Got σ w g bs (fieldR bs wd s).2 w':=by
 cases s with
 | bad p l=>exact(rfield_bad σ w g bs p l _ h).mono fun e w' ⟨he,hw⟩=>⟨he,by subst hw;exact Got.same h⟩
 | ok j=>
   have hjl:j≤bs.length:=by
    obtain⟨x,cap,k,ev,hI⟩:=h
    obtain⟨rfl,_⟩:=hI.err
    exact hI.len.2.2
   by_cases ht:top wd < 0
   · have e1:fieldR bs wd (.ok j)=(0,.bad j false):=by simp [fieldR,ht]
     rw [e1]
     exact(rfield_none σ w0 w g bs j wd h hE ht).mono fun e w' ⟨h1,h2,h3⟩=>⟨h1,h2,h3⟩
   · obtain⟨wn,rfl,hw6⟩:=top_nat wd (by omega)
     by_cases hf:(bs.length:Int) - j < wn
     · have e1:fieldR bs wn (.ok j)=(0,.bad j false):=by simp [fieldR,hf]
       rw [e1]
       exact(rfield_few σ w0 w g bs j wn h hE hl (by omega) hf).mono fun e w' ⟨h1,h2,h3⟩=>⟨h1,h2,h3⟩
     · by_cases hv:top wn < unle ((bs.drop j).take wn)
       · have e1:fieldR bs wn (.ok j)=(0,.bad j false):=by simp [fieldR,ht,hf,hv]
         rw [e1]
         exact(rfield_here σ w0 w g bs j wn h hE hl (by omega) (by omega)).mono fun e w' ⟨h1,h2,h3⟩=>⟨(h1 hv).1,(h1 hv).2,h3⟩
       · have e1:fieldR bs wn (.ok j)=(unle ((bs.drop j).take wn),.ok (j+wn)):=by simp [fieldR,ht,hf,hv]
         rw [e1]
         exact(rfield_here σ w0 w g bs j wn h hE hl (by omega) (by omega)).mono fun e w' ⟨h1,h2,h3⟩=>⟨(h2 hv).1,(h2 hv).2,h3⟩
end Go.Proofs.YtpaikolnampcfaaGreatDoor
