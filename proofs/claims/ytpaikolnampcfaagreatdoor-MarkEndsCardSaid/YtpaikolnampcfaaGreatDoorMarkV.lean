/- Plain mathematics of CRC-32C over words of 32 bits: the shift, its powers, products of residues, rows of bytes; no program is named here. -/
import Derived.WalkKit
import Derived.Laws.BitsAllLaws
import Derived.Test.YtpaikolnampcfaaGreatDoorCodeLay
namespace Go.Proofs.YtpaikolnampcfaaGreatDoor.Mx

def sh (x:BitVec 32):BitVec 32:=if x.getLsbD 0 then(x >>> 1) ^^^ 0x82F63B78#32 else x >>> 1
def shN :Nat→BitVec 32→BitVec 32
 | 0,x=>x
 | n+1,x=>shN n (sh x)
def crc (c:BitVec 32) (zs:List Int):BitVec 32:=zs.foldl (fun c z=>shN 8 (c ^^^ BitVec.ofInt 32 z)) c
theorem xor4 (a b c d:BitVec 32):(a ^^^ b) ^^^ (c ^^^ d)=(a ^^^ c) ^^^ (b ^^^ d):=by
 rw [BitVec.xor_assoc,BitVec.xor_assoc, ← BitVec.xor_assoc b c d,BitVec.xor_comm b c,BitVec.xor_assoc c b d]

theorem sh_xor (x y:BitVec 32):sh (x ^^^ y)=sh x ^^^ sh y:=by
 unfold sh
 rw [BitVec.getLsbD_xor,BitVec.ushiftRight_xor_distrib]
 cases hx:x.getLsbD 0<;>cases hy:y.getLsbD 0<;>simp
 · rw [← BitVec.xor_assoc]
 · rw [BitVec.xor_assoc,BitVec.xor_comm (y >>> 1), ← BitVec.xor_assoc]
 · have:=xor4 (x >>> 1) 0x82F63B78#32 (y >>> 1) 0x82F63B78#32
   rw [this];simp
theorem sh_zero :sh 0#32=0#32:=by decide
theorem shN_xor (n:Nat): ∀x y:BitVec 32,shN n (x ^^^ y)=shN n x ^^^ shN n y:=by
 induction n with
 | zero=>intro x y;rfl
 | succ n ih=>intro x y;show shN n (sh (x ^^^ y))=_;rw [sh_xor,ih];rfl
theorem shN_zero (n:Nat):shN n 0#32=0#32:=by
 induction n with
 | zero=>rfl
 | succ n ih=>show shN n (sh 0#32)=_;rw [sh_zero,ih]
theorem shN_add (m n:Nat): ∀x,shN (m+n) x=shN n (shN m x):=by
 induction m with
 | zero=>intro x;rw [Nat.zero_add];rfl
 | succ m ih=>intro x;rw [Nat.succ_add];show shN (m+n) (sh x)=_;rw [ih];rfl
theorem shN_succ (n:Nat) (x:BitVec 32):shN (n+1) x=sh (shN n x):=by rw [shN_add];rfl

def low (n:Nat) (q:BitVec 32):BitVec 32:=BitVec.ofNat 32 (q.toNat % 2 ^ n)
theorem low_bit (n i:Nat) (q:BitVec 32) (hi:i < 32):(low n q).getLsbD i=(decide (i < n)&&q.getLsbD i):=by
 unfold low
 rw [BitVec.getLsbD_ofNat,Nat.testBit_mod_two_pow]
 simp [hi,BitVec.testBit_toNat]
theorem low_zero (q:BitVec 32):low 0 q=0#32:=by unfold low;simp [Nat.mod_one]
theorem low_all (q:BitVec 32):low 32 q=q:=by
 apply BitVec.eq_of_getLsbD_eq
 intro i hi
 rw [low_bit _ _ _ hi];simp [hi]
theorem one_bit (n i:Nat) (hi:i < 32):(1#32 <<< n).getLsbD i=decide (i=n):=by
 rw [BitVec.getLsbD_shiftLeft,BitVec.getLsbD_one]
 by_cases h:i=n
 · subst h;simp [hi]
 · by_cases h2:i < n<;>simp [h,h2,hi]
   omega
theorem low_succ (n:Nat) (q:BitVec 32):low (n+1) q=low n q ^^^ (if q.getLsbD n then 1#32 <<< n else 0#32):=by
 apply BitVec.eq_of_getLsbD_eq
 intro i hi
 rw [BitVec.getLsbD_xor,low_bit _ _ _ hi,low_bit _ _ _ hi]
 by_cases hq:q.getLsbD n
 · rw [if_pos hq,one_bit _ _ hi]
   by_cases h:i=n
   · subst h;simp [hq]
   · by_cases h2:i < n
     · simp [h,h2,Nat.lt_succ_of_lt h2]
     · have: ¬i < n+1:=by omega
       simp [h,h2,this]
 · rw [if_neg hq]
   by_cases h:i=n
   · subst h;simp [hq]
   · by_cases h2:i < n
     · simp [h2,Nat.lt_succ_of_lt h2]
     · have: ¬i < n+1:=by omega
       simp [h2,this]
theorem lin_ext (f g:BitVec 32→BitVec 32) (hf: ∀x y,f (x ^^^ y)=f x ^^^ f y) (hg: ∀x y,g (x ^^^ y)=g x ^^^ g y)
 (h: ∀i,i < 32→f (1#32 <<< i)=g (1#32 <<< i)) (q:BitVec 32):f q=g q:=by
 have f0:f 0#32=0#32:=by
  have:=hf 0#32 0#32
  rw [BitVec.xor_self]at this
  rw [this,BitVec.xor_self]
 have g0:g 0#32=0#32:=by
  have:=hg 0#32 0#32
  rw [BitVec.xor_self]at this
  rw [this,BitVec.xor_self]
 have hn: ∀n,n≤32→f (low n q)=g (low n q):=by
  intro n
  induction n with
  | zero=>intro _;rw [low_zero,f0,g0]
  | succ n ih=>
    intro hle
    rw [low_succ,hf,hg,ih (by omega)]
    by_cases hq:q.getLsbD n
    · rw [if_pos hq,h n (by omega)]
    · rw [if_neg hq,f0,g0]
 rw [← low_all q]
 exact hn 32 (Nat.le_refl _)

theorem crc_append (c:BitVec 32) (xs ys:List Int):crc c (xs++ys)=crc (crc c xs) ys:=by unfold crc;rw [List.foldl_append]
theorem crc_snoc (c:BitVec 32) (xs:List Int) (z:Int):crc c (xs++ [z])=shN 8 (crc c xs ^^^ BitVec.ofInt 32 z):=by rw [crc_append];rfl
theorem not_eq_xor (x:BitVec 32): ~~~ x=x ^^^ 0xFFFFFFFF#32:=by
 rw [← BitVec.xor_allOnes];rfl
def sum (zs:List Int):BitVec 32:= ~~~ (crc 0xFFFFFFFF#32 zs)
end Go.Proofs.YtpaikolnampcfaaGreatDoor.Mx
namespace Go.Proofs.YtpaikolnampcfaaGreatDoor.Mx
end Go.Proofs.YtpaikolnampcfaaGreatDoor.Mx
namespace Go.Proofs.YtpaikolnampcfaaGreatDoor
structure DM where
 cells:List (List Int × Bool)
 waits:List (Nat × List Int)
 armed:Nat
 turns:Nat
 crashes:Nat
 down:Bool
abbrev nought :List Int × Bool:=(List.replicate 256 0,false)
def BlkOk (b:List Int):Prop:=b.length=256∧ ∀z∈b,0≤z∧z < 256
structure DM.Ok (D:DM):Prop where
 some_:0 < D.cells.length
 many:D.cells.length≤4096
 bytes: ∀(n:Nat) (c:List Int × Bool),D.cells[n]? =some c→BlkOk c.1
 wn: ∀p∈D.waits,p.1 < D.cells.length
 wb: ∀p∈D.waits,BlkOk p.2
def padB (bs:List Int):List Int:=bs++List.replicate (256 - bs.length) 0
theorem padB_ok {bs:List Int} (h:bs.length≤256) (hb: ∀z∈bs,0≤z∧z < 256):BlkOk (padB bs):=by
 unfold padB
 refine⟨by simp;omega,fun z hz=> ?_⟩
 rcases List.mem_append.1 hz with hz | hz
 · exact hb z hz
 · rw [List.mem_replicate]at hz;omega
theorem nought_ok :BlkOk (List.replicate 256 (0:Int)):=⟨List.length_replicate,fun z hz=>by rw [List.mem_replicate]at hz;omega⟩
def lastAt (ws:List (Nat × List Int)) (n:Nat):Nat→Nat
 | 0=>0
 | k+1=>if(ws[k]?.map (·.1))=some n then k+1 else lastAt ws n k
def lastOf (ws:List (Nat × List Int)) (n:Nat):Nat:=lastAt ws n ws.length
theorem lastAt_le (ws:List (Nat × List Int)) (n:Nat): ∀k,lastAt ws n k≤k
 | 0=>Nat.le_refl 0
 | k+1=>by
   unfold lastAt
   split
   · exact Nat.le_refl _
   · exact Nat.le_trans (lastAt_le ws n k) (Nat.le_succ k)
theorem lastAt_app (ws:List (Nat × List Int)) (p:Nat × List Int) (n:Nat): ∀k,k≤ws.length→lastAt (ws++ [p]) n k=lastAt ws n k
 | 0,_=>rfl
 | k+1,h=>by
   unfold lastAt
   rw [lastAt_app ws p n k (by omega),List.getElem?_append_left (by omega)]
theorem lastOf_app (ws:List (Nat × List Int)) (p:Nat × List Int) (n:Nat):lastOf (ws++ [p]) n=if p.1=n then ws.length+1 else lastOf ws n:=by
 unfold lastOf
 rw [List.length_append,List.length_singleton]
 conv=>lhs;unfold lastAt
 rw [lastAt_app ws p n _ (Nat.le_refl _)]
 simp
theorem lastOf_le (ws:List (Nat × List Int)) (n:Nat):lastOf ws n≤ws.length:=lastAt_le ws n _
def seenAt (ws:List (Nat × List Int)) (n:Nat) (b:List Int):Nat→List Int
 | 0=>b
 | k+1=>match ws[k]? with
   | some p=>if p.1=n then p.2 else seenAt ws n b k
   | none=>seenAt ws n b k
theorem seenAt_last (ws:List (Nat × List Int)) (n:Nat) (b:List Int): ∀k,seenAt ws n b k=if lastAt ws n k=0 then b else(ws.getD (lastAt ws n k - 1) (0,[])).2
 | 0=>rfl
 | k+1=>by
   unfold seenAt lastAt
   cases h:ws[k]? with
   | none=>simp [seenAt_last ws n b k]
   | some p=>
     by_cases hp:p.1=n
     · simp [hp,List.getD_eq_getElem?_getD,h]
     · simp [hp,seenAt_last ws n b k]
def DM.stored (D:DM) (n:Nat):List Int:=(D.cells.getD n ([],false)).1
def DM.seen (D:DM) (n:Nat):List Int:=seenAt D.waits n (D.stored n) D.waits.length
theorem DM.seen_last (D:DM) (n:Nat):D.seen n=if lastOf D.waits n=0 then D.stored n else(D.waits.getD (lastOf D.waits n - 1) (0,[])).2:=seenAt_last _ _ _ _
theorem seenAt_ok {ws:List (Nat × List Int)} {n:Nat} {b:List Int} (hb:BlkOk b) (hw: ∀p∈ws,BlkOk p.2): ∀k,BlkOk (seenAt ws n b k)
 | 0=>hb
 | k+1=>by
   unfold seenAt
   split
   · next p h=>
     split
     · exact hw p (List.mem_of_getElem? h)
     · exact seenAt_ok hb hw k
   · exact seenAt_ok hb hw k
theorem DM.Ok.stored {D:DM} (h:D.Ok) {n:Nat} (hn:n < D.cells.length):BlkOk (D.stored n):=by
 unfold DM.stored
 rw [List.getD_eq_getElem?_getD,List.getElem?_eq_getElem hn]
 exact h.bytes n _ (List.getElem?_eq_getElem hn)
theorem DM.Ok.seen {D:DM} (h:D.Ok) {n:Nat} (hn:n < D.cells.length):BlkOk (D.seen n):=seenAt_ok (h.stored hn) h.wb _
def storeS (c:List Int × Bool) (b:List Int) (s:Nat):List Int × Bool:=(b.take (32 * s)++c.1.drop (32 * s),if s=8 then false else c.2)
theorem storeS_zero (c:List Int × Bool) (b:List Int):storeS c b 0=c:=by unfold storeS;simp
theorem storeS_ok {c:List Int × Bool} {b:List Int} {s:Nat} (hc:BlkOk c.1) (hb:BlkOk b) (hs:s≤8):BlkOk (storeS c b s).1:=by
 unfold storeS
 refine⟨by simp [hb.1,hc.1];omega,fun z hz=> ?_⟩
 rcases List.mem_append.1 hz with hz | hz
 · exact hb.2 z (List.mem_of_mem_take hz)
 · exact hc.2 z (List.mem_of_mem_drop hz)
theorem storeS_whole {c:List Int × Bool} {b:List Int} (hc:BlkOk c.1) (hb:BlkOk b):storeS c b 8=(b,false):=by
 unfold storeS
 rw [List.take_of_length_le (by have:=hb.1;omega),List.drop_eq_nil_of_le (by have:=hc.1;omega)];simp
def settleK (cs:List (List Int × Bool)) (ws:List (Nat × List Int)) (f:Nat→Nat):Nat→List (List Int × Bool)
 | 0=>cs
 | k+1=>match ws[k]? with
   | some p=>(settleK cs ws f k).set p.1 (storeS ((settleK cs ws f k).getD p.1 ([],false)) p.2 (f k))
   | none=>settleK cs ws f k
theorem settleK_len (cs:List (List Int × Bool)) (ws:List (Nat × List Int)) (f:Nat→Nat): ∀k,(settleK cs ws f k).length=cs.length
 | 0=>rfl
 | k+1=>by
   unfold settleK
   split
   · rw [List.length_set];exact settleK_len cs ws f k
   · exact settleK_len cs ws f k
def DM.settle (D:DM) (f:Nat→Nat):DM:= { D with cells:=settleK D.cells D.waits f D.waits.length,waits:= [] }
def hurts (cs:List (List Int × Bool)):Nat:=cs.countP (·.2)
def DM.has (D:DM) (n:Int):Prop:=0≤n∧n < D.cells.length
instance (D :DM) (n:Int):Decidable (D.has n):=by unfold DM.has;exact inferInstance
def DM.trips (D:DM):DM:= { D with armed:=0,down:=true,crashes:=D.crashes+1 }
def DM.turned (D:DM):DM:= { D with armed:=D.armed - 1,turns:=D.turns+1 }
def DM.write (D:DM) (n:Int) (b:List Int):Int × DM:=
 if D.down then(11,D)else if ¬D.has n∨256 < b.length then(2,D)else if D.armed=1 then(11,D.trips)else(0, { D.turned with waits:=D.waits++ [(n.toNat,padB b)] })
def DM.sync (D:DM):Int × DM:=if D.down then(11,D)else if D.armed=1 then(11,D.trips)else(0,D.turned.settle fun _=>8)
def DM.arm (D:DM) (n:Int):DM:=if D.down then D else { D with armed:=n.toNat }
def DM.crash (D:DM):Int × DM:=if D.down then(11,D)else(0, { D with down:=true,crashes:=D.crashes+1 })
def fate (stay torn sectors:Int) (i:Nat):Nat:=
 if(i:Int)=torn then(sectors % 9).toNat else if bits .and .i64 (stay / 2 ^ (i % 60)) 1=1 then 8 else 0
def DM.wake (D:DM) (stay torn sectors:Int):Int × DM:=if D.down then(0, { D.settle (fate stay torn sectors)with armed:=0,down:=false })else(16,D)
def DM.hurt (D:DM) (n:Nat) (b:List Int):Int × DM:=
 if b=D.stored n then(2,D)else if(D.cells.getD n ([],false)).2 then(16,D)else(0, { D with cells:=D.cells.set n (b,true) })
def flipAt (b:List Int) (bit:Nat) (mask:Nat) (i:Nat):List Int:=
 if mask.testBit i then b.set ((bit+i) / 8) (((b.getD ((bit+i) / 8) 0).toNat ^^^ (1 <<< ((bit+i) % 8)):Nat):Int)else b
def flipK (b:List Int) (bit mask:Nat):Nat→List Int
 | 0=>b
 | k+1=>flipAt (flipK b bit mask k) bit mask k
def DM.rot (D:DM) (n bit:Int) (mask:Nat):Int × DM:=
 if D.has n∧0≤bit∧bit < 2048 then D.hurt n.toNat (flipK (D.stored n.toNat) bit.toNat mask (min 32 (2048 - bit.toNat)))else(2,D)
def DM.wipe (D:DM) (n:Int):Int × DM:=if D.has n then D.hurt n.toNat (List.replicate 256 0)else(2,D)
theorem xor_byte {x:Int} (hx:0≤x∧x < 256) {j:Nat} (hj:j < 8):(0:Int)≤((x.toNat ^^^ (1 <<< j):Nat):Int)∧((x.toNat ^^^ (1 <<< j):Nat):Int) < 256:=by
 have h1:x.toNat < 2 ^ 8:=by omega
 have h2:1 <<< j < 2 ^ 8:=by
  rw [Nat.one_shiftLeft];exact Nat.pow_lt_pow_right (by decide) hj
 have:=Nat.xor_lt_two_pow h1 h2
 omega
theorem flipAt_ok {b:List Int} (h:BlkOk b) (bit mask i:Nat):BlkOk (flipAt b bit mask i):=by
 unfold flipAt
 split
 · refine⟨by rw [List.length_set];exact h.1,fun z hz=> ?_⟩
   rcases List.mem_or_eq_of_mem_set hz with hz | rfl
   · exact h.2 z hz
   · refine xor_byte ?_ (Nat.mod_lt _ (by decide))
     by_cases hlt:(bit+i) / 8 < b.length
     · rw [List.getD_eq_getElem?_getD,List.getElem?_eq_getElem hlt]
       exact h.2 _ (List.getElem_mem hlt)
     · rw [List.getD_eq_getElem?_getD,List.getElem?_eq_none (by omega)];exact⟨by decide,by decide⟩
 · exact h
theorem flipK_ok {b:List Int} (h:BlkOk b) (bit mask:Nat): ∀k,BlkOk (flipK b bit mask k)
 | 0=>h
 | k+1=>flipAt_ok (flipK_ok h bit mask k) bit mask k
theorem fate_le (stay torn sectors:Int) (i:Nat):fate stay torn sectors i≤8:=by
 unfold fate
 split
 · have:=Int.emod_lt_of_pos sectors (show(0:Int) < 9 by decide);omega
 · split<;>omega
def DM.new (n:Nat):DM:=⟨List.replicate n nought,[],0,0,0,false⟩
open Mx
def unitRow (b:List Int):List Int:=b.drop 36++b.take 28
def GapOk (b:List Int):Prop:= ∀i,32≤i→i < 36→b.getD i 0=0
theorem getD_set_ne (l:List Int) {i j:Nat} (h:i≠j) (x:Int):(l.set i x).getD j 0=l.getD j 0:=by
 rw [List.getD_eq_getElem?_getD,List.getElem?_set_ne h, ← List.getD_eq_getElem?_getD]
theorem getD_set_eq (l:List Int) {i:Nat} (h:i < l.length) (x:Int):(l.set i x).getD i 0=x:=by
 rw [List.getD_eq_getElem?_getD,List.getElem?_set_self h];rfl
open Mx
structure UnitV where
 kind:Int
 num:Int
 body:List Int
def UnitV.right (u:UnitV):Prop:=(1≤u.kind∧u.kind≤8)∧(0≤u.num∧u.num≤1099511627776)∧u.body.length≤239
instance (u :UnitV):Decidable u.right:=by unfold UnitV.right;exact inferInstance
def padTo (n:Nat) (bs:List Int):List Int:=bs++List.replicate (n - bs.length) 0
theorem padTo_len {n:Nat} {bs:List Int} (h:bs.length≤n):(padTo n bs).length=n:=by unfold padTo;rw [List.length_append,List.length_replicate];omega
theorem padTo_bd {n:Nat} {bs:List Int} (h: ∀z∈bs,0≤z∧z < 256): ∀z∈padTo n bs,0≤z∧z < 256:=by
 intro z hz
 unfold padTo at hz
 rcases List.mem_append.1 hz with hz | hz
 · exact h z hz
 · rw [List.mem_replicate]at hz;omega
theorem padTo_take {n:Nat} {bs:List Int} :(padTo n bs).take bs.length=bs:=by unfold padTo;rw [List.take_append_of_le_length (Nat.le_refl _),List.take_length]
def UnitV.front (u:UnitV):List Int:=u.kind::(le 6 u.num++(u.body.length:Int)::padTo 20 (u.body.take 20))
def UnitV.rest (u:UnitV):List Int:=padTo 219 (u.body.drop 20)++ [if 20 < u.body.length then 1 else 0]
def UnitV.sumB (u:UnitV):List Int:=le 4 ((sum (u.rest++u.front)).toNat:Int)
def sealB (u:UnitV):List Int:=u.front++(u.sumB++([0,0,0,0]++u.rest))
def noUnit :UnitV:=⟨0,0,[]⟩
def fitsB (b:List Int):Prop:=unle ((b.drop 28).take 4)=((sum (unitRow b)).toNat:Int)
instance (b :List Int):Decidable (fitsB b):=by unfold fitsB;exact inferInstance
def unitOf (b:List Int):UnitV:=⟨b.getD 0 0,unle ((b.drop 1).take 6),((b.drop 8).take 20++(b.drop 36).take 219).take (b.getD 7 0).toNat⟩
def openB (b:List Int):UnitV × Int:=
 if b.length≠256∨b.getD 0 0 < 1∨8 < b.getD 0 0 then(noUnit,4)else if ¬fitsB b then(noUnit,5)else if(unitOf b).right∧sealB (unitOf b)=b then(unitOf b,0)else(noUnit,4)
section
variable {u : UnitV}
theorem front_len (u:UnitV):u.front.length=28:=by
 unfold UnitV.front
 rw [List.length_cons,List.length_append,List.length_cons,le_len,padTo_len (by rw [List.length_take];omega)]
theorem rest_len (h:u.body.length≤239):u.rest.length=220:=by
 unfold UnitV.rest
 rw [List.length_append,padTo_len (by rw [List.length_drop];omega)];rfl
theorem sumB_len (u:UnitV):u.sumB.length=4:=by unfold UnitV.sumB;rw [le_len]
theorem seal_len (h:u.body.length≤239):(sealB u).length=256:=by
 unfold sealB
 rw [List.length_append,List.length_append,List.length_append,front_len,sumB_len,rest_len h];rfl
theorem seal_drop28 (u:UnitV):(sealB u).drop 28=u.sumB++([0,0,0,0]++u.rest):=by
 unfold sealB
 rw [List.drop_append_of_le_length (by rw [front_len];exact Nat.le_refl _),List.drop_eq_nil_of_le (by rw [front_len];exact Nat.le_refl _),List.nil_append]
theorem seal_drop32 (u:UnitV):(sealB u).drop 32= [0,0,0,0]++u.rest:=by
 rw [show (32:Nat)=28+4 from rfl, ← List.drop_drop,seal_drop28,List.drop_append_of_le_length (by rw [sumB_len];exact Nat.le_refl _),List.drop_eq_nil_of_le (by rw [sumB_len];exact Nat.le_refl _),List.nil_append]
theorem seal_drop36 (u:UnitV):(sealB u).drop 36=u.rest:=by
 rw [show (36:Nat)=32+4 from rfl, ← List.drop_drop,seal_drop32];rfl
theorem seal_take28 (u:UnitV):(sealB u).take 28=u.front:=by
 unfold sealB
 rw [List.take_append_of_le_length (by rw [front_len];exact Nat.le_refl _),List.take_of_length_le (by rw [front_len];exact Nat.le_refl _)]
theorem seal_row (u:UnitV):unitRow (sealB u)=u.rest++u.front:=by unfold unitRow;rw [seal_drop36,seal_take28]
theorem getD_of_drop (b:List Int) (k i:Nat):b.getD (k+i) 0=(b.drop k).getD i 0:=by
 rw [List.getD_eq_getElem?_getD,List.getD_eq_getElem?_getD,List.getElem?_drop]
theorem seal_gap (u:UnitV):GapOk (sealB u):=by
 intro i h1 h2
 obtain⟨j,rfl⟩: ∃j,i=32+j:=⟨i - 32,by omega⟩
 rw [getD_of_drop,seal_drop32]
 have:j=0∨j=1∨j=2∨j=3:=by omega
 rcases this with rfl | rfl | rfl | rfl<;>rfl
theorem seal_sum (u:UnitV):((sealB u).drop 28).take 4=u.sumB:=by
 rw [seal_drop28,List.take_append_of_le_length (by rw [sumB_len];exact Nat.le_refl _),List.take_of_length_le (by rw [sumB_len];exact Nat.le_refl _)]
theorem seal_fits (u:UnitV):fitsB (sealB u):=by
 unfold fitsB
 rw [seal_sum,seal_row]
 unfold UnitV.sumB
 have:=(sum (u.rest++u.front)).isLt
 exact unle_le 4 _ (by omega) (by omega)
theorem seal_bd (h:u.right) (hb: ∀z∈u.body,0≤z∧z < 256): ∀z∈sealB u,0≤z∧z < 256:=by
 obtain⟨hk,hn,hl⟩:=h
 intro z hz
 unfold sealB UnitV.front UnitV.sumB UnitV.rest at hz
 simp only [List.mem_append,List.mem_cons,List.not_mem_nil,or_false]at hz
 rcases hz with(rfl | hz | rfl | hz) | hz | (rfl | rfl | rfl | rfl) | hz | rfl
 · omega
 · exact le_bd _ _ z hz
 · omega
 · exact padTo_bd (fun y hy=>hb y (List.mem_of_mem_take hy)) z hz
 · exact le_bd _ _ z hz
 · omega
 · omega
 · omega
 · omega
 · exact padTo_bd (fun y hy=>hb y (List.mem_of_mem_drop hy)) z hz
 · split<;>omega
theorem seal_ok (h:u.right) (hb: ∀z∈u.body,0≤z∧z < 256):BlkOk (sealB u):=⟨seal_len h.2.2,seal_bd h hb⟩
theorem seal_at0 (u:UnitV):(sealB u).getD 0 0=u.kind:=rfl
theorem seal_num (h:u.right):unle (((sealB u).drop 1).take 6)=u.num:=by
 have:((sealB u).drop 1).take 6=le 6 u.num:=by
  show(List.take 6 ((le 6 u.num++_)++_))=_
  rw [List.append_assoc,List.take_append_of_le_length (by rw [le_len];exact Nat.le_refl _),List.take_of_length_le (by rw [le_len];exact Nat.le_refl _)]
 rw [this]
 exact unle_le 6 _ h.2.1.1 (by have:=h.2.1.2;omega)
theorem seal_drop7 (u:UnitV):(sealB u).drop 7=(u.body.length:Int)::(padTo 20 (u.body.take 20)++(u.sumB++([0,0,0,0]++u.rest))):=by
 show List.drop 6 ((le 6 u.num++_)++_)=_
 rw [List.append_assoc,List.drop_append_of_le_length (by rw [le_len];exact Nat.le_refl _),List.drop_eq_nil_of_le (by rw [le_len];exact Nat.le_refl _)];rfl
theorem seal_len7 (u:UnitV):(sealB u).getD 7 0=(u.body.length:Int):=by
 rw [show (7:Nat)=7+0 from rfl,getD_of_drop,seal_drop7];rfl
theorem seal_body (h:u.right):(((sealB u).drop 8).take 20++((sealB u).drop 36).take 219).take u.body.length=u.body:=by
 have hl:=h.2.2
 have h8:((sealB u).drop 8).take 20=padTo 20 (u.body.take 20):=by
  rw [show (8:Nat)=7+1 from rfl, ← List.drop_drop,seal_drop7]
  show List.take 20 (padTo 20 (u.body.take 20)++_)=_
  have hp:(padTo 20 (u.body.take 20)).length=20:=padTo_len (by rw [List.length_take];omega)
  rw [List.take_append_of_le_length (by omega),List.take_of_length_le (by omega)]
 have h36:((sealB u).drop 36).take 219=padTo 219 (u.body.drop 20):=by
  have hp:(padTo 219 (u.body.drop 20)).length=219:=padTo_len (by rw [List.length_drop];omega)
  rw [seal_drop36]
  unfold UnitV.rest
  rw [List.take_append_of_le_length (by omega),List.take_of_length_le (by omega)]
 rw [h8,h36]
 rcases Nat.lt_or_ge 20 u.body.length with h20 | h20
 · have e1:padTo 20 (u.body.take 20)=u.body.take 20:=by unfold padTo;rw [List.length_take,show 20 - min 20 u.body.length=0 by omega];simp
   rw [e1]
   unfold padTo
   rw [← List.append_assoc,List.take_append_drop,List.take_append_of_le_length (Nat.le_refl _),List.take_length]
 · rw [List.take_append_of_le_length (by rw [padTo_len (by rw [List.length_take];omega)];exact h20),List.take_of_length_le h20]
   exact padTo_take
theorem unitOf_seal (h:u.right):unitOf (sealB u)=u:=by
 unfold unitOf
 rw [seal_num h,seal_len7,Int.toNat_natCast,seal_body h];rfl
theorem open_seal (h:u.right):openB (sealB u)=(u,0):=by
 unfold openB
 have h0:=seal_at0 u
 rw [if_neg (by rw [seal_len h.2.2,h0];have:=h.1;omega),if_neg (fun hn=>hn (seal_fits u)),unitOf_seal h,if_pos ⟨h,rfl⟩]
end
theorem open_some {b:List Int} (h:(openB b).2=0):(openB b).1.right∧sealB (openB b).1=b:=by
 unfold openB at h ⊢
 split at h
 · exact absurd h (by decide)
 · next h1=>
   rw [if_neg h1]
   split at h
   · exact absurd h (by decide)
   · next h2=>
     rw [if_neg h2]
     split at h
     · next h3=>rw [if_pos h3];exact h3
     · exact absurd h (by decide)
theorem open_else {b:List Int} (h:(openB b).2≠0):(openB b).1=noUnit:=by
 unfold openB at h ⊢
 split at h
 · next h1=>rw [if_pos h1]
 · next h1=>
   rw [if_neg h1]
   split at h
   · next h2=>rw [if_pos h2]
   · next h2=>
     rw [if_neg h2]
     split at h
     · exact absurd rfl h
     · next h3=>rw [if_neg h3]
def asB (b:List Int) (kind num:Int):List Int × Int:=
 if(openB b).2≠0 then([],(openB b).2)else if(openB b).1.kind≠kind∨(0≤num∧(openB b).1.num≠num)then([],6)else((openB b).1.body,0)
def UnitV.small (u:UnitV):Prop:=u.right∧u.body.length≤20
instance (u :UnitV):Decidable u.small:=by unfold UnitV.small;exact inferInstance
theorem open_noughts :openB (List.replicate 256 0)=(noUnit,4):=by
 unfold openB
 rw [if_pos (.inr (.inl (by decide)))]
end Go.Proofs.YtpaikolnampcfaaGreatDoor
namespace Go.Proofs.YtpaikolnampcfaaGreatDoor.Mx

def tab (r n:Nat):BitVec 32:=shN 32 (BitVec.ofNat 32 n <<< (4 * r))
def nib (r:Nat) (x:BitVec 32):BitVec 32:=(x >>> (4 * r)) &&& 15#32
theorem and_xor (x y m:BitVec 32):(x ^^^ y) &&& m=(x &&& m) ^^^ (y &&& m):=by
 apply BitVec.eq_of_getLsbD_eq
 intro i _
 rw [BitVec.getLsbD_and,BitVec.getLsbD_xor,BitVec.getLsbD_xor,BitVec.getLsbD_and,BitVec.getLsbD_and]
 cases x.getLsbD i<;>cases y.getLsbD i<;>cases m.getLsbD i<;>rfl
theorem nib_xor (r:Nat) (x y:BitVec 32):nib r (x ^^^ y)=nib r x ^^^ nib r y:=by
 unfold nib;rw [BitVec.ushiftRight_xor_distrib,and_xor]
theorem nib_nat (r:Nat) (x:BitVec 32):BitVec.ofNat 32 (x.toNat / 2 ^ (4 * r) % 16)=nib r x:=by
 apply BitVec.eq_of_toNat_eq
 unfold nib
 rw [BitVec.toNat_ofNat,BitVec.toNat_and,BitVec.toNat_ushiftRight,Nat.shiftRight_eq_div_pow,show(15#32:BitVec 32).toNat=15 by decide,nat_mask4,Nat.mod_eq_of_lt]
 omega
theorem tab_nib (r:Nat) (x:BitVec 32):tab r (x.toNat / 2 ^ (4 * r) % 16)=shN 32 (nib r x <<< (4 * r)):=by unfold tab;rw [nib_nat]
def nibs (x:BitVec 32):BitVec 32:=nib 0 x <<< 0 ^^^ nib 1 x <<< 4 ^^^ nib 2 x <<< 8 ^^^ nib 3 x <<< 12 ^^^ nib 4 x <<< 16 ^^^ nib 5 x <<< 20 ^^^ nib 6 x <<< 24 ^^^ nib 7 x <<< 28
theorem xor_lc (a b c:BitVec 32):a ^^^ (b ^^^ c)=b ^^^ (a ^^^ c):=by rw [← BitVec.xor_assoc,BitVec.xor_comm a,BitVec.xor_assoc]
theorem nibs_xor (x y:BitVec 32):nibs (x ^^^ y)=nibs x ^^^ nibs y:=by
 unfold nibs
 simp only [nib_xor,BitVec.shiftLeft_xor_distrib]
 simp only [BitVec.xor_assoc,xor_lc]
theorem basis_of (f g:BitVec 32→BitVec 32) (h:(List.range 32).all (fun i=>f (1#32 <<< i)==g (1#32 <<< i))=true): ∀i,i < 32→f (1#32 <<< i)=g (1#32 <<< i):=by
 intro i hi
 rw [List.all_eq_true]at h
 exact eq_of_beq (h i (List.mem_range.2 hi))
theorem nibs_basis :(List.range 32).all (fun i=>nibs (1#32 <<< i)==1#32 <<< i)=true:=by decide +kernel
theorem nibs_all (x:BitVec 32):nibs x=x:=
 lin_ext nibs (fun x=>x) nibs_xor (fun _ _=>rfl) (basis_of nibs (fun x=>x) nibs_basis) x
theorem word_tab (x:BitVec 32):
 tab 0 (x.toNat % 16) ^^^ tab 1 (x.toNat / 16 % 16) ^^^ tab 2 (x.toNat / 256 % 16) ^^^ tab 3 (x.toNat / 4096 % 16) ^^^ tab 4 (x.toNat / 65536 % 16) ^^^ tab 5 (x.toNat / 1048576 % 16) ^^^ tab 6 (x.toNat / 16777216 % 16) ^^^ tab 7 (x.toNat / 268435456 % 16)=shN 32 x:=by
 have h0:=tab_nib 0 x
 have h1:=tab_nib 1 x
 have h2:=tab_nib 2 x
 have h3:=tab_nib 3 x
 have h4:=tab_nib 4 x
 have h5:=tab_nib 5 x
 have h6:=tab_nib 6 x
 have h7:=tab_nib 7 x
 simp only [Nat.reduceMul,Nat.reducePow,Nat.div_one]at h0 h1 h2 h3 h4 h5 h6 h7
 rw [h0,h1,h2,h3,h4,h5,h6,h7, ← shN_xor, ← shN_xor, ← shN_xor, ← shN_xor, ← shN_xor, ← shN_xor, ← shN_xor]
 exact congrArg (shN 32) (nibs_all x)

def byte (y:BitVec 32):BitVec 32:=y &&& 255#32
theorem byte_xor (x y:BitVec 32):byte (x ^^^ y)=byte x ^^^ byte y:=and_xor x y _
theorem back8_basis :(List.range 32).all (fun i=>shN 8 (byte (1#32 <<< i) <<< 8)==byte (1#32 <<< i))=true:=by decide +kernel
theorem back8_lin (a b:BitVec 32):shN 8 (byte (a ^^^ b) <<< 8)=shN 8 (byte a <<< 8) ^^^ shN 8 (byte b <<< 8):=by rw [byte_xor,BitVec.shiftLeft_xor_distrib,shN_xor]
theorem back8 (y:BitVec 32):shN 8 (byte y <<< 8)=byte y:=
 lin_ext (fun y=>shN 8 (byte y <<< 8)) byte back8_lin byte_xor (basis_of (fun y=>shN 8 (byte y <<< 8)) byte back8_basis) y
theorem back16_basis :(List.range 32).all (fun i=>shN 16 (byte (1#32 <<< i) <<< 16)==byte (1#32 <<< i))=true:=by decide +kernel
theorem back16_lin (a b:BitVec 32):shN 16 (byte (a ^^^ b) <<< 16)=shN 16 (byte a <<< 16) ^^^ shN 16 (byte b <<< 16):=by rw [byte_xor,BitVec.shiftLeft_xor_distrib,shN_xor]
theorem back16 (y:BitVec 32):shN 16 (byte y <<< 16)=byte y:=
 lin_ext (fun y=>shN 16 (byte y <<< 16)) byte back16_lin byte_xor (basis_of (fun y=>shN 16 (byte y <<< 16)) byte back16_basis) y
theorem back24_basis :(List.range 32).all (fun i=>shN 24 (byte (1#32 <<< i) <<< 24)==byte (1#32 <<< i))=true:=by decide +kernel
theorem back24_lin (a b:BitVec 32):shN 24 (byte (a ^^^ b) <<< 24)=shN 24 (byte a <<< 24) ^^^ shN 24 (byte b <<< 24):=by rw [byte_xor,BitVec.shiftLeft_xor_distrib,shN_xor]
theorem back24 (y:BitVec 32):shN 24 (byte y <<< 24)=byte y:=
 lin_ext (fun y=>shN 24 (byte y <<< 24)) byte back24_lin byte_xor (basis_of (fun y=>shN 24 (byte y <<< 24)) byte back24_basis) y
theorem byte_of (z:Int) (h0:0≤z) (h1:z < 256):byte (BitVec.ofInt 32 z)=BitVec.ofInt 32 z:=by
 obtain⟨n,rfl⟩:=Int.eq_ofNat_of_zero_le h0
 rw [BitVec.ofInt_natCast]
 apply BitVec.eq_of_toNat_eq
 unfold byte
 rw [BitVec.toNat_and,BitVec.toNat_ofNat,show(255#32:BitVec 32).toNat=255 by decide,nat_mask8]
 omega
def pieces (x:BitVec 32):BitVec 32:=(x >>> 8) ^^^ shN 32 ((nib 0 (byte x)) <<< 24) ^^^ shN 32 ((nib 1 (byte x)) <<< 28)
theorem pieces_xor (a b:BitVec 32):pieces (a ^^^ b)=pieces a ^^^ pieces b:=by
 unfold pieces
 simp only [byte_xor,nib_xor,BitVec.shiftLeft_xor_distrib,BitVec.ushiftRight_xor_distrib,shN_xor]
 simp only [BitVec.xor_assoc,xor_lc]
theorem pieces_basis :(List.range 32).all (fun i=>pieces (1#32 <<< i)==shN 8 (1#32 <<< i))=true:=by decide +kernel
theorem byte_tab (c:BitVec 32) (z:Int) (h0:0≤z) (h1:z < 256):
 (c >>> 8) ^^^ shN 32 ((nib 0 (byte (c ^^^ BitVec.ofInt 32 z))) <<< 24) ^^^ shN 32 ((nib 1 (byte (c ^^^ BitVec.ofInt 32 z))) <<< 28)=shN 8 (c ^^^ BitVec.ofInt 32 z):=by
 have hz:BitVec.ofInt 32 z >>> 8=0#32:=by
  rw [← byte_of z h0 h1]
  apply BitVec.eq_of_getLsbD_eq
  intro i _
  unfold byte
  rw [BitVec.getLsbD_ushiftRight,BitVec.getLsbD_and,show(255#32:BitVec 32)=BitVec.ofNat 32 (2 ^ 8 - 1) by rfl,BitVec.getLsbD_ofNat,Nat.testBit_two_pow_sub_one]
  simp
 have hc:c >>> 8=(c ^^^ BitVec.ofInt 32 z) >>> 8:=by rw [BitVec.ushiftRight_xor_distrib,hz];simp
 rw [hc]
 exact lin_ext pieces (shN 8) pieces_xor (shN_xor 8) (basis_of pieces (shN 8) pieces_basis) _
def word (z0 z1 z2 z3:Int):BitVec 32:=BitVec.ofInt 32 z0 ^^^ BitVec.ofInt 32 z1 <<< 8 ^^^ BitVec.ofInt 32 z2 <<< 16 ^^^ BitVec.ofInt 32 z3 <<< 24
theorem crc_word (c:BitVec 32) (z0 z1 z2 z3:Int) (g1:0≤z1∧z1 < 256) (g2:0≤z2∧z2 < 256) (g3:0≤z3∧z3 < 256):
 crc c [z0,z1,z2,z3]=shN 32 (c ^^^ word z0 z1 z2 z3):=by
 have b1:=back8 (BitVec.ofInt 32 z1)
 have b2:=back16 (BitVec.ofInt 32 z2)
 have b3:=back24 (BitVec.ofInt 32 z3)
 rw [byte_of _ g1.1 g1.2]at b1
 rw [byte_of _ g2.1 g2.2]at b2
 rw [byte_of _ g3.1 g3.2]at b3
 show shN 8 (shN 8 (shN 8 (shN 8 (c ^^^ BitVec.ofInt 32 z0) ^^^ BitVec.ofInt 32 z1) ^^^ BitVec.ofInt 32 z2) ^^^ BitVec.ofInt 32 z3)=_
 rw [← b1, ← shN_xor, ← shN_add, ← b2, ← shN_xor, ← shN_add, ← b3, ← shN_xor, ← shN_add]
 unfold word
 simp only [BitVec.xor_assoc,Nat.reduceAdd]
theorem or_of_apart (x y:BitVec 32) (h:x &&& y=0#32):x ||| y=x ^^^ y:=by
 apply BitVec.eq_of_getLsbD_eq
 intro i hi
 have:=congrArg (fun v:BitVec 32=>v.getLsbD i) h
 simp only [BitVec.getLsbD_and,BitVec.getLsbD_zero]at this
 rw [BitVec.getLsbD_or,BitVec.getLsbD_xor]
 revert this
 cases x.getLsbD i<;>cases y.getLsbD i<;>simp
theorem small_bit (n k i:Nat) (h:n < 2 ^ k) (hi:k≤i):n.testBit i=false:=
 Nat.testBit_lt_two_pow (Nat.lt_of_lt_of_le h (Nat.pow_le_pow_right (by omega) hi))
theorem apart (n m k:Nat) (h:n < 2 ^ k):BitVec.ofNat 32 n &&& (BitVec.ofNat 32 m <<< k)=0#32:=by
 apply BitVec.eq_of_getLsbD_eq
 intro i hi
 rw [BitVec.getLsbD_and,BitVec.getLsbD_ofNat,BitVec.getLsbD_shiftLeft,BitVec.getLsbD_zero]
 by_cases hk:k≤i
 · rw [small_bit n k i h hk];simp
 · simp;omega
theorem mul_shift (n k:Nat):BitVec.ofNat 32 (n * 2 ^ k)=BitVec.ofNat 32 n <<< k:=by
 apply BitVec.eq_of_toNat_eq
 rw [BitVec.toNat_shiftLeft,BitVec.toNat_ofNat,BitVec.toNat_ofNat,Nat.shiftLeft_eq,Nat.mod_mul_mod]
theorem or_step (n m k:Nat) (h:n < 2 ^ k):BitVec.ofNat 32 n ||| BitVec.ofNat 32 (m * 2 ^ k)=BitVec.ofNat 32 (n+m * 2 ^ k):=by
 apply BitVec.eq_of_getLsbD_eq
 intro i hi
 rw [BitVec.getLsbD_or,BitVec.getLsbD_ofNat,BitVec.getLsbD_ofNat,BitVec.getLsbD_ofNat]
 simp only [hi,decide_true,Bool.true_and]
 rw [← Nat.testBit_or,Nat.add_comm,Nat.mul_comm m,Nat.two_pow_add_eq_or_of_lt h,Nat.or_comm]
theorem or_xor (n m k:Nat) (h:n < 2 ^ k):BitVec.ofNat 32 n ||| BitVec.ofNat 32 (m * 2 ^ k)=BitVec.ofNat 32 n ^^^ (BitVec.ofNat 32 m <<< k):=by
 rw [mul_shift,or_of_apart _ _ (apart n m k h)]
theorem word_or (n0 n1 n2 n3:Nat) (h0:n0 < 256) (h1:n1 < 256) (h2:n2 < 256):
 ((BitVec.ofNat 32 n0 ||| BitVec.ofNat 32 (n1 * 2 ^ 8)) ||| BitVec.ofNat 32 (n2 * 2 ^ 16)) ||| BitVec.ofNat 32 (n3 * 2 ^ 24)=
   BitVec.ofNat 32 n0 ^^^ (BitVec.ofNat 32 n1 <<< 8) ^^^ (BitVec.ofNat 32 n2 <<< 16) ^^^ (BitVec.ofNat 32 n3 <<< 24):=by
 have a1:=or_step n0 n1 8 h0
 have a2:=or_step (n0+n1 * 2 ^ 8) n2 16 (by omega)
 have x1:=or_xor n0 n1 8 h0
 have x2:=or_xor (n0+n1 * 2 ^ 8) n2 16 (by omega)
 have x3:=or_xor (n0+n1 * 2 ^ 8+n2 * 2 ^ 16) n3 24 (by omega)
 rw [a1,a2,x3, ← a2,x2, ← a1,x1]
end Go.Proofs.YtpaikolnampcfaaGreatDoor.Mx
namespace Go.Proofs.YtpaikolnampcfaaGreatDoor
open Mx
def tornB (b c:List Int) (s:Nat):List Int:=b.take (32 * s)++c.drop (32 * s)
open Mx
structure MarkV where
 ver:Int
 idx:Int
 term:Int
 kind:Int
 void:Int
def knownI (idx term kind:Int):Prop:=(idx=0∧term=0∧kind=0)∨((1≤idx∧idx≤1099511627776)∧(0≤term∧term≤1099511627776)∧(1≤kind∧kind≤3))
instance (i t k:Int):Decidable (knownI i t k):=by unfold knownI;exact inferInstance
def MarkV.right (m:MarkV):Prop:=(0≤m.ver∧m.ver≤1099511627776)∧(0≤m.void∧m.void≤1099511627776)∧knownI m.idx m.term m.kind
instance (m :MarkV):Decidable m.right:=by unfold MarkV.right;exact inferInstance
def MarkV.val (m:MarkV):Go.Value:= .agg #[.int .i64 m.ver,.int .i64 m.idx,.int .i64 m.term,.int .i64 m.kind,.int .i64 m.void]
def MarkV.unit (m:MarkV) (k:Int):UnitV:=⟨k,m.ver,le 6 m.idx++(le 6 m.term++(le 1 m.kind++le 6 m.void))⟩
def noMark :MarkV:=⟨0,0,0,0,0⟩
theorem noMark_right :noMark.right:=by decide
def sortK (k:Int):Prop:=k=2∨k=3
instance (k :Int):Decidable (sortK k):=by unfold sortK;exact inferInstance
def placeK (k:Int):Nat:=if k=2 then 2 else 4
def bodyK (ver:Int) (bs:List Int):MarkV:=⟨ver,unle (bs.take 6),unle ((bs.drop 6).take 6),unle ((bs.drop 12).take 1),unle ((bs.drop 13).take 6)⟩
def partedK (ver:Int) (bs:List Int):MarkV × Int:=if bs.length=19∧(bodyK ver bs).right then(bodyK ver bs,0)else(noMark,4)
def markB (k:Int) (b:List Int):MarkV × Int:=if ¬sortK k then(noMark,2)else if(asB b k (-1)).2≠0 then(noMark,(asB b k (-1)).2)else partedK (openB b).1.num (asB b k (-1)).1
section
variable {m : MarkV} {k : Int}
theorem mark_len (m:MarkV) (k:Int):(m.unit k).body.length=19:=by show(le 6 _++(le 6 _++(le 1 _++le 6 _))).length=19;simp only [List.length_append,le_len]
theorem mark_right (h:m.right) (hk:sortK k):(m.unit k).right:=⟨by show 1≤k∧k≤8;rcases hk with rfl | rfl<;>decide,h.1,by rw [mark_len];decide⟩
theorem mark_bd (m:MarkV) (k:Int): ∀z∈(m.unit k).body,0≤z∧z < 256:=by
 intro z hz
 rcases List.mem_append.1 hz with h | h
 · exact le_bd _ _ z h
 · rcases List.mem_append.1 h with h | h
   · exact le_bd _ _ z h
   · rcases List.mem_append.1 h with h | h
     · exact le_bd _ _ z h
     · exact le_bd _ _ z h
theorem mark_ok (h:m.right) (hk:sortK k):BlkOk (sealB (m.unit k)):=seal_ok (mark_right h hk) (mark_bd m k)
theorem take_le {n:Nat} {x:Int} {l:List Int} :(le n x++l).take n=le n x:=by rw [List.take_append_of_le_length (by rw [le_len];exact Nat.le_refl _),List.take_of_length_le (by rw [le_len];exact Nat.le_refl _)]
theorem drop_le {n:Nat} {x:Int} {l:List Int} :(le n x++l).drop n=l:=by rw [List.drop_append_of_le_length (by rw [le_len];exact Nat.le_refl _),List.drop_eq_nil_of_le (by rw [le_len];exact Nat.le_refl _),List.nil_append]
theorem known_bd {i t x:Int} (h:knownI i t x):(0≤i∧i≤1099511627776)∧(0≤t∧t≤1099511627776)∧(0≤x∧x≤3):=by
 rcases h with⟨rfl,rfl,rfl⟩ | ⟨h1,h2,h3⟩
 · decide
 · omega
theorem parted_mark (h:m.right):partedK m.ver (m.unit k).body=(m,0):=by
 obtain⟨h1,h2,h3⟩:=known_bd h.2.2
 have e1:(m.unit k).body.take 6=le 6 m.idx:=take_le
 have d1:(m.unit k).body.drop 6=le 6 m.term++(le 1 m.kind++le 6 m.void):=drop_le
 have d2:(m.unit k).body.drop 12=le 1 m.kind++le 6 m.void:=by rw [show (12:Nat)=6+6 from rfl, ← List.drop_drop,d1,drop_le]
 have d3:(m.unit k).body.drop 13=le 6 m.void:=by rw [show (13:Nat)=12+1 from rfl, ← List.drop_drop,d2,drop_le]
 have hm:bodyK m.ver (m.unit k).body=m:=by
  unfold bodyK
  rw [e1,d1,d2,d3,take_le,take_le,List.take_of_length_le (by rw [le_len];exact Nat.le_refl _),unle_le 6 _ h1.1 (by omega),unle_le 6 _ h2.1 (by omega),unle_le 1 _ h3.1 (by omega),unle_le 6 _ h.2.1.1 (by have:=h.2.1.2;omega)]
 unfold partedK
 rw [hm,if_pos ⟨mark_len m k,h⟩]
theorem mark_seal (h:m.right) (hk:sortK k):markB k (sealB (m.unit k))=(m,0):=by
 have ho:=open_seal (mark_right h hk)
 have ha:asB (sealB (m.unit k)) k (-1)=((m.unit k).body,0):=by
  unfold asB
  rw [ho,if_neg (fun hn=>hn rfl),if_neg]
  rintro(h1 | h1)
  · exact h1 rfl
  · exact absurd h1.1 (by decide)
 unfold markB
 rw [if_neg (fun hn=>hn hk),ha,ho,if_neg (fun hn=>hn rfl)]
 exact parted_mark (k:=k) h
end
theorem markB_right {k:Int} {b:List Int} (h:(markB k b).2=0):(markB k b).1.right:=by
 unfold markB partedK at h ⊢
 split at h
 · exact absurd h (by decide)
 · next h0=>
   rw [if_neg h0]
   split at h
   · next h1=>exact absurd h h1
   · next h1=>
     rw [if_neg h1]
     split at h
     · next h2=>rw [if_pos h2];exact h2.2
     · exact absurd h (by decide)
theorem markB_none {k:Int} {b:List Int} (h:(openB b).2≠0):(markB k b).2≠0:=by
 have ha:asB b k (-1)=([],(openB b).2):=by unfold asB;rw [if_pos h]
 unfold markB
 split
 · decide
 · rw [ha,if_pos h]
   exact h
theorem markB_nought (k:Int):(markB k (List.replicate 256 0)).2≠0:=markB_none (by rw [open_noughts];decide)
end Go.Proofs.YtpaikolnampcfaaGreatDoor
