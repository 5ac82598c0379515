/- A disk that is up and unarmed, what its calls make of it. -/
import Derived.Test.YtpaikolnampcfaaGreatDoorDevStored
import Derived.Test.YtpaikolnampcfaaGreatDoorMarkV
namespace Go.Proofs.YtpaikolnampcfaaGreatDoor
structure Calm (B:Nat) (D:DM):Prop where
 len:D.cells.length=B
 up:D.down=false
 unarmed:D.armed=0
section
variable {B : Nat} {D : DM}
theorem DM.Few.write {k:Nat} (h:D.Few k) (n:Int) (bs:List Int):(D.write n bs).2.Few (k+1):=by
 have h1:=h.tu
 have h2:=h.cr
 have h3:=h.ws
 have h0:D.Few (k+1):=⟨by omega,by omega,by omega⟩
 unfold DM.write
 split
 · exact h0
 · split
   · exact h0
   · split
     · exact⟨by show D.turns≤_;omega,by show D.crashes+1≤_;omega,by show D.waits.length≤_;omega⟩
     · exact⟨by show D.turns+1≤_;omega,by show D.crashes≤_;omega,by show(D.waits++ [_]).length≤_;rw [List.length_append,List.length_singleton];omega⟩
theorem Few.new {B:Nat} :(DM.new B).Few 0:=⟨Nat.le_refl 0,Nat.le_refl 0,Nat.le_refl 0⟩
theorem Calm.sync (h:Calm B D) {k:Nat} (hF:D.Few k):D.sync.1=0∧Calm B D.sync.2∧D.sync.2.waits= []∧D.sync.2.Few (k+1):=by
 unfold DM.sync
 rw [if_neg (by rw [h.up];decide),if_neg (by rw [h.unarmed];decide)]
 have h1:=hF.tu
 have h2:=hF.cr
 exact⟨rfl,⟨by show(settleK _ _ _ _).length=B;rw [settleK_len];exact h.len,h.up,by show D.armed - 1=0;rw [h.unarmed]⟩,rfl,⟨by show D.turns+1≤_;omega,by show D.crashes≤_;omega,Nat.zero_le _⟩⟩
theorem Calm.crash (h:Calm B D) {k:Nat} (hF:D.Few k) (stay torn sectors:Int):D.crash.1=0∧D.crash.2.Few (k+1)∧(D.crash.2.wake stay torn sectors).1=0∧(D.crash.2.wake stay torn sectors).2.cells=settleK D.cells D.waits (fate stay torn sectors) D.waits.length∧(D.crash.2.wake stay torn sectors).2.waits= []∧Calm B (D.crash.2.wake stay torn sectors).2:=by
 unfold DM.crash
 rw [if_neg (by rw [h.up];decide)]
 have h1:=hF.tu
 have h2:=hF.cr
 have h3:=hF.ws
 refine⟨rfl,⟨by show D.turns≤_;omega,by show D.crashes+1≤_;omega,by show D.waits.length≤_;omega⟩,?_⟩
 unfold DM.wake
 rw [if_pos rfl]
 exact⟨rfl,rfl,rfl,⟨by show(settleK _ _ _ _).length=B;rw [settleK_len];exact h.len,rfl,rfl⟩⟩
theorem Calm.read (h:Calm B D) (hw:D.waits= []) {n:Nat} (hn:n < B):D.read (n:Int)=(D.stored n,0)∧D.storedI (n:Int)=D.stored n:=by
 have hh:D.has (n:Int):=⟨by omega,by rw [h.len];omega⟩
 unfold DM.read DM.storedI
 rw [if_neg (by rw [h.up];decide),if_pos hh,if_pos hh,Int.toNat_natCast]
 refine⟨?_,rfl⟩
 unfold DM.seen
 rw [hw];rfl
end
structure One (D:DM) (b:List Int) (hurt:Bool):Prop where
 calm:Calm 1 D
 cells:D.cells= [(b,hurt)]
 waits:D.waits= []
section
variable {D : DM} {b c : List Int} {hurt : Bool}
theorem padB_full (hc:c.length=256):padB c=c:=by unfold padB;rw [hc];simp
theorem One.few_wake {k:Nat} (hF:D.Few k) (stay torn sectors:Int):(D.wake stay torn sectors).2.Few k:=by
 unfold DM.wake
 split
 · exact⟨hF.tu,hF.cr,Nat.zero_le _⟩
 · exact hF
end
def stowD (D:DM) (n:Int) (b:List Int):Int × DM:=if(D.write n b).1≠0 then D.write n b else(D.write n b).2.sync
def layP (D:DM) (p:Nat) (b:List Int):Int × DM:=if(stowD D p b).1≠0 then stowD D p b else stowD (stowD D p b).2 ((p:Int)+1) b
structure Flat (B:Nat) (D:DM):Prop where
 len:D.cells.length=B
 up:D.down=false
 waits:D.waits= []
structure Still (B:Nat) (D:DM):Prop where
 flat:Flat B D
 unarmed:D.armed=0
section
variable {D D' : DM} {B n : Nat} {b c : List Int} {k : Nat}
theorem Still.new :Still B (DM.new B):=⟨⟨List.length_replicate,rfl,rfl⟩,rfl⟩
theorem Flat.has (h:Flat B D) (hn:n < B):D.has (n:Int):=⟨by omega,by rw [h.len];omega⟩
theorem Flat.read (h:Flat B D) (hn:n < B):D.read (n:Int)=(D.stored n,0):=by
 unfold DM.read
 rw [if_neg (by rw [h.up];decide),if_pos (h.has hn),Int.toNat_natCast]
 unfold DM.seen
 rw [h.waits];rfl
theorem stored_at {cs:List (List Int × Bool)} {x:List Int × Bool} (h:D'.cells=cs.set n x) (hn:n < cs.length):D'.stored n=x.1:=by
 unfold DM.stored
 rw [h,List.getD_eq_getElem?_getD,List.getElem?_set_self hn];rfl
theorem stored_off {x:List Int × Bool} (h:D'.cells=D.cells.set n x) {j:Nat} (hj:j≠n):D'.stored j=D.stored j:=by
 unfold DM.stored
 rw [h,List.getD_eq_getElem?_getD,List.getElem?_set_ne (fun e=>hj e.symm), ← List.getD_eq_getElem?_getD]
theorem stored_eq (h:D'.cells=D.cells) (j:Nat):D'.stored j=D.stored j:=by unfold DM.stored;rw [h]
theorem fewUp (h:D.Few k) {j:Nat} (hj:k≤j):D.Few j:=⟨Nat.le_trans h.tu hj,Nat.le_trans h.cr hj,Nat.le_trans h.ws hj⟩
theorem fewSync (h:D.Few k):D.sync.2.Few (k+1):=by
 have h1:=h.tu
 have h2:=h.cr
 have h3:=h.ws
 unfold DM.sync
 split
 · exact fewUp h (Nat.le_succ k)
 · split
   · exact⟨by show D.turns≤_;omega,by show D.crashes+1≤_;omega,by show D.waits.length≤_;omega⟩
   · exact⟨by show D.turns+1≤_;omega,by show D.crashes≤_;omega,Nat.zero_le _⟩
theorem few_stow (h:D.Few k) (n:Int) (b:List Int):(stowD D n b).2.Few (k+2):=by
 unfold stowD
 split
 · exact fewUp (h.write n b) (by omega)
 · exact fewSync (h.write n b)
theorem few_layP (h:D.Few k) (p:Nat) (b:List Int):(layP D p b).2.Few (k+4):=by
 unfold layP
 split
 · exact fewUp (few_stow h _ b) (by omega)
 · exact few_stow (few_stow h _ b) _ b
theorem few_arm (h:D.Few k) (n:Int):(D.arm n).Few k:=by
 unfold DM.arm
 split
 · exact h
 · exact⟨h.tu,h.cr,h.ws⟩
theorem few_hurt (h:D.Few k) (n:Nat) (b:List Int):(D.hurt n b).2.Few k:=by
 unfold DM.hurt
 split
 · exact h
 · split
   · exact h
   · exact⟨h.tu,h.cr,h.ws⟩
theorem few_wipe (h:D.Few k) (n:Int):(D.wipe n).2.Few k:=by
 unfold DM.wipe
 split
 · exact few_hurt h _ _
 · exact h
theorem few_rot (h:D.Few k) (n bit:Int) (mask:Nat):(D.rot n bit mask).2.Few k:=by
 unfold DM.rot
 split
 · exact few_hurt h _ _
 · exact h
theorem few_crash (h:D.Few k):D.crash.2.Few (k+1):=by
 have h1:=h.tu
 have h2:=h.cr
 have h3:=h.ws
 unfold DM.crash
 split
 · exact fewUp h (Nat.le_succ k)
 · exact⟨by show D.turns≤_;omega,by show D.crashes+1≤_;omega,by show D.waits.length≤_;omega⟩
theorem few_woken (h:D.Few k) (stay torn sectors:Int):(D.crash.2.wake stay torn sectors).2.Few (k+1):=One.few_wake (few_crash h) stay torn sectors
theorem woken_cells (stay torn sectors:Int) (D:DM):(D.crash.2.wake stay torn sectors).2.cells=settleK D.cells D.waits (fate stay torn sectors) D.waits.length∧(D.crash.2.wake stay torn sectors).2.waits= []∧(D.crash.2.wake stay torn sectors).2.down=false∧(D.crash.2.wake stay torn sectors).2.armed=0:=by
 unfold DM.crash
 by_cases hd:D.down=true
 · rw [if_pos hd]
   unfold DM.wake
   rw [if_pos hd]
   exact⟨rfl,rfl,rfl,rfl⟩
 · rw [if_neg hd]
   unfold DM.wake
   rw [if_pos rfl]
   exact⟨rfl,rfl,rfl,rfl⟩
theorem woken_still (stay torn sectors:Int) (h:D.cells.length=B):Still B (D.crash.2.wake stay torn sectors).2:=by
 obtain⟨h1,h2,h3,h4⟩:=woken_cells stay torn sectors D
 exact⟨⟨by rw [h1,settleK_len];exact h,h3,h2⟩,h4⟩
theorem woken_none (stay torn sectors:Int) (h:D.waits= []) (j:Nat):(D.crash.2.wake stay torn sectors).2.stored j=D.stored j:=by
 refine stored_eq ?_ j
 rw [(woken_cells stay torn sectors D).1,h];rfl
theorem woken_one (stay torn sectors:Int) (h:D.waits= [(n,c)]):(D.crash.2.wake stay torn sectors).2.cells=D.cells.set n (storeS (D.cells.getD n ([],false)) c (fate stay torn sectors 0)):=by
 rw [(woken_cells stay torn sectors D).1,h];rfl
def Woken (B:Nat) (D:DM) (f:Nat→List Int→Prop):Prop:= ∀stay torn sectors:Int,Still B (D.crash.2.wake stay torn sectors).2∧ ∀j,j < B→f j ((D.crash.2.wake stay torn sectors).2.stored j)
theorem Flat.stow (h:Flat B D) (hn:n < B) (hb:BlkOk (D.stored n)) (hc:BlkOk c):
 ((stowD D n c).1=0∧Flat B (stowD D n c).2∧(stowD D n c).2.stored n=c∧(∀j,j≠n→(stowD D n c).2.stored j=D.stored j)∧(stowD D n c).2.armed=D.armed - 1 - 1∧(stowD D n c).2.cells=D.cells.set n (c,false))∨
 ((stowD D n c).1=11∧D.armed≠0∧Woken B (stowD D n c).2 fun j x=>if j=n then ∃s,x=tornB c (D.stored n) s else x=D.stored j):=by
 have hl: ¬(256 < c.length):=by have:=hc.1;omega
 have hw:D.write n c=if D.armed=1 then(11,D.trips)else(0, { D.turned with waits:= [(n,c)] }):=by
  unfold DM.write
  rw [if_neg (by rw [h.up];decide),if_neg (by rintro(h1 | h1);exact h1 (h.has hn);exact hl h1),h.waits,padB_full hc.1,Int.toNat_natCast];rfl
 by_cases h1:D.armed=1
 · rw [if_pos h1]at hw
   have hS:stowD D n c=(11,D.trips):=by unfold stowD;rw [hw];rfl
   rw [hS]
   refine .inr ⟨rfl,by omega,fun stay torn sectors=>⟨woken_still stay torn sectors h.len,fun j hj=> ?_⟩⟩
   have h2:=woken_none (D:=D.trips) stay torn sectors h.waits j
   dsimp only
   split
   · next e=>subst e;exact⟨0,h2⟩
   · exact h2
 · rw [if_neg h1]at hw
   obtain⟨D1,hD1⟩: ∃D1:DM, { D.turned with waits:= [(n,c)] } =D1:=⟨_,rfl⟩
   rw [hD1]at hw
   have hu1:D1.down=false:=by rw [← hD1];exact h.up
   have hc1:D1.cells=D.cells:=by rw [← hD1];rfl
   have hws1:D1.waits= [(n,c)]:=by rw [← hD1]
   have ha1:D1.armed=D.armed - 1:=by rw [← hD1];rfl
   have hS:stowD D n c=D1.sync:=by unfold stowD;rw [hw];rfl
   have hlen:n < D.cells.length:=by rw [h.len];exact hn
   rw [hS]
   by_cases h2:D1.armed=1
   · have hY:D1.sync=(11,D1.trips):=by unfold DM.sync;rw [if_neg (by rw [hu1];decide),if_pos h2]
     rw [hY]
     refine .inr ⟨rfl,by omega,fun stay torn sectors=>⟨woken_still stay torn sectors (D:=D1.trips) (by show D1.cells.length=B;rw [hc1];exact h.len),fun j hj=> ?_⟩⟩
     have h3:=woken_one (D:=D1.trips) stay torn sectors hws1
     rw [show D1.trips.cells=D.cells from hc1]at h3
     dsimp only
     split
     · next e=>
       subst e
       rw [stored_at h3 hlen]
       exact⟨_,rfl⟩
     · next e=>exact stored_off h3 e
   · have hY:D1.sync=(0,D1.turned.settle fun _=>8):=by unfold DM.sync;rw [if_neg (by rw [hu1];decide),if_neg h2]
     rw [hY]
     have hcs:(D1.turned.settle fun _=>8).cells=D.cells.set n (storeS (D.cells.getD n ([],false)) c 8):=by
      show settleK D1.cells D1.waits (fun _=>8) D1.waits.length=_
      rw [hws1,hc1];rfl
     rw [storeS_whole hb hc]at hcs
     refine .inl ⟨rfl,⟨by rw [hcs,List.length_set];exact h.len,hu1,rfl⟩,stored_at hcs hlen,fun j hj=>stored_off hcs hj,?_,hcs⟩
     show D1.armed - 1=_
     rw [ha1]
theorem Flat.lay (h:Flat B D) (hn:n+1 < B) (hb:BlkOk (D.stored n)) (hb2:BlkOk (D.stored (n+1))) (hc:BlkOk c):
 ((layP D n c).1=0∧Flat B (layP D n c).2∧(layP D n c).2.stored n=c∧(layP D n c).2.stored (n+1)=c∧(∀j,j≠n→j≠n+1→(layP D n c).2.stored j=D.stored j)∧(D.armed=0→(layP D n c).2.armed=0)∧(layP D n c).2.cells=(D.cells.set n (c,false)).set (n+1) (c,false))∨
 ((layP D n c).1=11∧D.armed≠0∧ ∃r:Bool,Woken B (layP D n c).2 fun j x=>if j=n then(if r then x=c else ∃s,x=tornB c (D.stored n) s)else if j=n+1 then(if r then ∃s,x=tornB c (D.stored (n+1)) s else x=D.stored (n+1))else x=D.stored j):=by
 have e1:((n:Int)+1)=((n+1:Nat):Int):=by omega
 rcases h.stow (by omega:n < B) hb hc with⟨h1,h2,h3,h4,h5,hce⟩ | ⟨h1,h2,h3⟩
 · have hL:layP D n c=stowD (stowD D n c).2 ((n+1:Nat):Int) c:=by unfold layP;rw [if_neg (fun hn=>hn h1),e1]
   rw [hL]
   have hq:(stowD D n c).2.stored (n+1)=D.stored (n+1):=h4 _ (by omega)
   rcases h2.stow (n:=n+1) hn (by rw [hq];exact hb2) hc with⟨k1,k2,k3,k4,k5,kce⟩ | ⟨k1,k2,k3⟩
   · refine .inl ⟨k1,k2,(k4 n (by omega)).trans h3,k3,fun j j1 j2=>(k4 j j2).trans (h4 j j1),(fun ha=>by rw [k5,h5,ha]),by rw [kce,hce]⟩
   · refine .inr ⟨k1,by omega,true,fun stay torn sectors=>⟨(k3 stay torn sectors).1,fun j hj=> ?_⟩⟩
     have h6:=(k3 stay torn sectors).2 j hj
     dsimp only at h6 ⊢
     by_cases j1:j=n
     · subst j1
       rw [if_neg (by omega)]at h6
       rw [if_pos rfl,if_pos rfl,h6];exact h3
     · rw [if_neg j1]
       by_cases j2:j=n+1
       · subst j2
         rw [if_pos rfl,hq]at h6
         rw [if_pos rfl,if_pos rfl];exact h6
       · rw [if_neg j2]at h6 ⊢
         rw [h6];exact h4 j j1
 · have hL:layP D n c=stowD D n c:=by unfold layP;rw [if_pos (by rw [h1];decide)]
   rw [hL]
   refine .inr ⟨h1,h2,false,fun stay torn sectors=>⟨(h3 stay torn sectors).1,fun j hj=> ?_⟩⟩
   have h6:=(h3 stay torn sectors).2 j hj
   dsimp only at h6 ⊢
   by_cases j1:j=n
   · subst j1
     rw [if_pos rfl]at h6 ⊢
     exact h6
   · rw [if_neg j1]at h6 ⊢
     by_cases j2:j=n+1
     · rw [if_pos j2,h6,j2];rfl
     · rw [if_neg j2];exact h6
theorem Still.lay (h:Still B D) (hn:n+1 < B) (hb:BlkOk (D.stored n)) (hb2:BlkOk (D.stored (n+1))) (hc:BlkOk c):
 (layP D n c).1=0∧Still B (layP D n c).2∧(layP D n c).2.stored n=c∧(layP D n c).2.stored (n+1)=c∧(∀j,j≠n→j≠n+1→(layP D n c).2.stored j=D.stored j)∧(layP D n c).2.cells=(D.cells.set n (c,false)).set (n+1) (c,false):=by
 rcases h.flat.lay hn hb hb2 hc with⟨h1,h2,h3,h4,h5,h6,h7⟩ | ⟨_,h2,_⟩
 · exact⟨h1,⟨h2,h6 h.unarmed⟩,h3,h4,h5,h7⟩
 · exact absurd h.unarmed h2
theorem Still.hurt (h:Still B D) (hn:n < B):Still B (D.hurt n c).2∧((D.hurt n c).2.stored n=c∨(D.hurt n c).2.stored n=D.stored n)∧ ∀j,j≠n→(D.hurt n c).2.stored j=D.stored j:=by
 unfold DM.hurt
 split
 · exact⟨h,.inr rfl,fun _ _=>rfl⟩
 · split
   · exact⟨h,.inr rfl,fun _ _=>rfl⟩
   · exact⟨⟨⟨by show(D.cells.set n _).length=B;rw [List.length_set];exact h.flat.len,h.flat.up,h.flat.waits⟩,h.unarmed⟩,.inl (stored_at (cs:=D.cells) (x:=(c,true)) rfl (by rw [h.flat.len];exact hn)),fun j hj=>stored_off rfl hj⟩
theorem Still.wipe (h:Still B D) (hn:n < B):Still B (D.wipe n).2∧((D.wipe n).2.stored n=List.replicate 256 0∨(D.wipe n).2.stored n=D.stored n)∧ ∀j,j≠n→(D.wipe n).2.stored j=D.stored j:=by
 have e:D.wipe (n:Int)=D.hurt n (List.replicate 256 0):=by unfold DM.wipe;rw [if_pos (h.flat.has hn),Int.toNat_natCast]
 rw [e]
 exact h.hurt hn
def DM.scar (D:DM) (n:Nat):Bool:=(D.cells.getD n ([],false)).2
theorem Still.lay_scar (h:Still B D) (hn:n+1 < B) (hb:BlkOk (D.stored n)) (hb2:BlkOk (D.stored (n+1))) (hc:BlkOk c):(layP D n c).2.scar n=false∧(layP D n c).2.scar (n+1)=false:=by
 have hq:=(h.lay hn hb hb2 hc).2.2.2.2.2
 have hl:=h.flat.len
 unfold DM.scar
 rw [hq]
 constructor
 · rw [List.getD_eq_getElem?_getD,List.getElem?_set_ne (by omega),List.getElem?_set_self (by omega)];rfl
 · rw [List.getD_eq_getElem?_getD,List.getElem?_set_self (by rw [List.length_set];omega)];rfl
end
open Mx
def newerK (x y:MarkV × Int):MarkV × Int:=if x.2≠0∧y.2≠0 then(noMark,10)else if x.2≠0∨(y.2=0∧x.1.ver < y.1.ver)then(y.1,0)else(x.1,0)
def layK (D:DM) (k:Int) (m:MarkV):Int × DM:=layP D (placeK k) (sealB (m.unit k))
def putK (D:DM) (k:Int) (m:MarkV):Int × DM:=if sortK k∧m.right then layK D k m else(2,D)
def formatK (D:DM):Int × DM:=if(layK D 2 noMark).1≠0 then layK D 2 noMark else layK (layK D 2 noMark).2 3 noMark
def seenK (D:DM) (k:Int):Int:=if(D.read (placeK k)).2≠0 then(D.read (placeK k)).2 else(D.read ((placeK k:Int)+1)).2
def getK (D:DM) (k:Int):MarkV × Int:=if ¬sortK k then(noMark,2)else if seenK D k≠0 then(noMark,seenK D k)else newerK (markB k (D.read (placeK k)).1) (markB k (D.read ((placeK k:Int)+1)).1)
def openK (D:DM) (k:Int):(MarkV × Int) × DM:=
 if(getK D k).2≠0∨(D.read (placeK k)).1=(D.read ((placeK k:Int)+1)).1 then(getK D k,D)else if(layK D k (getK D k).1).1≠0 then((noMark,(layK D k (getK D k).1).1),(layK D k (getK D k).1).2)else(getK D k,(layK D k (getK D k).1).2)
def badOf (D:DM) (k:Int):List Int:=(if(markB k (D.read (placeK k)).1).2≠0 then [(placeK k:Int)]else [])++(if(markB k (D.read ((placeK k:Int)+1)).1).2≠0 then [(placeK k:Int)+1]else [])
def badK (D:DM):List Int:=if seenK D 2≠0∨seenK D 3≠0 then []else badOf D 2++badOf D 3
section
variable {D D' : DM} {j : Nat} {k : Int} {m o y : MarkV}
theorem few_layK (h:D.Few j) (k:Int) (m:MarkV):(layK D k m).2.Few (j+4):=few_layP h _ _
theorem few_putK (h:D.Few j) (k:Int) (m:MarkV):(putK D k m).2.Few (j+4):=by
 unfold putK
 split
 · exact few_layK h _ _
 · exact fewUp h (by omega)
theorem few_formatK (h:D.Few j):(formatK D).2.Few (j+8):=by
 unfold formatK
 split
 · exact fewUp (few_layK h _ _) (by omega)
 · exact few_layK (few_layK h _ _) _ _
theorem few_openK (h:D.Few j) (k:Int):(openK D k).2.Few (j+4):=by
 unfold openK
 split
 · exact fewUp h (by omega)
 · split
   · exact few_layK h _ _
   · exact few_layK h _ _
theorem newerK_right {k:Int} {a b:List Int} (h:(newerK (markB k a) (markB k b)).2=0):(newerK (markB k a) (markB k b)).1.right:=by
 unfold newerK at h ⊢
 split at h
 · exact absurd h (by decide)
 · next h2=>
   rw [if_neg h2]
   split at h
   · next h3=>
     rw [if_pos h3]
     refine markB_right ?_
     rcases h3 with h3 | h3
     · exact Classical.byContradiction fun h4=>h2 ⟨h3,h4⟩
     · exact h3.1
   · next h3=>
     rw [if_neg h3]
     exact markB_right (Classical.byContradiction fun h4=>h3 (.inl h4))
theorem getK_right (h:(getK D k).2=0):sortK k∧(getK D k).1.right:=by
 unfold getK at h ⊢
 split at h
 · exact absurd h (by decide)
 · next h0=>
   rw [if_neg h0]
   split at h
   · next h1=>exact absurd h h1
   · next h1=>
     rw [if_neg h1]
     exact⟨Classical.byContradiction h0,newerK_right h⟩
theorem place_bd (k:Int):(placeK k=2∨placeK k=4)∧placeK k+1 < 6:=by unfold placeK;split<;>omega
theorem place_far {k q:Int} (h:sortK k) (hq:sortK q) (hn:k≠q):placeK q≠placeK k∧placeK q≠placeK k+1∧placeK q+1≠placeK k∧placeK q+1≠placeK k+1:=by
 rcases h with rfl | rfl<;>rcases hq with rfl | rfl
 · exact absurd rfl hn
 · decide
 · decide
 · exact absurd rfl hn
theorem flat_reads (h:Flat 6 D) (k:Int):D.read (placeK k)=(D.stored (placeK k),0)∧D.read ((placeK k:Int)+1)=(D.stored (placeK k+1),0):=by
 have hb:=(place_bd k).2
 refine⟨h.read (by omega),?_⟩
 rw [show ((placeK k:Int)+1)=((placeK k+1:Nat):Int) by omega]
 exact h.read hb
theorem flat_get (h:Flat 6 D) (hk:sortK k):getK D k=newerK (markB k (D.stored (placeK k))) (markB k (D.stored (placeK k+1))):=by
 obtain⟨h1,h2⟩:=flat_reads h k
 unfold getK seenK
 rw [if_neg (fun hn=>hn hk),h1,h2]
 simp
def Pair (D:DM) (k:Int) (a b:List Int):Prop:=D.stored (placeK k)=a∧D.stored (placeK k+1)=b
def Else (k:Int) (D D':DM):Prop:= ∀j,j≠placeK k→j≠placeK k+1→D'.stored j=D.stored j
theorem Pair.kept {q:Int} {a b:List Int} (h:Pair D q a b) (hk:sortK k) (hq:sortK q) (hn:k≠q) (he:Else k D D'):Pair D' q a b:=by
 obtain⟨h1,h2,h3,h4⟩:=place_far hk hq hn
 exact⟨(he _ h1 h2).trans h.1,(he _ h3 h4).trans h.2⟩
theorem still_layK {a b:List Int} (h:Still 6 D) (hp:Pair D k a b) (ha:BlkOk a) (hb:BlkOk b) (hk:sortK k) (hm:m.right):
 (layK D k m).1=0∧Still 6 (layK D k m).2∧Pair (layK D k m).2 k (sealB (m.unit k)) (sealB (m.unit k))∧Else k D (layK D k m).2:=by
 obtain⟨h1,h2,h3,h4,h5,_⟩:=h.lay (place_bd k).2 (by rw [hp.1];exact ha) (by rw [hp.2];exact hb) (mark_ok hm hk)
 exact⟨h1,h2,⟨h3,h4⟩,h5⟩
theorem still_putK {a b:List Int} (h:Still 6 D) (hp:Pair D k a b) (ha:BlkOk a) (hb:BlkOk b) (hk:sortK k) (hm:m.right):
 (putK D k m).1=0∧Still 6 (putK D k m).2∧Pair (putK D k m).2 k (sealB (m.unit k)) (sealB (m.unit k))∧Else k D (putK D k m).2:=by
 unfold putK
 rw [if_pos ⟨hk,hm⟩]
 exact still_layK h hp ha hb hk hm
theorem still_format (h:Still 6 D) (hok: ∀j,j < 6→BlkOk (D.stored j)):(formatK D).1=0∧Still 6 (formatK D).2∧Pair (formatK D).2 2 (sealB (noMark.unit 2)) (sealB (noMark.unit 2))∧Pair (formatK D).2 3 (sealB (noMark.unit 3)) (sealB (noMark.unit 3)):=by
 obtain⟨h1,h2,h3,h4⟩:=still_layK h (k:=2) ⟨rfl,rfl⟩ (hok 2 (by decide)) (hok 3 (by decide)) (.inl rfl) noMark_right
 have hp3:Pair (layK D 2 noMark).2 3 (D.stored 4) (D.stored 5):=⟨h4 4 (by decide) (by decide),h4 5 (by decide) (by decide)⟩
 obtain⟨k1,k2,k3,k4⟩:=still_layK h2 hp3 (hok 4 (by decide)) (hok 5 (by decide)) (.inr rfl) noMark_right
 unfold formatK
 rw [if_neg (fun hn=>hn h1)]
 exact⟨k1,k2,h3.kept (.inr rfl) (.inl rfl) (by decide) k4,k3⟩
end
open Mx
abbrev noughtB :List Int:=List.replicate 256 0
section
variable {D D' : DM} {k q : Int} {m o y x : MarkV} {a b : List Int}
abbrev MarkV.blk (m:MarkV) (k:Int):List Int:=sealB (m.unit k)
theorem newerK_one (h:m.right) (hk:sortK k) (hb:b=m.blk k∨(markB k b).2≠0):newerK (markB k b) (markB k (m.blk k))=(m,0)∧newerK (markB k (m.blk k)) (markB k b)=(m,0):=by
 have hs:=mark_seal h hk
 show newerK (markB k b) (markB k (sealB (m.unit k)))=_∧newerK (markB k (sealB (m.unit k))) (markB k b)=_
 rw [hs]
 rcases hb with rfl | hb
 · show newerK (markB k (sealB (m.unit k))) _=_∧newerK _ (markB k (sealB (m.unit k)))=_
   rw [hs]
   unfold newerK
   constructor<;>simp
 · unfold newerK
   constructor
   · rw [if_neg (by rintro⟨_,h2⟩;exact h2 rfl),if_pos (.inl hb)]
   · rw [if_neg (by rintro⟨h1,_⟩;exact h1 rfl),if_neg (by rintro(h1 | h1);exact h1 rfl;exact hb h1.1)]
def Both (D:DM) (k:Int) (m:MarkV):Prop:=Pair D k (m.blk k) (m.blk k)
theorem nought_ne (hm:m.right) (hk:sortK k):noughtB≠m.blk k:=by
 intro e
 have h1:=markB_nought k
 have e:List.replicate 256 0=sealB (m.unit k):=e
 rw [e,mark_seal hm hk]at h1
 exact h1 rfl
def Two2 (k q:Int):Prop:=(k=2∧q=3)∨(k=3∧q=2)
theorem Two2.sorts (h:Two2 k q):sortK k∧sortK q∧k≠q:=by rcases h with⟨rfl,rfl⟩ | ⟨rfl,rfl⟩<;>decide
end
open Mx
section
variable {D D' : DM} {k q : Int} {m o y x : MarkV} {a b : List Int}
theorem both_get (hD:Flat 6 D) (h:Both D k m) (hm:m.right) (hk:sortK k):getK D k=(m,0):=by
 rw [flat_get hD hk,h.1,h.2]
 exact(newerK_one hm hk (.inl rfl)).1
theorem mark_laid (hD:Still 6 D) (hp:Pair D k a b) (ha:BlkOk a) (hb:BlkOk b) (hk:sortK k) (hm:m.right):
 (putK D k m).1=0∧Still 6 (putK D k m).2∧Both (putK D k m).2 k m∧Else k D (putK D k m).2∧(putK D k m).2.scar (placeK k)=false∧(putK D k m).2.scar (placeK k+1)=false:=by
 obtain⟨h1,h2,h3,h4⟩:=still_putK hD hp ha hb hk hm
 obtain⟨s1,s2⟩:=hD.lay_scar (n:=placeK k) (c:=sealB (m.unit k)) (place_bd k).2 (by rw [hp.1];exact ha) (by rw [hp.2];exact hb) (mark_ok hm hk)
 refine⟨h1,h2,h3,h4,?_,?_⟩
 · unfold putK;rw [if_pos ⟨hk,hm⟩];exact s1
 · unfold putK;rw [if_pos ⟨hk,hm⟩];exact s2
theorem new_stored {B j:Nat} (hj:j < B):(DM.new B).stored j=noughtB:=by
 unfold DM.stored DM.new
 show((List.replicate B nought).getD j ([],false)).1=_
 rw [List.getD_eq_getElem?_getD,List.getElem?_replicate,if_pos hj];rfl
theorem mark_format :(formatK (DM.new 6)).1=0∧Still 6 (formatK (DM.new 6)).2∧Both (formatK (DM.new 6)).2 2 noMark∧Both (formatK (DM.new 6)).2 3 noMark∧(formatK (DM.new 6)).2.Few 8:=by
 obtain⟨h1,h2,h3,h4⟩:=still_format (Still.new (B:=6)) (fun j hj=>by rw [new_stored hj];exact nought_ok)
 exact⟨h1,h2,h3,h4,few_formatK Few.new⟩
theorem mark_over (hs:Two2 k q) (hD:Still 6 D) (h1:Both D k o) (h2:Both D q x) (ho:o.right) (hm:m.right):
 (putK D k m).1=0∧Still 6 (putK D k m).2∧Both (putK D k m).2 k m∧Both (putK D k m).2 q x∧(putK D k m).2.scar (placeK k)=false∧(putK D k m).2.scar (placeK k+1)=false:=by
 obtain⟨sk,sq,hne⟩:=hs.sorts
 obtain⟨p1,p2,p3,p4,p5,p6⟩:=mark_laid hD h1 (mark_ok ho sk) (mark_ok ho sk) sk hm
 exact⟨p1,p2,p3,Pair.kept h2 sk sq hne p4,p5,p6⟩
end
open Mx
def m06 :MarkV:=⟨1,4,2,2,0⟩
theorem m06_right :m06.right:=by decide
theorem mark_awake :(formatK (DM.new 6)).1=0∧(putK (formatK (DM.new 6)).2 2 m06).1=0∧((putK (formatK (DM.new 6)).2 2 m06).2.wipe 3).1=0∧getK ((putK (formatK (DM.new 6)).2 2 m06).2.wipe 3).2 2=(m06,0)∧
 getK ((putK (formatK (DM.new 6)).2 2 m06).2.wipe 3).2 3=(noMark,0)∧badK ((putK (formatK (DM.new 6)).2 2 m06).2.wipe 3).2= [3]∧(putK (formatK (DM.new 6)).2 2 m06).2.Few 12:=by
 obtain⟨f1,f2,f3,f4,f5⟩:=mark_format
 obtain⟨p1,p2,p3,p4,_,p6⟩:=mark_over (m:=m06) (.inl ⟨rfl,rfl⟩:Two2 2 3) f2 f3 f4 noMark_right m06_right
 refine⟨f1,p1,?_⟩
 have hF:=few_putK f5 2 m06
 generalize (putK (formatK (DM.new 6)).2 2 m06).2=D at *
 have hne:=nought_ne m06_right (.inl rfl:sortK 2)
 have h3:D.stored 3=m06.blk 2:=p3.2
 have hs:(D.cells.getD 3 ([],false)).2=false:=p6
 have hlen:=p2.flat.len
 have hh:D.has 3:=p2.flat.has (n:=3) (by decide)
 have hw:D.wipe 3=(0, { D with cells:=D.cells.set 3 (noughtB,true) }):=by
  unfold DM.wipe DM.hurt
  rw [if_pos hh,show(3:Int).toNat=3 from rfl,if_neg (by rw [h3];exact hne),hs]
  rfl
 obtain⟨w1,_,w3⟩:=p2.wipe (n:=3) (by decide)
 have w4:(D.wipe 3).2.stored 3=noughtB:=by rw [hw];exact stored_at (cs:=D.cells) (x:=(noughtB,true)) (n:=3) rfl (by omega)
 have e1:(D.wipe 3).1=0:=by rw [hw]
 have w1:Still 6 (D.wipe 3).2:=w1
 have w3: ∀j,j≠3→(D.wipe 3).2.stored j=D.stored j:=w3
 clear hw
 generalize (D.wipe 3).2=E at *
 have b2:E.stored 2=m06.blk 2:=(w3 2 (by decide)).trans p3.1
 have b4:E.stored 4=noMark.blk 3:=(w3 4 (by decide)).trans p4.1
 have b5:E.stored 5=noMark.blk 3:=(w3 5 (by decide)).trans p4.2
 have s2:=mark_seal m06_right (.inl rfl:sortK 2)
 have s3:=mark_seal noMark_right (.inr rfl:sortK 3)
 refine⟨e1,?_,both_get w1.flat ⟨b4,b5⟩ noMark_right (.inr rfl),?_,hF⟩
 · rw [flat_get w1.flat (.inl rfl:sortK 2),show placeK 2=2 from rfl,b2,w4]
   exact(newerK_one m06_right (.inl rfl) (.inr (markB_nought 2))).2
 · obtain⟨a1,a2⟩:=flat_reads w1.flat 2
   obtain⟨c1,c2⟩:=flat_reads w1.flat 3
   rw [show placeK 2=2 from rfl]at a1 a2
   rw [show placeK 3=4 from rfl]at c1 c2
   rw [b2]at a1
   rw [show (2:Nat)+1=3 from rfl,w4]at a2
   rw [b4]at c1
   rw [show (4:Nat)+1=5 from rfl,b5]at c2
   unfold badK seenK badOf
   rw [show placeK 2=2 from rfl,show placeK 3=4 from rfl,a1,a2,c1,c2]
   have n2:=markB_nought 2
   have k2:(markB 2 (m06.blk 2)).2=0:=by show(markB 2 (sealB (m06.unit 2))).2=0;rw [s2]
   have k3:(markB 3 (noMark.blk 3)).2=0:=by show(markB 3 (sealB (noMark.unit 3))).2=0;rw [s3]
   simp [n2,k2,k3]
end Go.Proofs.YtpaikolnampcfaaGreatDoor
