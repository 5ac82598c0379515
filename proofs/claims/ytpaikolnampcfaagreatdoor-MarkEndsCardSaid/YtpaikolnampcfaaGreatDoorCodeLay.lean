/- The plain mathematics of fields, texts, rows and entries as bytes: no program here. -/
import Derived.RowKit
import Derived.WalkKit
import Derived.Laws.BitsAllLaws
import Derived.Test.YtpaikolnampcfaaGreatDoorKitInts
import Derived.Maps.AppendAt
import Derived.Deep.AppendLies
namespace Go.Proofs.YtpaikolnampcfaaGreatDoor
set_option maxRecDepth 100000
def le :Nat→Int→List Int
 | 0,_=> []
 | k+1,n=>n % 256::le k (n / 256)
def unle :List Int→Int
 | []=>0
 | z::zs=>z+256 * unle zs
theorem le_len (k:Nat) (n:Int):(le k n).length=k:=by
 induction k generalizing n with
 | zero=>rfl
 | succ k ih=>simp [le,ih]
theorem le_bd (k:Nat) (n:Int): ∀z∈le k n,0≤z∧z < 256:=by
 induction k generalizing n with
 | zero=>intro z hz;cases hz
 | succ k ih=>
   intro z hz
   rcases List.mem_cons.1 hz with rfl | h
   · omega
   · exact ih _ z h
theorem unle_le (k:Nat) (n:Int) (h0:0≤n) (h1:n < 256 ^ k):unle (le k n)=n:=by
 induction k generalizing n with
 | zero=>simp at h1;simp [le,unle];omega
 | succ k ih=>
   rw [Int.pow_succ]at h1
   simp only [le,unle]
   rw [ih (n / 256) (by omega) (by omega)]
   omega
theorem unle_bd (zs:List Int) (hz: ∀z∈zs,0≤z∧z < 256):0≤unle zs∧unle zs < 256 ^ zs.length:=by
 induction zs with
 | nil=>simp [unle]
 | cons z zs ih=>
   have h:=ih (fun y hy=>hz y (List.mem_cons_of_mem _ hy))
   have h0:=hz z List.mem_cons_self
   simp only [unle,List.length_cons,Int.pow_succ]
   omega
theorem le_unle (zs:List Int) (hz: ∀z∈zs,0≤z∧z < 256):le zs.length (unle zs)=zs:=by
 induction zs with
 | nil=>rfl
 | cons z zs ih=>
   have h:=ih (fun y hy=>hz y (List.mem_cons_of_mem _ hy))
   have h0:=hz z List.mem_cons_self
   simp only [List.length_cons,le,unle]
   rw [show (z+256 * unle zs) / 256=unle zs by omega,h,show(z+256 * unle zs) % 256=z by omega]
def top (w:Int):Int:=if w=1 then 255 else if w=2 then 65535 else if w=4 then 4294967295 else if w=6 then 1099511627776 else -1
theorem top_cases (w:Int):(w=1∧top w=255)∨(w=2∧top w=65535)∨(w=4∧top w=4294967295)∨(w=6∧top w=1099511627776)∨(w≠1∧w≠2∧w≠4∧w≠6∧top w= -1):=by
 unfold top
 repeat' split
 all_goals omega
def inTop (w:Int) (ns:List Int):Bool:=ns.all fun n=>decide (0≤n∧n≤top w)
def fieldsB (w:Int) (ns:List Int):Option (List Int):=
 if top w < 0 then none else if inTop w ns then some (ns.flatMap (le w.toNat))else none
def putO :Option (List Int)→Option (List Int)→Option (List Int)
 | some x,some y=>some (x++y)
 | _,_=>none
theorem putO_none (s:Option (List Int)):putO s none=none:=by cases s<;>rfl
theorem none_putO (s:Option (List Int)):putO none s=none:=by cases s<;>rfl
structure Ent where
 index:Int
 term:Int
 kind:Int
 body:List Int
def rightB (e:Ent):Bool:=decide (1≤e.kind∧e.kind≤3∧1≤e.index∧e.index≤1099511627776∧0≤e.term∧e.term≤1099511627776∧e.body.length≤200)
theorem fieldsB_one (w n:Int) (ht:0≤top w) (h0:0≤n) (h1:n≤top w):fieldsB w [n]=some (le w.toNat n):=by
 unfold fieldsB inTop;rw [if_neg (by omega)];simp [h0,h1]
theorem fieldsB_bad (w:Int) (ns:List Int) (ht:top w < 0):fieldsB w ns=none:=by unfold fieldsB;rw [if_pos ht]
theorem fieldsB_out (w:Int) (ns:List Int) (n:Int) (hm:n∈ns) (h:n < 0∨top w < n):fieldsB w ns=none:=by
 unfold fieldsB
 split
 · rfl
 · rw [if_neg]
   unfold inTop
   intro hall
   have:=List.all_eq_true.1 hall n hm
   simp at this;omega
theorem fieldsB_ok (w:Int) (ns:List Int) (ht:0≤top w) (h: ∀n∈ns,0≤n∧n≤top w):fieldsB w ns=some (ns.flatMap (le w.toNat)):=by
 unfold fieldsB
 rw [if_neg (by omega),if_pos]
 unfold inTop
 exact List.all_eq_true.2 fun n hn=>by simpa using h n hn
theorem flat_len (k:Nat) (ns:List Int):(ns.flatMap (le k)).length=k * ns.length:=by
 induction ns with
 | nil=>simp
 | cons n ns ih=>rw [List.flatMap_cons,List.length_append,ih,le_len,List.length_cons,Nat.mul_add,Nat.mul_one,Nat.add_comm]
theorem flat_bd (k:Nat) (ns:List Int): ∀z∈ns.flatMap (le k),0≤z∧z < 256:=by
 intro z hz
 obtain⟨n,_,h⟩:=List.mem_flatMap.1 hz
 exact le_bd k n z h
inductive RSt where
 | ok (at_:Nat)
 | bad (pos:Nat) (long:Bool)
def isOk :RSt→Bool
 | .ok _=>true
 | .bad _ _=>false
def fieldR (bs:List Int) (w:Int):RSt→Int × RSt
 | .bad p l=>(0,.bad p l)
 | .ok k=>
   if top w < 0∨w > (bs.length:Int) - k then(0,.bad k false)
   else if unle ((bs.drop k).take w.toNat) > top w then(0,.bad k false)
   else(unle ((bs.drop k).take w.toNat),.ok (k+w.toNat))
def leftR (bs:List Int):RSt→Int
 | .ok k=>(bs.length:Int) - k
 | .bad _ _=>0
open Go.RowKit
def Chain (w:World) (S:Nat→Prop):Option Addr→List (List Int)→Prop
 | p,[]=>p=none
 | p,zs::rest=> ∃(g:Nat) (ahead:Option Addr) (x cap:Nat),p=some ⟨g,0,none⟩∧S g∧S x∧zs≠ []∧zs.length≤cap∧cap≤9223372036854775807∧
  BlockIs w g 239 #[.pointer ahead,.slice (some ⟨x,0,none⟩) zs.length cap]∧BytesAt w (some ⟨x,0,none⟩) zs∧Chain w S ahead rest
theorem Chain.mono {w:World} {S S':Nat→Prop} (hS: ∀k,S k→S' k): ∀ {p:Option Addr} {l:List (List Int)},Chain w S p l→Chain w S' p l
 | _,[],h=>h
 | _,_::_,⟨g,a,x,cap,h1,h2,h3,h4,h5,h6,h7,h8,h9⟩=>⟨g,a,x,cap,h1,hS _ h2,hS _ h3,h4,h5,h6,h7,h8,Chain.mono hS h9⟩
theorem Chain.kept {w w':World} {S:Nat→Prop} {row:Option Nat} (hg:w.grownBy w' row) (hS: ∀k,S k→some k≠row): ∀ {p:Option Addr} {l:List (List Int)},Chain w S p l→Chain w' S p l
 | _,[],h=>h
 | _,_::_,⟨g,a,x,cap,h1,h2,h3,h4,h5,h6,h7,h8,h9⟩=>⟨g,a,x,cap,h1,h2,h3,h4,h5,h6,h7.kept hg (hS _ h2),h8.far hg (fun a e=>by cases e;exact hS _ h3),Chain.kept hg hS h9⟩
def WrCells (w:World) (S:Nat→Prop) (g:Nat):Option (List Int)→Prop
 | none=> ∃p,BlockIs w g 197 #[.pointer p,.bool true]
 | some bs=> ∃p l,BlockIs w g 197 #[.pointer p,.bool false]∧Chain w S p l∧bs=l.reverse.flatten
structure WrAt (w:World) (S:Nat→Prop) (g:Nat) (s:Option (List Int)):Prop where
 foot: ∀k,S k→k≠g∧k < w.heap.size
 cells:WrCells w S g s
theorem WrAt.isBlock {w:World} {S:Nat→Prop} {g:Nat} {s:Option (List Int)} (h:WrAt w S g s): ∃p,BlockIs w g 197 #[.pointer p,.bool s.isNone]:=by
 cases s with
 | none=>exact h.cells
 | some bs=>obtain⟨p,l,h,_⟩:=h.cells;exact⟨p,h⟩
theorem WrAt.lt {w:World} {S:Nat→Prop} {g:Nat} {s:Option (List Int)} (h:WrAt w S g s):g < w.heap.size:=by
 obtain⟨p,h⟩:=h.isBlock;exact h.lt
theorem WrAt.mono {w:World} {S S':Nat→Prop} {g:Nat} {s:Option (List Int)} (h:WrAt w S g s) (hS: ∀k,S k→S' k) (hf: ∀k,S' k→k≠g∧k < w.heap.size):WrAt w S' g s:=
 ⟨hf,by
  cases s with
  | none=>exact h.cells
  | some bs=>obtain⟨p,l,h1,h2,h3⟩:=h.cells;exact⟨p,l,h1,h2.mono hS,h3⟩⟩
theorem WrAt.kept {w w':World} {S:Nat→Prop} {g:Nat} {s:Option (List Int)} {row:Option Nat} (h:WrAt w S g s) (hg:w.grownBy w' row) (h0:some g≠row) (hS: ∀k,S k→some k≠row):WrAt w' S g s:=
 ⟨fun k hk=>⟨(h.foot k hk).1,Nat.lt_of_lt_of_le (h.foot k hk).2 hg.size⟩,by
  cases s with
  | none=>obtain⟨p,h⟩:=h.cells;exact⟨p,h.kept hg h0⟩
  | some bs=>obtain⟨p,l,h1,h2,h3⟩:=h.cells;exact⟨p,l,h1.kept hg h0,h2.kept hg hS,h3⟩⟩
theorem WrAt.below {w w':World} {S:Nat→Prop} {g:Nat} {s:Option (List Int)} (h:WrAt w S g s) (hb:Below w.heap.size w w'):WrAt w' S g s:=
 h.kept (grown_below hb none) (by simp) (fun _ _=>by simp)
theorem grow_foot {S:Nat→Prop} {w w':World} {g:Nat} (hf: ∀k,S k→k≠g∧k < w.heap.size) (hg:g < w.heap.size) (hs:w.heap.size≤w'.heap.size): ∀k,grow S w w' k→k≠g∧k < w'.heap.size:=by
 rintro k (h | h)
 · exact⟨(hf k h).1,by have:=(hf k h).2;omega⟩
 · exact⟨by omega,h.2⟩
structure Put (w:World) (S:Nat→Prop) (g:Nat) (s:Option (List Int)) (w':World):Prop where
 wr:WrAt w' (grow S w w') g s
 fr:w.grownBy w' (some g)
theorem Put.after {w w1 w2:World} {S:Nat→Prop} {g:Nat} {s:Option (List Int)} (hb:Below w.heap.size w w1) (k:Put w1 S g s w2) (hf: ∀k,S k→k≠g∧k < w.heap.size) (hg:g < w.heap.size):Put w S g s w2:=
 ⟨k.wr.mono (by
  rintro k (h | h)
  · exact .inl h
  · exact .inr ⟨by have:=hb.size;omega,h.2⟩) (grow_foot hf hg (Nat.le_trans hb.size k.fr.size)),(grown_below hb _).trans k.fr⟩
theorem Put.same {w:World} {S:Nat→Prop} {g:Nat} {s:Option (List Int)} (h:WrAt w S g s):Put w S g s w:=
 ⟨h.mono (fun _ h=> .inl h) (by
  rintro k (hk | hk)
  · exact h.foot k hk
  · omega),World.grownBy.refl _ _⟩
theorem greatest_any (n:Int) (w:World):
 Calls Tryz.prog 143 #[.int .i64 n] w fun e w'=>e= .returned (.int .i64 (top n))∧w=w':=by
 rcases top_cases n with⟨rfl,h⟩ | ⟨rfl,h⟩ | ⟨rfl,h⟩ | ⟨rfl,h⟩ | ⟨h1,h2,h4,h6,h⟩
 all_goals have H:=qh h;clear h
 · go_enter Tryz.func143,Tryz.ntmps143
   go_wp2
   go_ret
   exact⟨ret_int H.out.symm,rfl⟩
 · go_enter Tryz.func143,Tryz.ntmps143
   go_wp2
   go_ret
   exact⟨ret_int H.out.symm,rfl⟩
 · go_enter Tryz.func143,Tryz.ntmps143
   go_wp2
   go_ret
   exact⟨ret_int H.out.symm,rfl⟩
 · go_enter Tryz.func143,Tryz.ntmps143
   go_wp2
   go_ret
   exact⟨ret_int H.out.symm,rfl⟩
 · have b1:(n==1)=false:=by simpa using h1
   have b2:(n==2)=false:=by simpa using h2
   have b4:(n==4)=false:=by simpa using h4
   have b6:(n==6)=false:=by simpa using h6
   clear h1 h2 h4 h6
   go_enter Tryz.func143,Tryz.ntmps143
   go_wp2
   go_ret
   exact⟨ret_int H.out.symm,rfl⟩
theorem whole_is (w:World) (g:Nat) (p:Option Addr) (b:Bool) (h:BlockIs w g 197 #[.pointer p,.bool b]):
 Calls Tryz.prog 151 #[.pointer (some ⟨g,0,none⟩)] w fun e w'=>e= .returned (.bool (!b))∧w=w':=by
 have c1:w.cell? ⟨g,1,none⟩=some (.bool b):=h.cell 1
 go_enter Tryz.func151,Tryz.ntmps151
 go_wp2
 go_ret
 exact⟨rfl,rfl⟩
open Go.RowKit
theorem spoil_any (w:World) (S:Nat→Prop) (g:Nat) (s:Option (List Int)) (h:WrAt w S g s):
 Calls Tryz.prog 152 #[.pointer (some ⟨g,0,none⟩)] w fun e w'=>e= .returned (.tuple #[])∧Put w S g none w':=by
 obtain⟨p,hb⟩:=h.isBlock
 generalize s.isNone=b at hb
 have c0:w.cell? ⟨g,0,none⟩=some (.pointer p):=hb.cell 0
 have c1:w.cell? ⟨g,1,none⟩=some (.bool b):=hb.cell 1
 have f0:=hb.free 0
 have f1:=hb.free 1
 have hg:w.grownBy ((w.setCell ⟨g,0,none⟩ (.pointer none)).setCell ⟨g,1,none⟩ (.bool true)) (some g):=grown_at (grown_at (World.grownBy.refl _ _) _ _) _ _
 have hP:Put w S g none ((w.setCell ⟨g,0,none⟩ (.pointer none)).setCell ⟨g,1,none⟩ (.bool true)):=⟨⟨grow_foot h.foot h.lt hg.size,⟨none,(hb.set1 0 (.pointer none)).set1 1 (.bool true)⟩⟩,hg⟩
 clear hb h hg
 go_enter Tryz.func152,Tryz.ntmps152
 go_wp2
 go_end0
 exact⟨rfl,hP⟩
theorem add_some (w:World) (S:Nat→Prop) (g:Nat) (bs zs:List Int) (x cap:Nat) (h:WrAt w S g (some bs)) (hz:BytesAt w (some ⟨x,0,none⟩) zs) (hn:zs≠ []) (hxg:x≠g) (hxl:x < w.heap.size)
 (hc:zs.length≤cap) (hm:cap≤9223372036854775807):
 Calls Tryz.prog 154 #[.pointer (some ⟨g,0,none⟩),.slice (some ⟨x,0,none⟩) zs.length cap] w fun e w'=>e= .returned (.tuple #[])∧Put w (fun k=>S k∨k=x) g (some (bs++zs)) w':=by
 obtain⟨p,l,hb,hch,hbs⟩:=h.cells
 have hfoot:=qh h.foot
 have c0:w.cell? ⟨g,0,none⟩=some (.pointer p):=hb.cell 0
 have f0:=hb.free 0
 have hA:=fun o=>(World.cell?_alloc_lt w o ⟨g,0,none⟩ hb.lt).trans c0
 have fA:=fun o=>(World.frozen?_alloc_old w o ⟨g,0,none⟩ (Nat.ne_of_lt hb.lt)).trans f0
 have hpos:0 < zs.length:=List.length_pos_iff.2 hn
 have Hb:=qh hb
 have Hbs:=qh hbs
 clear hb hbs h
 go_enter Tryz.func154,Tryz.ntmps154
 go_wp2
 go_end0
 generalize hW:w.alloc (.cells #[.pointer p,.slice (some ⟨x,0,none⟩) zs.length cap] 239)=W
 have hsz:W.heap.size=w.heap.size+1:=by rw [← hW];simp
 have hlt:=Hb.out.lt
 have g1:w.grownBy W none:=by rw [← hW];exact World.grownBy_alloc _ _ _
 have g2:W.grownBy (W.setCell ⟨g,0,none⟩ (.pointer (some ⟨w.heap.size,0,none⟩))) (some g):=grown_at (World.grownBy.refl _ _) _ _
 have b1:BlockIs W w.heap.size 239 #[.pointer p,.slice (some ⟨x,0,none⟩) zs.length cap]:=by rw [← hW];exact BlockIs.made _ _ _
 have hch2:Chain (W.setCell ⟨g,0,none⟩ (.pointer (some ⟨w.heap.size,0,none⟩))) S p l:=(hch.kept g1 (fun _ _=>by simp)).kept g2 (fun k hk e=>(hfoot.out k hk).1 (by simpa using e))
 have hxz:BytesAt (W.setCell ⟨g,0,none⟩ (.pointer (some ⟨w.heap.size,0,none⟩))) (some ⟨x,0,none⟩) zs:=(hz.far g1 (fun _ _=>by simp)).far g2 (fun a e he=>by cases e;exact hxg (by simpa using he))
 have hfr:w.grownBy (W.setCell ⟨g,0,none⟩ (.pointer (some ⟨w.heap.size,0,none⟩))) (some g):=(g1.but _).trans g2
 have hfoot2: ∀k,(S k∨k=x)→k≠g∧k < w.heap.size:=by
  rintro k (hk | rfl)
  · exact hfoot.out k hk
  · exact⟨hxg,hxl⟩
 refine⟨rfl,⟨⟨grow_foot hfoot2 hlt hfr.size,⟨some ⟨w.heap.size,0,none⟩,zs::l,((Hb.out.kept g1 (by simp)).set1 0 _),⟨w.heap.size,p,x,cap,rfl,?_,?_,hn,hc,hm,?_,hxz,?_⟩,?_⟩⟩,hfr⟩⟩
 · exact .inr ⟨Nat.le_refl _,by simp [World.setCell,hsz]⟩
 · exact .inl (.inr rfl)
 · exact b1.kept g2 (by simp;omega)
 · exact hch2.mono (fun k hk=> .inl (.inl hk))
 · rw [Hbs.out];simp
theorem add_none (w:World) (v:Value) (X:Option Addr) (cap:Nat) (q:Value) (hv:v= .slice X 0 cap):
 Calls Tryz.prog 154 #[q,v] w fun e w'=>e= .returned (.tuple #[])∧w=w':=by
 subst hv
 go_enter Tryz.func154,Tryz.ntmps154
 go_wp2
 go_end0
 exact⟨rfl,rfl⟩
open Go.RowKit
def BytesIs (w:World) (g:Nat) (xs:List Int):Prop:=BlockIs w g 5 (u8s xs).toArray
theorem BytesIs.set1 {w:World} {g:Nat} {xs:List Int} (h:BytesIs w g xs) (i:Nat) (z:Int):BytesIs (w.setCell ⟨g,i,none⟩ (.int .u8 z)) g (xs.set i z):=by
 have:=BlockIs.set1 h i (.int .u8 z)
 unfold BytesIs
 rw [← u8s_set, ← List.setIfInBounds_toArray]
 exact this
theorem BytesIs.cell {w:World} {g:Nat} {xs:List Int} (h:BytesIs w g xs) (i:Nat) (z:Int) (hi:xs[i]? =some z):w.cell? ⟨g,i,none⟩=some (.int .u8 z):=by
 rw [BlockIs.cell h i,List.getElem?_toArray];unfold u8s;rw [List.getElem?_map,hi];rfl
theorem BytesIs.reads {w:World} {g:Nat} {xs:List Int} (h:BytesIs w g xs) (hx: ∀z∈xs,0≤z∧z < 256):BytesAt w (some ⟨g,0,none⟩) xs:=
 bytesAt_cells hx fun i hi=>by
  rw [Nat.zero_add]
  exact h.cell i _ (by rw [List.getD_eq_getElem?_getD,List.getElem?_eq_getElem hi];rfl)
theorem at_mid (D R:List Int) (z:Int) (i:Nat) (hi:R[i]? =some z):(D++R)[D.length+i]? =some z:=by
 rw [List.getElem?_append_right (Nat.le_add_right _ _),Nat.add_sub_cancel_left,hi]
theorem le_one (n:Int):le 1 n= [n % 256]:=rfl
theorem le_two (n:Int):le 2 n= [n % 256,n / 256 % 256]:=rfl
theorem le_four (n:Int):le 4 n= [n % 256,n / 256 % 256,n / 65536 % 256,n / 16777216 % 256]:=by
 simp only [le]
 rw [show n / 256 / 256=n / 65536 by omega,show n / 65536 / 256=n / 16777216 by omega]
theorem le_six (n:Int) (_h0:0≤n) (_h1:n≤1099511627776):le 6 n= [n % 256,n / 256 % 256,n / 65536 % 256,n / 16777216 % 256,n / 4294967296 % 256,n / 1099511627776]:=by
 simp only [le]
 rw [show n / 256 / 256=n / 65536 by omega,show n / 65536 / 256=n / 16777216 by omega,show n / 16777216 / 256=n / 4294967296 by omega,show n / 4294967296 / 256=n / 1099511627776 by omega,show n / 1099511627776 % 256=n / 1099511627776 by omega]
structure Laid (w:World) (g:Nat) (xs:List Int) (w':World):Prop where
 bytes:BytesIs w' g xs
 fr:w.grownBy w' (some g)
 sz:w'.heap.size=w.heap.size
theorem Laid.refl {w:World} {g:Nat} {xs:List Int} (h:BytesIs w g xs):Laid w g xs w:=⟨h,World.grownBy.refl _ _,rfl⟩
theorem Laid.set1 {w w':World} {g:Nat} {xs:List Int} (h:Laid w g xs w') (i:Nat) (z:Int):Laid w g (xs.set i z) (w'.setCell ⟨g,i,none⟩ (.int .u8 z)):=
 ⟨h.bytes.set1 i z,grown_at h.fr i _,by rw [← h.sz];simp [World.setCell]⟩
theorem Laid.eq {w w':World} {g:Nat} {xs ys:List Int} (h:Laid w g xs w') (e:xs=ys):Laid w g ys w':=e ▸ h
theorem lay_six (w:World) (g off cap:Nat) (n:Int) (D R:List Int) (z0 z1 z2 z3 z4 z5:Int) (h:BytesIs w g (D++z0::z1::z2::z3::z4::z5::R)) (hd:D.length=off) (h0:0≤n) (h1:n≤1099511627776) (_hcap:6≤cap) (hoff:off+6≤9223372036854775807):
 Calls Tryz.prog 153 #[.slice (some ⟨g,off,none⟩) 6 cap,.int .i64 n] w fun e w'=>e= .returned (.tuple #[])∧Laid w g (D++le 6 n++R) w':=by
 subst hd
 have c0:=h.cell (D.length+0) z0 (at_mid D _ z0 0 rfl)
 have c1:=h.cell (D.length+1) z1 (at_mid D _ z1 1 rfl)
 have c2:=h.cell (D.length+2) z2 (at_mid D _ z2 2 rfl)
 have c3:=h.cell (D.length+3) z3 (at_mid D _ z3 3 rfl)
 have c4:=h.cell (D.length+4) z4 (at_mid D _ z4 4 rfl)
 have c5:=h.cell (D.length+5) z5 (at_mid D _ z5 5 rfl)
 rw [Nat.add_zero]at c0
 have hf: ∀i,w.frozen? ⟨g,i,none⟩=false:=fun i=>BlockIs.free h i
 have hL:=((((((Laid.refl h).set1 (D.length+5) (n / 1099511627776)).set1 (D.length+4) (n / 4294967296 % 256)).set1 (D.length+3) (n / 16777216 % 256)).set1 (D.length+2) (n / 65536 % 256)).set1 (D.length+1) (n / 256 % 256)).set1 D.length (n % 256)
 have hE:=hL.eq (ys:=D++le 6 n++R) (by rw [le_six n h0 h1];simp)
 clear hL h
 generalize D.length=off at *
 go_enter Tryz.func153,Tryz.ntmps153
 go_wp2
 go_end0
 exact⟨rfl,hE⟩
theorem lay_four (w:World) (g off cap:Nat) (n:Int) (D R:List Int) (z0 z1 z2 z3:Int) (h:BytesIs w g (D++z0::z1::z2::z3::R)) (hd:D.length=off) (h0:0≤n) (h1:n≤4294967295) (_hcap:4≤cap) (hoff:off+4≤9223372036854775807):
 Calls Tryz.prog 153 #[.slice (some ⟨g,off,none⟩) 4 cap,.int .i64 n] w fun e w'=>e= .returned (.tuple #[])∧Laid w g (D++le 4 n++R) w':=by
 subst hd
 have c0:=h.cell (D.length+0) z0 (at_mid D _ z0 0 rfl)
 have c1:=h.cell (D.length+1) z1 (at_mid D _ z1 1 rfl)
 have c2:=h.cell (D.length+2) z2 (at_mid D _ z2 2 rfl)
 have c3:=h.cell (D.length+3) z3 (at_mid D _ z3 3 rfl)
 rw [Nat.add_zero]at c0
 have hf: ∀i,w.frozen? ⟨g,i,none⟩=false:=fun i=>BlockIs.free h i
 have hL:=((((Laid.refl h).set1 (D.length+3) (n / 16777216)).set1 (D.length+2) (n / 65536 % 256)).set1 (D.length+1) (n / 256 % 256)).set1 D.length (n % 256)
 have hE:=hL.eq (ys:=D++le 4 n++R) (by rw [le_four n,show n / 16777216 % 256=n / 16777216 by omega];simp)
 clear hL h
 generalize D.length=off at *
 go_enter Tryz.func153,Tryz.ntmps153
 go_wp2
 go_end0
 exact⟨rfl,hE⟩
theorem lay_two (w:World) (g off cap:Nat) (n:Int) (D R:List Int) (z0 z1:Int) (h:BytesIs w g (D++z0::z1::R)) (hd:D.length=off) (h0:0≤n) (h1:n≤65535) (_hcap:2≤cap) (hoff:off+2≤9223372036854775807):
 Calls Tryz.prog 153 #[.slice (some ⟨g,off,none⟩) 2 cap,.int .i64 n] w fun e w'=>e= .returned (.tuple #[])∧Laid w g (D++le 2 n++R) w':=by
 subst hd
 have c0:=h.cell (D.length+0) z0 (at_mid D _ z0 0 rfl)
 have c1:=h.cell (D.length+1) z1 (at_mid D _ z1 1 rfl)
 rw [Nat.add_zero]at c0
 have hf: ∀i,w.frozen? ⟨g,i,none⟩=false:=fun i=>BlockIs.free h i
 have hL:=((Laid.refl h).set1 (D.length+1) (n / 256)).set1 D.length (n % 256)
 have hE:=hL.eq (ys:=D++le 2 n++R) (by rw [le_two n,show n / 256 % 256=n / 256 by omega];simp)
 clear hL h
 generalize D.length=off at *
 go_enter Tryz.func153,Tryz.ntmps153
 go_wp2
 go_end0
 exact⟨rfl,hE⟩
theorem lay_one (w:World) (g off cap:Nat) (n:Int) (D R:List Int) (z0:Int) (h:BytesIs w g (D++z0::R)) (hd:D.length=off) (h0:0≤n) (h1:n≤255) (_hcap:1≤cap) (hoff:off+1≤9223372036854775807):
 Calls Tryz.prog 153 #[.slice (some ⟨g,off,none⟩) 1 cap,.int .i64 n] w fun e w'=>e= .returned (.tuple #[])∧Laid w g (D++le 1 n++R) w':=by
 subst hd
 have c0:=h.cell (D.length+0) z0 (at_mid D _ z0 0 rfl)
 rw [Nat.add_zero]at c0
 have hf: ∀i,w.frozen? ⟨g,i,none⟩=false:=fun i=>BlockIs.free h i
 have hL:=(Laid.refl h).set1 D.length n
 have hE:=hL.eq (ys:=D++le 1 n++R) (by rw [le_one n,show n % 256=n by omega];simp)
 clear hL h
 generalize D.length=off at *
 go_enter Tryz.func153,Tryz.ntmps153
 go_wp2
 go_end0
 exact⟨rfl,hE⟩
theorem lay_any (w:World) (g off cap k:Nat) (n:Int) (D Z R:List Int) (h:BytesIs w g (D++Z++R)) (hd:D.length=off) (hk:Z.length=k) (ht:0≤top k) (h0:0≤n) (h1:n≤top k) (hcap:k≤cap) (hoff:off+k≤9223372036854775807):
 Calls Tryz.prog 153 #[.slice (some ⟨g,off,none⟩) k cap,.int .i64 n] w fun e w'=>e= .returned (.tuple #[])∧Laid w g (D++le k n++R) w':=by
 rcases top_cases (k:Int)with⟨e,t⟩ | ⟨e,t⟩ | ⟨e,t⟩ | ⟨e,t⟩ | ⟨_,_,_,_,t⟩
 · obtain rfl:k=1:=by omega
   match Z,hk with
   | [a],_=>exact lay_one w g off cap n D R a (by simpa using h) hd h0 (by omega) hcap hoff
 · obtain rfl:k=2:=by omega
   match Z,hk with
   | [a,b],_=>exact lay_two w g off cap n D R a b (by simpa using h) hd h0 (by omega) hcap hoff
 · obtain rfl:k=4:=by omega
   match Z,hk with
   | [a,b,c,d],_=>exact lay_four w g off cap n D R a b c d (by simpa using h) hd h0 (by omega) hcap hoff
 · obtain rfl:k=6:=by omega
   match Z,hk with
   | [a,b,c,d,e',f],_=>exact lay_six w g off cap n D R a b c d e' f (by simpa using h) hd h0 (by omega) hcap hoff
 · omega
end Go.Proofs.YtpaikolnampcfaaGreatDoor
