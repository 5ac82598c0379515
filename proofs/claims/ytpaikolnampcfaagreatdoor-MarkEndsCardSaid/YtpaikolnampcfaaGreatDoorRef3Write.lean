/- The document's own disk (limpetref03), in memory: each kind of block has a type of its own, so none is another. -/
import Derived.Test.YtpaikolnampcfaaGreatDoorDevStore
import Derived.Laws.AppendOwnNone
import Derived.Test.YtpaikolnampcfaaGreatDoorRefLeft
import Derived.Test.YtpaikolnampcfaaGreatDoorDevWake
import Derived.Deep.Cut
import Derived.Maps.AppendAt
namespace Go.Proofs.YtpaikolnampcfaaGreatDoor
set_option maxRecDepth 100000
set_option maxHeartbeats 2000000
open Go.RowKit
theorem own_tags {w:World} {B1 B2:Nat} {e1 e2:TypeId} {s1 s2 n1 n2:Nat} {v1 v2:Value} {x1 x2:List Value} (h1:w.ownsRow B1 e1 s1 v1 n1 x1) (h2:w.ownsRow B2 e2 s2 v2 n2 x2) (he:e1≠e2):v1.ownBlock=none∨v1.ownBlock≠v2.ownBlock:=by
 rcases h1.2 with⟨rfl,_⟩ | ⟨g1,c1,u1,rfl,_,hg1,_⟩
 · exact .inl rfl
 · right
   rcases h2.2 with⟨rfl,_⟩ | ⟨g2,c2,u2,rfl,_,hg2,_⟩
   · intro e;cases e
   · intro e
     have e:some g1=some g2:=e
     injection e with e
     subst e
     rw [hg1]at hg2
     injection hg2 with hg2
     injection hg2 with _ hg2
     exact he hg2
theorem own_tag {w:World} {B g:Nat} {e t:TypeId} {s n:Nat} {v:Value} {x:List Value} {cs:Array Value} (h1:w.ownsRow B e s v n x) (h2:BlockIs w g t cs) (he:e≠t):v.ownBlock≠some g:=by
 rcases h1.2 with⟨rfl,_⟩ | ⟨g1,c1,u1,rfl,_,hg1,_⟩
 · intro e;cases e
 · intro e
   have e:some g1=some g:=e
   injection e with e
   subst e
   unfold BlockIs at h2
   rw [hg1]at h2
   injection h2 with h2
   injection h2 with _ h2
   exact he h2
structure RB where
 g:Nat
 cap:Nat
 bs:List Int
def RB.v (b:RB):Value:= .slice (some ⟨b.g,0,none⟩) 256 b.cap
instance : Inhabited RB:=⟨⟨0,0,[]⟩⟩
theorem own_cur {w:World} {g cap m:Nat} {xs:List Int} (h:w.ownsRow 0 5 1 (.slice (some ⟨g,0,none⟩) m cap) m (u8s xs)): ∃cur:List Value,w.heap[g]? =some (.cells cur.toArray 5 (0,0))∧cur.length=cap∧m≤cap∧cap≤maxLen∧cur.take m=u8s xs:=by
 rcases h.2 with⟨e,_⟩ | ⟨g',cap',cur,e,_,hg,h1,h2,h3,h4⟩
 · cases e
 · have e2:some (⟨g,0,none⟩:Addr)=some ⟨g',0,none⟩∧m=m∧cap=cap':=by injection e with a b c;exact⟨a,rfl,c⟩
   obtain⟨e1,_,rfl⟩:=e2
   have e1:g=g':=by injection e1 with e1;injection e1
   subst e1
   exact⟨cur.toList,by simpa using hg,by rw [Array.length_toList,h3,Nat.mul_one],h1,h2,by rw [Nat.mul_one]at h4;exact h4⟩
theorem own_over {w':World} {g cap m:Nat} {xs ys:List Int} {cur:List Value} (hx:xs.length=m) (hy:ys.length≤m) (h1:cur.length=cap) (h2:m≤cap) (h3:cap≤maxLen) (h4:cur.take m=u8s xs) (hg:w'.heap[g]? =some (.cells (splice cur 0 (u8s ys)).toArray 5 (0,0))):
 w'.ownsRow 0 5 1 (.slice (some ⟨g,0,none⟩) m cap) m (u8s (ys++xs.drop ys.length)):=by
 refine⟨by rw [u8s_len,List.length_append,List.length_drop];omega,.inr ⟨g,cap,_,rfl,Nat.zero_le _,hg,h2,h3,?_,?_⟩⟩
 · rw [List.size_toArray,length_splice _ _ _ (by rw [u8s_len];omega),h1,Nat.mul_one]
 · unfold splice
   rw [Nat.mul_one,List.take_zero,List.nil_append,Nat.zero_add,u8s_len, ← u8s_app,List.take_append,u8s_len,List.take_of_length_le (by rw [u8s_len];exact hy)]
   congr 1
   rw [List.take_drop,show ys.length+(m - ys.length)=m by omega,h4]
   unfold u8s
   rw [List.map_drop]
structure RB.ok (w:World) (T:Nat→Prop) (b:RB):Prop where
 own:w.ownsRow 0 5 1 b.v 256 (u8s b.bs)
 bd:BlkOk b.bs
 mem:T b.g
structure RC where
 b:RB
 hurt:Bool
instance : Inhabited RC:=⟨⟨default,false⟩⟩
structure RL where
 n:Nat
 b:RB
instance : Inhabited RL:=⟨⟨0,default⟩⟩
def RC.cells (c:RC):List Value:= [c.b.v,.bool c.hurt]
def RL.cells (l:RL):List Value:= [.int .i64 (l.n:Int),l.b.v]
def RC.m (c:RC):List Int × Bool:=(c.b.bs,c.hurt)
def RL.m (l:RL):Nat × List Int:=(l.n,l.b.bs)
theorem RB.ok.keep {w w':World} {T T':Nat→Prop} {b:RB} (h:b.ok w T) (hk:w'.heap[b.g]? =w.heap[b.g]?) (hT:T' b.g):b.ok w' T':=
 ⟨own_keep h.own (fun g e=>by
  have e:some b.g=some g:=e
  injection e with e
  rw [← e];exact hk),h.bd,hT⟩
theorem RB.ok.bytes {w:World} {T:Nat→Prop} {b:RB} (h:b.ok w T):BytesAt w (some ⟨b.g,0,none⟩) b.bs:=own_bytes h.own h.bd.2
theorem RB.ok.cap_le {w:World} {T:Nat→Prop} {b:RB} (h:b.ok w T):256≤b.cap∧b.cap≤maxLen:=by
 rcases h.own.2 with⟨e,_⟩ | ⟨g,c,u,e,_,_,h1,h2,_⟩
 · cases e
 · have e:Value.slice (some ⟨b.g,0,none⟩) 256 b.cap= .slice (some ⟨g,0,none⟩) 256 c:=e
   injection e with _ _ e
   subst e
   exact⟨h1,h2⟩
structure RefR (w:World) (T:Nat→Prop) (h:Nat) (cv wv:Value) (C:List RC) (L:List RL) (ar tu cr:Int) (dn:Bool):Prop where
 foot: ∀k,T k→k < w.heap.size
 self:T h
 blk:BlockIs w h 54 #[cv,wv,.int .i64 ar,.int .i64 tu,.int .i64 cr,.bool dn]
 cown:w.ownsRow 0 109 2 cv C.length (C.flatMap RC.cells)
 wown:w.ownsRow 0 150 2 wv L.length (L.flatMap RL.cells)
 cm: ∀b,cv.ownBlock=some b→T b
 wm: ∀b,wv.ownBlock=some b→T b
 cb: ∀c∈C,c.b.ok w T
 wb: ∀l∈L,l.n < C.length∧l.b.ok w T
 many:C.length≤4096
theorem rc_len (c:RC):(RC.cells c).length=2:=rfl
theorem rl_len (l:RL):(RL.cells l).length=2:=rfl
section
variable {w w' : World} {T T' : Nat → Prop} {h : Nat} {cv wv : Value} {C : List RC} {L : List RL} {ar tu cr : Int} {dn : Bool}
theorem RefR.lt (k:RefR w T h cv wv C L ar tu cr dn):h < w.heap.size:=k.foot h k.self
theorem RefR.keep (k:RefR w T h cv wv C L ar tu cr dn) (hs:w.heap.size≤w'.heap.size) (hk: ∀b,T b→w'.heap[b]? =w.heap[b]?):RefR w' T h cv wv C L ar tu cr dn:=
 ⟨fun _ hj=>Nat.lt_of_lt_of_le (k.foot _ hj) hs,k.self,k.blk.keep (hk _ k.self),own_keep k.cown (fun b hb=>hk b (k.cm b hb)),own_keep k.wown (fun b hb=>hk b (k.wm b hb)),k.cm,k.wm,fun c hc=>(k.cb c hc).keep (hk _ (k.cb c hc).mem) (k.cb c hc).mem,fun l hl=>⟨(k.wb l hl).1,(k.wb l hl).2.keep (hk _ (k.wb l hl).2.mem) (k.wb l hl).2.mem⟩,k.many⟩
theorem RefR.below (k:RefR w T h cv wv C L ar tu cr dn) (hb:Below w.heap.size w w'):RefR w' T h cv wv C L ar tu cr dn:=k.keep hb.size (fun b hT=>hb.block b (k.foot b hT))
theorem RefR.drew (k:RefR w T h cv wv C L ar tu cr dn):RefR w.drew T h cv wv C L ar tu cr dn:=k.keep (Nat.le_refl _) (fun _ _=>rfl)
theorem RefR.mono (k:RefR w T h cv wv C L ar tu cr dn) (hT: ∀j,T j→T' j) (hf: ∀j,T' j→j < w.heap.size):RefR w T' h cv wv C L ar tu cr dn:=
 ⟨hf,hT _ k.self,k.blk,k.cown,k.wown,fun b hb=>hT _ (k.cm b hb),fun b hb=>hT _ (k.wm b hb),fun c hc=>(k.cb c hc).keep rfl (hT _ (k.cb c hc).mem),fun l hl=>⟨(k.wb l hl).1,(k.wb l hl).2.keep rfl (hT _ (k.wb l hl).2.mem)⟩,k.many⟩
theorem RefR.cell6 (k:RefR w T h cv wv C L ar tu cr dn):
 w.cell? ⟨h,0,none⟩=some cv∧w.cell? ⟨h,1,none⟩=some wv∧w.cell? ⟨h,2,none⟩=some (.int .i64 ar)∧w.cell? ⟨h,3,none⟩=some (.int .i64 tu)∧w.cell? ⟨h,4,none⟩=some (.int .i64 cr)∧w.cell? ⟨h,5,none⟩=some (.bool dn):=
 ⟨k.blk.cell 0,k.blk.cell 1,k.blk.cell 2,k.blk.cell 3,k.blk.cell 4,k.blk.cell 5⟩
theorem RefR.wmin (k:RefR w T h cv wv C L ar tu cr dn): ∀p∈L.map RL.m,p.1 < C.length∧BlkOk p.2:=fun p hp=>by
 obtain⟨l,hl,rfl⟩:=List.mem_map.1 hp
 exact⟨(k.wb l hl).1,(k.wb l hl).2.bd⟩
theorem RefR.cform (k:RefR w T h cv wv C L ar tu cr dn) (h0:0 < C.length): ∃g cap,cv= .slice (some ⟨g,0,none⟩) C.length cap∧C.length≤cap∧cap≤maxLen:=by
 obtain⟨g,cap,e,_,_,h1,h2⟩:=own_form k.cown h0
 exact⟨g,cap,e,h1,h2⟩
theorem RefR.wform (k:RefR w T h cv wv C L ar tu cr dn) (h0:0 < L.length): ∃g cap,wv= .slice (some ⟨g,0,none⟩) L.length cap∧L.length≤cap∧cap≤maxLen:=by
 obtain⟨g,cap,e,_,_,h1,h2⟩:=own_form k.wown h0
 exact⟨g,cap,e,h1,h2⟩
theorem flat2_at {α:Type} (f:α→List Value) (hf: ∀x,(f x).length=2) {l:List α} {n:Nat} (hn:n < l.length) {i:Nat} (hi:i < 2):(l.flatMap f)[n * 2+i]? =(f l[n])[i]? :=flat_at f 2 (fun x _=>hf x) hn hi
theorem RefR.cat (k:RefR w T h cv wv C L ar tu cr dn) {n:Nat} (hn:n < C.length) {g cap:Nat} (e:cv= .slice (some ⟨g,0,none⟩) C.length cap):w.cell? ⟨g,n * 2,none⟩=some C[n].b.v∧w.cell? ⟨g,n * 2+1,none⟩=some (.bool C[n].hurt):=by
 subst e
 have h0:=k.cown.cellAt (n * 2) (by omega)
 have h1:=k.cown.cellAt (n * 2+1) (by omega)
 have e0:=flat2_at RC.cells rc_len hn (i:=0) (by decide)
 have e1:=flat2_at RC.cells rc_len hn (i:=1) (by decide)
 rw [Nat.add_zero]at e0
 exact⟨h0.trans e0,h1.trans e1⟩
theorem RefR.wat (k:RefR w T h cv wv C L ar tu cr dn) {n:Nat} (hn:n < L.length) {g cap:Nat} (e:wv= .slice (some ⟨g,0,none⟩) L.length cap):w.cell? ⟨g,n * 2,none⟩=some (.int .i64 (L[n].n:Int))∧w.cell? ⟨g,n * 2+1,none⟩=some L[n].b.v:=by
 subst e
 have h0:=k.wown.cellAt (n * 2) (by omega)
 have h1:=k.wown.cellAt (n * 2+1) (by omega)
 have e0:=flat2_at RL.cells rl_len hn (i:=0) (by decide)
 have e1:=flat2_at RL.cells rl_len hn (i:=1) (by decide)
 rw [Nat.add_zero]at e0
 exact⟨h0.trans e0,h1.trans e1⟩
theorem flat2_set0 {α:Type} (f:α→List Value) (hf: ∀x,(f x).length=2) {l:List α} {n:Nat} (hn:n < l.length) (y:α) (v:Value) (hy:f y=(f l[n]).set 0 v):(l.flatMap f).set (n * 2) v=(l.set n y).flatMap f:=by
 have h1:=flat_splice f 2 (fun x _=>hf x) hn (o:=0) (vs:= [v]) (y:=y) (by simp) (by rw [splice_one _ _ _ (by rw [hf];decide)];exact hy)
 rw [Nat.add_zero,splice_one _ _ _ (by rw [flat_lenV f 2 _ (fun x _=>hf x)];omega)]at h1
 exact h1
theorem flat2_set1 {α:Type} (f:α→List Value) (hf: ∀x,(f x).length=2) {l:List α} {n:Nat} (hn:n < l.length) (y:α) (v:Value) (hy:f y=(f l[n]).set 1 v):(l.flatMap f).set (n * 2+1) v=(l.set n y).flatMap f:=by
 have h1:=flat_splice f 2 (fun x _=>hf x) hn (o:=1) (vs:= [v]) (y:=y) (by simp) (by rw [splice_one _ _ _ (by rw [hf];decide)];exact hy)
 rw [splice_one _ _ _ (by rw [flat_lenV f 2 _ (fun x _=>hf x)];omega)]at h1
 exact h1
theorem RefR.turnC (k:RefR w T h cv wv C L ar tu cr dn) {g cap:Nat} (e:cv= .slice (some ⟨g,0,none⟩) C.length cap) {C':List RC} (hl:C'.length=C.length) (ho:w'.ownsRow 0 109 2 cv C.length (C'.flatMap RC.cells)) (hg:w.grownBy w' (some g)) (hc: ∀c∈C',c∈C∨c.b.ok w T):RefR w' T h cv wv C' L ar tu cr dn:=by
 subst e
 have tg: ∀b:RB,b.ok w T→b.ok w' T:=fun b hb=>by
  have hne:=own_tags hb.own k.cown (by decide)
  refine hb.keep (hg.block _ (k.foot _ hb.mem) ?_) hb.mem
  intro e
  rcases hne with hne | hne
  · cases hne
  · exact hne e
 refine⟨fun _ hj=>Nat.lt_of_lt_of_le (k.foot _ hj) hg.size,k.self,k.blk.kept hg (fun e=>own_tag k.cown k.blk (by decide) e.symm),by rw [hl];exact ho,k.wown.kept hg (own_tags k.wown k.cown (by decide)),k.cm,k.wm,fun c hc'=> ?_,fun l hl'=>⟨by rw [hl];exact(k.wb l hl').1,tg _ (k.wb l hl').2⟩,by rw [hl];exact k.many⟩
 rcases hc c hc' with hc' | hc'
 · exact tg _ (k.cb c hc')
 · exact tg _ hc'
theorem RefR.setB (k:RefR w T h cv wv C L ar tu cr dn) {g cap:Nat} (e:cv= .slice (some ⟨g,0,none⟩) C.length cap) {n:Nat} (hn:n < C.length) (b:RB) (hb:b.ok w T):RefR (w.setCell ⟨g,n * 2,none⟩ b.v) T h cv wv (C.set n { C[n]with b:=b }) L ar tu cr dn∧w.grownBy (w.setCell ⟨g,n * 2,none⟩ b.v) (some g):=by
 subst e
 obtain⟨h1,h2⟩:=k.cown.stored (n * 2) b.v
 rw [flat2_set0 RC.cells rc_len hn { C[n]with b:=b } b.v rfl]at h1
 refine⟨k.turnC rfl (List.length_set) h1 h2 (fun c hc=> ?_),h2⟩
 rcases List.mem_or_eq_of_mem_set hc with hc | rfl
 · exact .inl hc
 · exact .inr hb
theorem RefR.setH (k:RefR w T h cv wv C L ar tu cr dn) {g cap:Nat} (e:cv= .slice (some ⟨g,0,none⟩) C.length cap) {n:Nat} (hn:n < C.length) (x:Bool):RefR (w.setCell ⟨g,n * 2+1,none⟩ (.bool x)) T h cv wv (C.set n { C[n]with hurt:=x }) L ar tu cr dn∧w.grownBy (w.setCell ⟨g,n * 2+1,none⟩ (.bool x)) (some g):=by
 subst e
 obtain⟨h1,h2⟩:=k.cown.stored (n * 2+1) (.bool x)
 rw [flat2_set1 RC.cells rc_len hn { C[n]with hurt:=x } (.bool x) rfl]at h1
 refine⟨k.turnC rfl (List.length_set) h1 h2 (fun c hc=> ?_),h2⟩
 rcases List.mem_or_eq_of_mem_set hc with hc | rfl
 · exact .inl hc
 · exact .inr (k.cb C[n] (List.getElem_mem hn))
theorem RefR.own6 (k:RefR w T h cv wv C L ar tu cr dn) {cv' wv':Value} {C':List RC} {L':List RL} {ar' tu' cr':Int} {dn':Bool} (hg:w.grownBy w' (some h)) (hb:BlockIs w' h 54 #[cv',wv',.int .i64 ar',.int .i64 tu',.int .i64 cr',.bool dn'])
 (hc:w'.ownsRow 0 109 2 cv' C'.length (C'.flatMap RC.cells)) (hw:w'.ownsRow 0 150 2 wv' L'.length (L'.flatMap RL.cells)) (hcm: ∀b,cv'.ownBlock=some b→T b) (hwm: ∀b,wv'.ownBlock=some b→T b)
 (hcb: ∀c∈C',c∈C) (hwb: ∀l∈L',l∈L) (hl:C'.length=C.length):RefR w' T h cv' wv' C' L' ar' tu' cr' dn':=by
 have tg: ∀b:RB,b.ok w T→b.ok w' T:=fun b hb=>by
  refine hb.keep (hg.block _ (k.foot _ hb.mem) ?_) hb.mem
  intro e
  exact own_tag hb.own k.blk (by decide) e
 exact⟨fun _ hj=>Nat.lt_of_lt_of_le (k.foot _ hj) hg.size,k.self,hb,hc,hw,hcm,hwm,fun c hc'=>tg _ (k.cb c (hcb c hc')),fun l hl'=>⟨by rw [hl];exact(k.wb l (hwb l hl')).1,tg _ (k.wb l (hwb l hl')).2⟩,by rw [hl];exact k.many⟩
theorem RefR.cset (k:RefR w T h cv wv C L ar tu cr dn) (i:Nat) (u:Value):w.grownBy (w.setCell ⟨h,i,none⟩ u) (some h)∧(w.setCell ⟨h,i,none⟩ u).ownsRow 0 109 2 cv C.length (C.flatMap RC.cells)∧(w.setCell ⟨h,i,none⟩ u).ownsRow 0 150 2 wv L.length (L.flatMap RL.cells):=by
 have hg:w.grownBy (w.setCell ⟨h,i,none⟩ u) (some h):=grown_at (World.grownBy.refl w (some h)) i u
 exact⟨hg,k.cown.kept hg (.inr (own_tag k.cown k.blk (by decide))),k.wown.kept hg (.inr (own_tag k.wown k.blk (by decide)))⟩
theorem RefR.setA (k:RefR w T h cv wv C L ar tu cr dn) (x:Int):RefR (w.setCell ⟨h,2,none⟩ (.int .i64 x)) T h cv wv C L x tu cr dn:=
 k.own6 (k.cset 2 _).1 (k.blk.set1 2 _) (k.cset 2 _).2.1 (k.cset 2 _).2.2 k.cm k.wm (fun _ h=>h) (fun _ h=>h) rfl
theorem RefR.setT (k:RefR w T h cv wv C L ar tu cr dn) (x:Int):RefR (w.setCell ⟨h,3,none⟩ (.int .i64 x)) T h cv wv C L ar x cr dn:=
 k.own6 (k.cset 3 _).1 (k.blk.set1 3 _) (k.cset 3 _).2.1 (k.cset 3 _).2.2 k.cm k.wm (fun _ h=>h) (fun _ h=>h) rfl
theorem RefR.setCr (k:RefR w T h cv wv C L ar tu cr dn) (x:Int):RefR (w.setCell ⟨h,4,none⟩ (.int .i64 x)) T h cv wv C L ar tu x dn:=
 k.own6 (k.cset 4 _).1 (k.blk.set1 4 _) (k.cset 4 _).2.1 (k.cset 4 _).2.2 k.cm k.wm (fun _ h=>h) (fun _ h=>h) rfl
theorem RefR.setD (k:RefR w T h cv wv C L ar tu cr dn) (x:Bool):RefR (w.setCell ⟨h,5,none⟩ (.bool x)) T h cv wv C L ar tu cr x:=
 k.own6 (k.cset 5 _).1 (k.blk.set1 5 _) (k.cset 5 _).2.1 (k.cset 5 _).2.2 k.cm k.wm (fun _ h=>h) (fun _ h=>h) rfl
theorem RefR.setW0 (k:RefR w T h cv wv C L ar tu cr dn):RefR (w.setCell ⟨h,1,none⟩ (.slice none 0 0)) T h cv (.slice none 0 0) C [] ar tu cr dn:=
 k.own6 (k.cset 1 _).1 (k.blk.set1 1 _) (k.cset 1 _).2.1 (World.ownsRow_nil _ _ _ _) k.cm (fun b e=>by cases e) (fun _ h=>h) (fun _ h=>by cases h) rfl
theorem RefR.setWv (k:RefR w T h cv wv C L ar tu cr dn) {w1 w2:World} {v':Value} {l:RL} (hb:Below w.heap.size w w1) (hn:l.n < C.length) (hl:l.b.ok w1 T') (hT: ∀j,T j→T' j) (ho:w2.ownsRow 0 150 2 v' (L.length+1) (L.flatMap RL.cells++RL.cells l)) (hg:w1.grownBy w2 wv.ownBlock) (hv:v'.ownBlock=wv.ownBlock∨v'.ownBlock=some w1.heap.size) (hf: ∀j,T' j→j < w1.heap.size):
 RefR (w2.setCell ⟨h,1,none⟩ v') (fun j=>T' j∨(w1.heap.size≤j∧j < w2.heap.size)) h cv v' C (L++ [l]) ar tu cr dn∧Chg T w (w2.setCell ⟨h,1,none⟩ v'):=by
 have k1:=(k.below hb).mono hT hf
 have hs1:=hb.size
 have hs2:=hg.size
 have htW: ∀b:RB,b.ok w1 T'→wv.ownBlock≠some b.g:=fun b hb=>by
  rcases own_tags k1.wown hb.own (by decide)with e | e
  · rw [e];intro e;cases e
  · exact e
 have hset:=(grown_at (World.grownBy.refl w2 (some h)) 1 v')
 have hblk2:BlockIs w2 h 54 #[cv,wv,.int .i64 ar,.int .i64 tu,.int .i64 cr,.bool dn]:=k1.blk.kept hg (fun e=>own_tag k1.wown k1.blk (by decide) e.symm)
 have hc2:w2.ownsRow 0 109 2 cv C.length (C.flatMap RC.cells):=k1.cown.kept hg (own_tags k1.cown k1.wown (by decide))
 have tg: ∀b:RB,b.ok w1 T'→b.ok (w2.setCell ⟨h,1,none⟩ v') (fun j=>T' j∨(w1.heap.size≤j∧j < w2.heap.size)):=fun b hb=>by
  refine hb.keep ((Below.heap_setCell w2 ⟨h,1,none⟩ v' b.g ?_).trans (hg.block _ (hf _ hb.mem) (fun e=>htW b hb e.symm))) (.inl hb.mem)
  intro e
  have e:b.g=h:=e
  exact own_tag hb.own k1.blk (by decide) (by rw [← e];rfl)
 have hlt:=fun b (e:v'.ownBlock=some b)=>(ho.lt b e).2
 refine⟨⟨?_,.inl k1.self,hblk2.set1 1 v',hc2.kept hset (.inr (own_tag hc2 hblk2 (by decide))),?_,fun b e=> .inl (k1.cm b e),?_,fun c hc=>tg _ (k1.cb c hc),?_,k.many⟩,?_⟩
 · rintro j (hj | hj)
   · have:=hf j hj
     show j < (w2.setCell _ _).heap.size
     rw [show (w2.setCell ⟨h,1,none⟩ v').heap.size=w2.heap.size by simp [World.setCell]];omega
   · rw [show (w2.setCell ⟨h,1,none⟩ v').heap.size=w2.heap.size by simp [World.setCell]];exact hj.2
 · rw [List.length_append,List.flatMap_append]
   refine own_same (ho.kept hset (.inr (own_tag ho hblk2 (by decide)))) rfl (by simp)
 · intro b e
   rcases hv with h1 | h1
   · exact .inl (k1.wm b (h1 ▸ e))
   · rw [h1]at e;injection e with e
     have:=hlt b (by rw [h1,e])
     exact .inr ⟨by omega,this⟩
 · intro x hx
   rcases List.mem_append.1 hx with hx | hx
   · exact⟨(k1.wb x hx).1,tg _ (k1.wb x hx).2⟩
   · obtain rfl:=List.mem_singleton.1 hx
     exact⟨hn,tg _ hl⟩
 · refine Chg.set ⟨hg.os.trans hb.os,hg.tape.trans hb.tape,hg.output.trans hb.output,by omega,fun j hj hT=> ?_⟩ (.inl k.self) _
   exact(hg.block j (by omega) (fun e=>hT (k.wm j e.symm))).trans (hb.block j hj)
theorem RefR.chg1 (k:RefR w T h cv wv C L ar tu cr dn) (i:Nat) (u:Value):Chg T w (w.setCell ⟨h,i,none⟩ u):=Chg.of_grown (k.cset i u).1 (fun b e=>by cases e;exact k.self)
end
structure RefM (D:DM) (C:List RC) (L:List RL) (ar tu cr:Int) (dn:Bool):Prop where
 cells:D.cells=C.map RC.m
 waits:D.waits=L.map RL.m
 ar:ar=D.armed
 tu:tu=D.turns
 cr:cr=D.crashes
 dn:dn=D.down
 lo:D.armed≤9223372036854775807
def RefAt3 (w:World) (T:Nat→Prop) (h:Nat) (D:DM):Prop:= ∃cv wv C L ar tu cr dn,RefR w T h cv wv C L ar tu cr dn∧RefM D C L ar tu cr dn
section
variable {w w' : World} {T T' : Nat → Prop} {h : Nat} {D : DM}
theorem RefAt3.keep (k:RefAt3 w T h D) (hs:w.heap.size≤w'.heap.size) (hk: ∀b,T b→w'.heap[b]? =w.heap[b]?):RefAt3 w' T h D:=by
 obtain⟨cv,wv,C,L,ar,tu,cr,dn,k,m⟩:=k;exact⟨cv,wv,C,L,ar,tu,cr,dn,k.keep hs hk,m⟩
theorem RefAt3.below (k:RefAt3 w T h D) (hb:Below w.heap.size w w'):RefAt3 w' T h D:=by
 obtain⟨cv,wv,C,L,ar,tu,cr,dn,k,m⟩:=k;exact⟨cv,wv,C,L,ar,tu,cr,dn,k.below hb,m⟩
theorem RefAt3.mono (k:RefAt3 w T h D) (hT: ∀j,T j→T' j) (hf: ∀j,T' j→j < w.heap.size):RefAt3 w T' h D:=by
 obtain⟨cv,wv,C,L,ar,tu,cr,dn,k,m⟩:=k;exact⟨cv,wv,C,L,ar,tu,cr,dn,k.mono hT hf,m⟩
theorem RefAt3.foot (k:RefAt3 w T h D): ∀j,T j→j < w.heap.size:=by
 obtain⟨cv,wv,C,L,ar,tu,cr,dn,k,m⟩:=k;exact k.foot
theorem RefAt3.grow_same (k:RefAt3 w T h D):RefAt3 w (grow T w w) h D:=k.mono (fun _ hj=> .inl hj) (by
 rintro j (hj | hj)
 · exact k.foot j hj
 · exact hj.2)
end
structure Ref3 (w:World) (T:Nat→Prop) (h:Nat) (D:DM) (w':World):Prop where
 at_:RefAt3 w' (grow T w w') h D
 fr:Chg T w w'
theorem Ref3.same {w:World} {T:Nat→Prop} {h:Nat} {D:DM} (k:RefAt3 w T h D):Ref3 w T h D w:=⟨k.grow_same,Chg.refl _ _⟩
theorem Ref3.below {w w':World} {T:Nat→Prop} {h:Nat} {D:DM} (k:RefAt3 w T h D) (hb:Below w.heap.size w w'):Ref3 w T h D w':=
 ⟨(k.below hb).mono (fun _ hj=> .inl hj) (grow_lt k.foot hb.size),Chg.of_below hb⟩
theorem Ref3.trans {w w1 w2:World} {T:Nat→Prop} {h:Nat} {D1 D2:DM} (a:Ref3 w T h D1 w1) (b:Ref3 w1 (grow T w w1) h D2 w2) (hf: ∀k,T k→k < w.heap.size):Ref3 w T h D2 w2:=
 ⟨b.at_.mono (grow_trans a.fr.size b.fr.size) (grow_lt hf (Nat.le_trans a.fr.size b.fr.size)),a.fr.trans b.fr⟩
open Go.RowKit
section
variable {w : World} {T : Nat → Prop} {h : Nat} {cv wv : Value} {C : List RC} {L : List RL} {ar tu cr : Int} {dn : Bool}
theorem RefR.cslice (k:RefR w T h cv wv C L ar tu cr dn): ∃X cap,cv= .slice X C.length cap∧C.length≤cap∧cap≤maxLen:=own_slice k.cown
theorem RefR.wslice (k:RefR w T h cv wv C L ar tu cr dn): ∃X cap,wv= .slice X L.length cap∧L.length≤cap∧cap≤maxLen:=own_slice k.wown
def thereB (C:List RC) (n:Int):Bool:=decide (0≤n∧n < C.length)
theorem there_any (k:RefR w T h cv wv C L ar tu cr dn) (n:Int):
 Calls Tryz.prog 66 #[.pointer (some ⟨h,0,none⟩),.int .i64 n] w fun e w'=>e= .returned (.bool (thereB C n))∧w=w':=by
 obtain⟨X,cap,hcv,h1,h2⟩:=k.cslice
 have c0:=k.cell6.1
 rw [hcv]at c0
 have Hm:=qh k.many
 clear k hcv
 have hE:=qh (show thereB C n=decide (0≤n∧n < (C.length:Int))from rfl)
 by_cases h0:0≤n
 · by_cases h3:n < (C.length:Int)
   · go_enter Tryz.func66,Tryz.ntmps66
     go_wp2
     go_ret
     exact⟨ret_bool (by rw [hE.out];exact(decide_eq_true ⟨by omega,by omega⟩).symm),rfl⟩
   · go_enter Tryz.func66,Tryz.ntmps66
     go_wp2
     go_ret
     exact⟨ret_bool (by rw [hE.out];first | exact(decide_eq_false (by omega)).symm | (simp only [decide_eq_decide];omega)),rfl⟩
 · go_enter Tryz.func66,Tryz.ntmps66
   go_wp2
   go_ret
   exact⟨ret_bool (by rw [hE.out];exact(decide_eq_false (by omega)).symm),rfl⟩
theorem turn3_trips (k:RefR w T h cv wv C L 1 tu cr dn) (hc:0≤cr∧cr≤1000000000):
 Calls Tryz.prog 102 #[.pointer (some ⟨h,0,none⟩)] w fun e w'=>e= .returned (.bool false)∧RefR w' T h cv wv C L 0 tu (cr+1) true∧Chg T w w':=by
 have k1:=k.setA 0
 have k2:=k1.setD true
 have k3:=k2.setCr (cr+1)
 have hc3:=((Chg.refl T w).set (b:=h) (i:=2) (.inl k.self) (.int .i64 0)).set (b:=h) (i:=5) (.inl k.self) (.bool true) |>.set (b:=h) (i:=4) (.inl k.self) (.int .i64 (cr+1))
 obtain⟨c0,c1,c2,c3,c4,c5⟩:=k.cell6
 have f2:=k.blk.free 2
 have d4:=k2.cell6.2.2.2.2.1
 have d5:=k1.cell6.2.2.2.2.2
 have f5:=k1.blk.free 5
 have f4:=k2.blk.free 4
 have H3:=qh (And.intro k3 hc3)
 clear k k1 k2 k3 hc3 c0 c1 c3 c4 c5
 obtain⟨hc0,hc1⟩:=hc
 go_enter Tryz.func102,Tryz.ntmps102
 go_wp2
 go_ret
 exact⟨rfl,H3.out⟩
theorem turn3_done (k:RefR w T h cv wv C L ar tu cr dn) (hne:ar≠1) (ha:0≤ar∧ar≤9223372036854775807) (ht:0≤tu∧tu≤1000000000):
 Calls Tryz.prog 102 #[.pointer (some ⟨h,0,none⟩)] w fun e w'=>e= .returned (.bool true)∧RefR w' T h cv wv C L (if 0 < ar then ar - 1 else 0) (tu+1) cr dn∧Chg T w w':=by
 have k1:=k.setA (if 0 < ar then ar - 1 else 0)
 have k2:=k1.setT (tu+1)
 have hc2:=((Chg.refl T w).set (b:=h) (i:=2) (.inl k.self) (.int .i64 (if 0 < ar then ar - 1 else 0))).set (b:=h) (i:=3) (.inl k.self) (.int .i64 (tu+1))
 obtain⟨c0,c1,c2,c3,c4,c5⟩:=k.cell6
 have f2:=k.blk.free 2
 have d3:=k1.cell6.2.2.2.1
 have f3:=k1.blk.free 3
 have H3:=qh (And.intro k2 hc2)
 obtain⟨ha0,ha1⟩:=ha
 obtain⟨ht0,ht1⟩:=ht
 have hq:(ar==1)=false:=by simpa using hne
 clear k k1 k2 hc2 c0 c1 c3 c4 c5
 by_cases hp:0 < ar
 · rw [if_pos hp]at *
   go_enter Tryz.func102,Tryz.ntmps102
   go_wp2
   all_goals go_ret
   all_goals exact⟨rfl,H3.out⟩
 · rw [if_neg hp]at *
   obtain rfl:ar=0:=by omega
   go_enter Tryz.func102,Tryz.ntmps102
   go_wp2
   all_goals go_ret
   all_goals exact⟨rfl,H3.out⟩
end
open Go.RowKit
theorem src_at {w:World} {g:Nat} {bs:List Int} (hb:BytesAt w (some ⟨g,0,none⟩) bs) (m:Nat): ∀j v,(u8s (bs.take m))[j]? =some v→w.cell? ((⟨g,0,none⟩:Addr).add j)=some v:=by
 intro j v hj
 unfold u8s at hj
 rw [List.getElem?_map]at hj
 cases hq:(bs.take m)[j]? with
 | none=>rw [hq]at hj;cases hj
 | some z=>
   rw [hq]at hj
   obtain rfl:Value.int .u8 z=v:=by simpa using hj
   have hlt:=(List.getElem?_eq_some_iff.1 hq).1
   rw [List.length_take]at hlt
   rw [List.getElem?_take_of_lt (by omega)]at hq
   have h1:=hb.one j (by omega)
   rw [Addr.add_mid,h1,List.getD_eq_getElem?_getD,hq];rfl
theorem map_set_m (C:List RC) (n:Nat) (y:RC):(C.set n y).map RC.m=(C.map RC.m).set n y.m:=by rw [List.map_set]
theorem getD_m (C:List RC) (n:Nat) (hn:n < C.length):(C.map RC.m).getD n ([],false)=C[n].m:=by
 rw [List.getD_eq_getElem?_getD,List.getElem?_map,List.getElem?_eq_getElem hn];rfl
section
variable {w : World} {T : Nat → Prop} {h : Nat} {cv wv : Value} {C : List RC} {L : List RL} {ar tu cr : Int} {dn : Bool}
theorem store3_any (k:RefR w T h cv wv C L ar tu cr dn) (l:RL) (hn:l.n < C.length) (hb:l.b.ok w T) (s:Nat) (hs:s≤8):
 Calls Tryz.prog 96 #[.pointer (some ⟨h,0,none⟩),.agg #[.int .i64 (l.n:Int),l.b.v],.int .i64 (s:Int)] w fun e w'=>e= .returned (.tuple #[])∧
  ∃C',RefR w' (grow T w w') h cv wv C' L ar tu cr dn∧Chg T w w'∧C'.map RC.m=(C.map RC.m).set l.n (storeS ((C.map RC.m).getD l.n ([],false)) l.b.bs s):=by
 obtain⟨g,cap,hcv,hc1,hc2⟩:=k.cform (by omega)
 have hbn:=below_new w (.cells #[.int .i64 (l.n:Int),l.b.v] 150)
 have k1:=k.below hbn
 have hB:=BlockIs.made w 150 #[.int .i64 (l.n:Int),l.b.v]
 have b0:(w.alloc (.cells #[.int .i64 (l.n:Int),l.b.v] 150)).cell? ⟨w.heap.size,0,none⟩=some (.int .i64 (l.n:Int)):=hB.cell 0
 have c0:=k1.cell6.1
 rw [hcv]at c0
 have cn:=(k1.cat hn hcv).1
 have hcb:=k1.cb C[l.n] (List.getElem_mem hn)
 have Hk:=qh (And.intro k1 (And.intro hbn (And.intro hcb hB)))
 have Hcv:=qh hcv
 have Hk0:=qh (k1)
 have Hbw:=qh hbn
 have HB0:=qh hB
 have Hbd:=qh hcb.bd
 have hM:=k.many
 have hi1:(0:Int)≤(l.n:Int):=by omega
 have hi2:(l.n:Int) < (C.length:Int):=by omega
 have Hlb:=qh (hb.keep (T':=T) (hbn.block _ (k.foot _ hb.mem)) hb.mem)
 have Hf:=qh k.foot
 have hcl:(256:Int)≤(l.b.cap:Int):=by have:=hb.cap_le;omega
 clear k k1 hbn hcb hB hcv hb
 generalize hcb':C[l.n].b=cb at *
 have Hcb:=qh hcb'
 clear hcb'
 unfold RB.v at *
 go_enter Tryz.func96,Tryz.ntmps96
 go_wp2_with fail
 generalize hw0:(w.alloc (.cells #[.int .i64 (l.n:Int),.slice (some ⟨l.b.g,0,none⟩) 256 l.b.cap] 150))=w0 at *
 have hsz:w0.heap.size=w.heap.size+1:=by rw [← hw0];simp
 have Hw0:=qh (And.intro hw0 hsz)
 clear hw0 hsz
 have hbE:=below_new w0 (.cells #[] 5)
 have e0:=cell_below b0 hbE
 have e1:=cell_below c0 hbE
 have e2:=cell_below cn hbE
 have HbE:=qh hbE
 have HbB:=qh (BlockIs.made w0 5 #[])
 have Hz:=qh (Hk.out.2.2.1.bytes.below hbE)
 have Hzl:=qh Hk.out.2.2.1.bd.1
 clear hbE
 go_region_held3 (fun w'=>w'.cell? ⟨w.heap.size,0,none⟩=some (.int .i64 (l.n:Int))∧w'.cell? ⟨h,0,none⟩=some (.slice (some ⟨g,0,none⟩) C.length cap)∧w'.cell? ⟨g,l.n * 2,none⟩=some (.slice (some ⟨cb.g,0,none⟩) 256 cb.cap)) (first | exact⟨b0,c0,cn⟩ | exact⟨e0,e1,e2⟩ | exact⟨m0,m1,m2⟩) ((refine step_clone8 (by rfl) _ _ (by rfl) w0.heap.size (by rfl) (by first | exact HbB.out | exact HbB.out.drew) _ cb.bs 256 _ (by rfl) Hzl.out (by decide) (by first | exact Hz.out | exact Hz.out.drewN 1) (by intro e;cases e) (by decide) ?_;intro g3 cap3 w3 ho3 hg3 hc3 hm3 hgr3;have m0:=hgr3.cell e0 (fun e=>absurd (Option.some.inj (show some w.heap.size=some w0.heap.size from e)) (by have:=Hw0.out.2;omega));have m1:=hgr3.cell e1 (fun e=>absurd (Option.some.inj (show some h=some w0.heap.size from e)) (by have:=Hk.out.1.lt;omega));have m2:=hgr3.cell e2 (fun e=>absurd (Option.some.inj (show some g=some w0.heap.size from e)) (by have:=World.block_lt_of_cell? _ _ cn;have:g < w0.heap.size:=this;omega));have Hend:=qh (show(w0.alloc (.cells #[] 5)).grownBy w3 (some w0.heap.size)from(by first | exact hgr3 | exact⟨hgr3.os,hgr3.tape,hgr3.output,hgr3.size,hgr3.block⟩));have Hown3:=qh (And.intro ho3 (And.intro hg3 (And.intro hc3 hm3)));clear ho3 hgr3 hg3 hc3 hm3))
 have hB3:Below w0.heap.size w0 w3:=HbE.out.grown Hend.out (by simp) (fun k e=>by cases e;exact Nat.le_refl _)
 have H3:=qh (And.intro (Hk.out.1.below hB3) (And.intro hB3 (And.intro (Hlb.out.keep (T':=T) (hB3.block _ (by have:=Hf.out _ Hlb.out.mem;rw [Hw0.out.2];omega)) Hlb.out.mem) (BlockIs.below Hk.out.2.2.2 hB3 (by rw [Hw0.out.2];omega)))))
 obtain⟨cur,hcur,hl1,hl2,hl3,hl4⟩:=own_cur Hown3.out.1
 have Hcur:=qh (And.intro hcur (And.intro hl1 (And.intro hl2 (And.intro hl3 hl4))))
 have hb1:w3.cell? ⟨w.heap.size,1,none⟩=some (.slice (some ⟨l.b.g,0,none⟩) 256 l.b.cap):=H3.out.2.2.2.cell 1
 have Hsz:=qh (show w.heap.size < w0.heap.size by rw [Hw0.out.2];omega)
 clear b0 c0 cn e0 e1 e2 m0 m1 m2 hcur hl1 hl2 hl3 hl4 hB3 Hend HbE HbB Hz Hk
 have hs0:(0:Int)≤32 * (s:Int):=by omega
 have hs8:32 * (s:Int)≤(l.b.cap:Int):=by omega
 have htn:(32 * (s:Int)).toNat=32 * s:=by omega
 have G1:=qh (show(u8s (l.b.bs.take (32 * s))).length=Nat.min (32 * s) 256 by rw [u8s_len,List.length_take,Hlb.out.bd.1])
 have G2:=qh (show 0+(u8s (l.b.bs.take (32 * s))).length≤cur.length by rw [G1.out,Hcur.out.2.1];have:=Hcur.out.2.2.1;have:=(show Nat.min (32 * s) 256≤256 from Nat.min_le_right _ _);show 0+Nat.min (32 * s) 256≤_;omega)
 have G3:=qh (src_at H3.out.2.2.1.bytes (32 * s))
 have G4:=qh (u8s_one (l.b.bs.take (32 * s)))
 go_wp2_with (refine wpList_copy_splice rfl (.tmp 18) (.tmp 23) 28 28 rfl 5 Tryz.underlying28 (by kernel_rfl) (some ⟨g3,0,none⟩) (some ⟨l.b.g,0,none⟩) 256 cap3 (32 * s) l.b.cap rfl (by simp [Act.eval]) g3 0 cur 5 Hcur.out.1 (u8s (l.b.bs.take (32 * s))) G1.out (fun hp=>⟨rfl,⟨l.b.g,0,none⟩,rfl,G3.out⟩) G2.out G4.out w0.heap.size w0 H3.out.2.1 Hown3.out.2.1 ?_;intro w4 hG4 hB4)
 have ho4:=own_over (ys:=l.b.bs.take (32 * s)) Hzl.out (by rw [List.length_take];have:=Hlb.out.bd.1;omega) Hcur.out.2.1 Hcur.out.2.2.1 Hcur.out.2.2.2.1 Hcur.out.2.2.2.2 hG4.out
 have hsz4:=hB4.size
 have hlt3:=(ho4.lt g3 rfl).2
 have hbk:BlkOk (storeS (cb.bs,C[l.n].hurt) l.b.bs s).1:=storeS_ok Hbd.out Hlb.out.bd hs
 have hlen:(l.b.bs.take (32 * s)).length=32 * s:=by rw [List.length_take];have:=Hlb.out.bd.1;omega
 rw [hlen]at ho4
 have H4:=qh (show RefR w4 (grow T w w4) h cv wv C L ar tu cr dn∧Chg T w w4∧RB.ok w4 (grow T w w4) ⟨g3,cap3,(storeS (cb.bs,C[l.n].hurt) l.b.bs s).1⟩∧BlockIs w4 w.heap.size 150 #[.int .i64 (l.n:Int),.slice (some ⟨l.b.g,0,none⟩) 256 l.b.cap]from by
  have hbw:Below w.heap.size w w4:=Hbw.out.trans (hB4.mono (Nat.le_of_lt Hsz.out))
  exact⟨(Hk0.out.below hB4).mono (fun _ hj=> .inl hj) (grow_lt Hf.out hbw.size),Chg.of_below hbw,⟨ho4,hbk,.inr ⟨by have:=Hown3.out.2.1;have:=Hsz.out;show w.heap.size≤g3;omega,hlt3⟩⟩,BlockIs.below HB0.out hB4 Hsz.out⟩)
 clear hG4 hB4 ho4 hsz4 hlt3 hbk hlen hb1 hs0 hs8 htn G1 G2 G3 G4 H3 Hcur
 have d0:=H4.out.1.cell6.1
 rw [Hcv.out]at d0
 have d1:w4.cell? ⟨w.heap.size,0,none⟩=some (.int .i64 (l.n:Int)):=H4.out.2.2.2.cell 0
 have d2:=(H4.out.1.cat hn Hcv.out).1
 have d3:w4.frozen? ⟨g,l.n * 2,none⟩=false:=by
  have:=H4.out.1.cown
  rw [Hcv.out]at this
  exact this.frozenAt _
 rw [Hcb.out]at d2
 have H5:=qh (H4.out.1.setB Hcv.out hn ⟨g3,cap3,(storeS (cb.bs,C[l.n].hurt) l.b.bs s).1⟩ H4.out.2.2.1)
 have Hc5:=qh (H4.out.2.1.set (b:=g) (i:=l.n * 2) (.inl (Hk0.out.cm g (by rw [Hcv.out];rfl))) (.slice (some ⟨g3,0,none⟩) 256 cap3))
 have Hb5:=qh (show BlockIs (w4.setCell ⟨g,l.n * 2,none⟩ (.slice (some ⟨g3,0,none⟩) 256 cap3)) w.heap.size 150 #[.int .i64 (l.n:Int),.slice (some ⟨l.b.g,0,none⟩) 256 l.b.cap]from H4.out.2.2.2.keep (Below.heap_setCell w4 ⟨g,l.n * 2,none⟩ _ w.heap.size (fun e=>by have:=Hf.out g (Hk0.out.cm g (by rw [Hcv.out];rfl));have e:w.heap.size=g:=e;omega)))
 unfold RB.v at H5
 go_region
 all_goals
  clear d0 d1 d2 d3
  have H6:=qh (show RefR (w4.setCell ⟨g,l.n * 2,none⟩ (.slice (some ⟨g3,0,none⟩) 256 cap3)).drew _ h cv wv _ L ar tu cr dn∧Chg T w (w4.setCell ⟨g,l.n * 2,none⟩ (.slice (some ⟨g3,0,none⟩) 256 cap3)).drew∧BlockIs (w4.setCell ⟨g,l.n * 2,none⟩ (.slice (some ⟨g3,0,none⟩) 256 cap3)).drew w.heap.size 150 #[.int .i64 (l.n:Int),.slice (some ⟨l.b.g,0,none⟩) 256 l.b.cap]from⟨H5.out.1.drew,Hc5.out.drew,Hb5.out⟩)
  have hs46:(w4.setCell ⟨g,l.n * 2,none⟩ (.slice (some ⟨g3,0,none⟩) 256 cap3)).drew.heap.size=w4.heap.size:=by show(w4.setCell _ _).heap.size=_;simp [World.setCell]
  have Hs46:=qh hs46
  clear hs46 H5 Hc5 Hb5
  generalize hW6:(w4.setCell ⟨g,l.n * 2,none⟩ (.slice (some ⟨g3,0,none⟩) 256 cap3)).drew=w6 at *
  have HW6:=qh hW6
  clear hW6
  by_cases h8:s=8
  · have h8':(s:Int)=8:=by omega
    have hl6:l.n < (C.set l.n { C[l.n]with b:=⟨g3,cap3,(storeS (cb.bs,C[l.n].hurt) l.b.bs s).1⟩ }).length:=by rw [List.length_set];exact hn
    have e0:=H6.out.1.cell6.1
    have hcv6:cv= .slice (some ⟨g,0,none⟩) (C.set l.n { C[l.n]with b:=⟨g3,cap3,(storeS (cb.bs,C[l.n].hurt) l.b.bs s).1⟩ }).length cap:=by rw [List.length_set];exact Hcv.out
    rw [Hcv.out]at e0
    have e1:w6.cell? ⟨w.heap.size,0,none⟩=some (.int .i64 (l.n:Int)):=H6.out.2.2.cell 0
    have e2:=(H6.out.1.cat hl6 hcv6).2
    simp only [List.getElem_set_self]at e2
    have e3:w6.frozen? ⟨g,l.n * 2+1,none⟩=false:=by
     have:=H6.out.1.cown
     rw [hcv6]at this
     exact this.frozenAt _
    have H7:=qh (H6.out.1.setH hcv6 hl6 false)
    have Hc7:=qh (H6.out.2.1.set (b:=g) (i:=l.n * 2+1) (.inl (Hk0.out.cm g (by rw [Hcv.out];rfl))) (.bool false))
    clear hcv6
    subst h8
    clear h8'
    go_wp2_with fail
    go_region
    all_goals
     go_wp2_with fail
     go_end0
     refine⟨rfl,_,(H7.out.1.mono (T':=grow T w (w6.setCell ⟨g,l.n * 2+1,none⟩ (.bool false)).drew) ?_ ?_).drew,Hc7.out.drew,?_⟩
     · rintro j (hj | hj)
       · exact .inl hj
       · exact .inr ⟨hj.1,by show j < (w6.setCell _ _).heap.size;rw [set_size,Hs46.out];exact hj.2⟩
     · intro j hj
       rcases hj with hj | hj
       · show j < (w6.setCell _ _).heap.size
         rw [set_size,Hs46.out]
         have:=Hf.out j hj
         have:=H4.out.2.1.size
         omega
       · exact hj.2
     · rw [map_set_m,map_set_m,List.set_set];try rw [getD_m _ _ hn]
       congr 1
       simp only [RC.m,List.getElem_set_self,Hcb.out,storeS,if_true]
  · have h8': ¬(s:Int)=8:=by omega
    go_wp2_with fail
    go_end0
    refine⟨rfl,_,H6.out.1.mono (T':=grow T w w6) ?_ ?_,H6.out.2.1,?_⟩
    · rintro j (hj | hj)
      · exact .inl hj
      · exact .inr ⟨hj.1,by rw [Hs46.out];exact hj.2⟩
    · intro j hj
      rcases hj with hj | hj
      · have:=Hf.out j hj
        have:=H4.out.2.1.size
        rw [Hs46.out];omega
      · exact hj.2
    · rw [map_set_m];try rw [getD_m _ _ hn]
      congr 1
      simp only [RC.m,Hcb.out,storeS,if_neg h8]
end
open Go.RowKit
theorem infoLate :(Tryz.prog.info? 150).map (fun i=>(i.zero,i.size,i.bytes))=some (some (.agg #[.int .i64 0,.slice none 0 0]),2,32):=by kernel_rfl
theorem RL.one (l:RL): ∀v∈l.cells,v.oneCell'=true:=by
 intro v hv
 unfold RL.cells RB.v at hv
 rcases List.mem_cons.1 hv with rfl | hv
 · rfl
 · obtain rfl:=List.mem_singleton.1 hv;rfl
theorem made256r (w:World):(Instr.makeSlice 28 (.int .i64 256) (.int .i64 256)).run Tryz.prog w= .ok (.slice (some ⟨w.heap.size,0,none⟩) 256 256) (w.alloc (.cells (u8s zero256).toArray 5)):=by
 obtain⟨i0,hi,hz0,hz1,hz2⟩:=info_parts infoByte
 have:=run_make (P:=Tryz.prog) w 28 5 i0 (.int .u8 0) Tryz.underlying28 hi hz0 .i64 .i64 256 256 (by decide) (by decide) (by rw [hz2];decide) (by decide)
 rw [this]
 have h:madeCells (Value.int .u8 0).cells ((256:Int).toNat * i0.size)=(u8s zero256).toArray:=by rw [hz1];kernel_rfl
 rw [h];rfl
theorem pad_over {bs:List Int} :bs++zero256.drop bs.length=padB bs:=by
 unfold padB zero256
 rw [List.drop_replicate]
section
variable {w : World} {T : Nat → Prop} {h : Nat} {D : DM}
theorem RefM.there {C:List RC} {L:List RL} {ar tu cr:Int} {dn:Bool} (m:RefM D C L ar tu cr dn) (n:Int):thereB C n=decide (D.has n):=by
 unfold thereB
 rw [decide_eq_decide]
 unfold DM.has
 rw [m.cells,List.length_map]
theorem Ref3.of {w':World} {D':DM} {cv wv:Value} {C:List RC} {L:List RL} {ar tu cr:Int} {dn:Bool} (R:RefR w' (grow T w w') h cv wv C L ar tu cr dn) (M:RefM D' C L ar tu cr dn) (hc:Chg T w w'):Ref3 w T h D' w':=⟨⟨cv,wv,C,L,ar,tu,cr,dn,R,M⟩,hc⟩
theorem write3_any (k:RefAt3 w T h D) (hF:D.Few 1000000) (n:Int) (A:Option Addr) (bs:List Int) (c:Nat) (hb:BytesAt w A bs) (hA:bs≠ []→ ∀a,A=some a→ ¬T a.block) (hl:bs.length≤140737488351232):
 Calls Tryz.prog 59 #[.pointer (some ⟨h,0,none⟩),.int .i64 n,.slice A bs.length c] w fun e w'=>e= .returned (.int .i64 (D.write n bs).1)∧Ref3 w T h (D.write n bs).2 w':=by
 have Hk:=qh k
 obtain⟨cv,wv,C,L,ar,tu,cr,dn,R,M⟩:=k
 have c5:=R.cell6.2.2.2.2.2
 have HT:=qh (there_any R n)
 rw [M.there]at HT
 have HR:=qh R
 have HM:=qh M
 have HF:=qh hF
 have Hb:=qh hb
 have HA:=qh hA
 clear R M hF hb hA
 cases hd:D.down with
 | true=>
   have Hw:Hid (D.write n bs=(11,D)):=qh (by unfold DM.write;rw [if_pos hd])
   rw [HM.out.dn,hd]at c5
   clear hd
   go_enter Tryz.func59,Tryz.ntmps59
   go_wp2_with fail
   go_ret
   rw [Hw.out]
   exact⟨rfl,Ref3.same Hk.out⟩
 | false=>
   rw [HM.out.dn,hd]at c5
   by_cases hn:D.has n
   · by_cases h256:256 < bs.length
     · have Hw:Hid (D.write n bs=(2,D)):=qh (by unfold DM.write;rw [if_neg (by rw [hd];decide),if_pos (.inr h256)])
       have h2:(256:Int) < (bs.length:Int):=by omega
       rw [decide_eq_true hn]at HT
       clear hd hn
       go_enter Tryz.func59,Tryz.ntmps59
       go_wp2_with fail
       refine HT.out.mono ?_
       rintro e w' ⟨rfl,rfl⟩
       go_wp2_with fail
       go_ret
       rw [Hw.out]
       exact⟨rfl,Ref3.same Hk.out⟩
     · have h2: ¬(256:Int) < (bs.length:Int):=by omega
       have hw0:D.write n bs=if D.armed=1 then(11,D.trips)else(0, { D.turned with waits:=D.waits++ [(n.toNat,padB bs)] }):=by unfold DM.write;rw [if_neg (by rw [hd];decide),if_neg (fun e=>e.elim (fun h=>h hn) h256)]
       rw [decide_eq_true hn]at HT
       by_cases ha:D.armed=1
       · rw [if_pos ha]at hw0
         have Hw:=qh hw0
         have h3:=HR.out
         rw [show ar=1 by rw [HM.out.ar,ha];rfl]at h3
         have HTn:=qh (turn3_trips h3 ⟨by rw [HM.out.cr];omega,by rw [HM.out.cr];have:=HF.out.cr;omega⟩)
         clear h3 hw0 ha hd hn
         go_enter Tryz.func59,Tryz.ntmps59
         go_wp2_with fail
         refine HT.out.mono ?_
         rintro e w' ⟨rfl,rfl⟩
         go_wp2_with fail
         refine HTn.out.mono ?_
         rintro e w4 ⟨rfl,hd4,hc4⟩
         have HD4:=qh (And.intro hd4 hc4)
         clear hd4 hc4
         go_wp2_with fail
         go_ret
         rw [Hw.out]
         refine⟨rfl,Ref3.of (HD4.out.1.mono (fun _ hj=> .inl hj) (grow_lt HR.out.foot HD4.out.2.size)) ⟨HM.out.cells,HM.out.waits,rfl,HM.out.tu,?_,rfl,Nat.zero_le _⟩ HD4.out.2⟩
         rw [HM.out.cr];rfl
       · rw [if_neg ha]at hw0
         have Hw:=qh hw0
         have HTn:=qh (turn3_done HR.out (by rw [HM.out.ar];omega) ⟨by rw [HM.out.ar];omega,by rw [HM.out.ar];have:=HM.out.lo;omega⟩ ⟨by rw [HM.out.tu];omega,by rw [HM.out.tu];have:=HF.out.tu;omega⟩)
         have Hd:=qh hd
         have Hha:=qh ha
         clear hw0 ha hd
         unfold DM.has at hn
         obtain⟨m,rfl⟩:=Int.eq_ofNat_of_zero_le hn.1
         have hm:m < C.length:=by have:=HM.out.cells;have h1:=hn.2;rw [this,List.length_map]at h1;omega
         have Hm:=qh hm
         clear hn hm
         have hmk:=made256r
         go_enter Tryz.func59,Tryz.ntmps59
         go_wp2_with fail
         refine HT.out.mono ?_
         rintro e w' ⟨rfl,rfl⟩
         go_wp2_with fail
         refine HTn.out.mono ?_
         rintro e w4 ⟨rfl,hd4,hc4⟩
         have hbn:=below_new w4 (.cells (u8s zero256).toArray 5)
         have hB5:=BlockIs.made w4 5 (u8s zero256).toArray
         have hb4:BytesAt w4 A bs:=by
          refine⟨Hb.out.1,fun hne=> ?_⟩
          obtain⟨b,off,e,hc⟩:=Hb.out.2 hne
          exact⟨b,off,e,fun i hi=>(World.cell?_of_block (a:=⟨b,off+i,none⟩) (hc4.block b (World.block_lt_of_cell? _ _ (hc i hi)) (HA.out hne _ e))).trans (hc i hi)⟩
         have HD4:=qh (And.intro hd4 (And.intro hc4 (And.intro hbn (And.intro hB5 (hb4.below hbn)))))
         clear hd4 hc4 hbn hB5 hb4
         have G1:=qh (show(u8s bs).length=Nat.min bs.length 256 by rw [u8s_len];show bs.length=min bs.length 256;omega)
         have G2:=qh (show 0+(u8s bs).length≤(u8s zero256).length by rw [u8s_len,u8s_len,zero256_len];omega)
         have G3:Hid (0 < (u8s bs).length→ ∃ad,A=some ad∧ ∀j v,(u8s bs)[j]? =some v→(w4.alloc (.cells (u8s zero256).toArray 5)).cell? (ad.add j)=some v):=qh fun hp=>by
          have hne:bs≠ []:=by rintro rfl;exact absurd hp (by decide)
          obtain⟨b,off,e,hc⟩:=HD4.out.2.2.2.2.2 hne
          refine⟨⟨b,off,none⟩,e,fun j v hj=> ?_⟩
          unfold u8s at hj
          rw [List.getElem?_map]at hj
          cases hq:bs[j]? with
          | none=>rw [hq]at hj;cases hj
          | some z=>
            rw [hq]at hj
            obtain rfl:Value.int .u8 z=v:=by simpa using hj
            rw [Addr.add_mid,hc j (List.getElem?_eq_some_iff.1 hq).1,List.getD_eq_getElem?_getD,hq];rfl
         have G4:=qh (u8s_one bs)
         go_upto_region 9 with(refine wpList_copy_splice rfl (.tmp 25) (.tmp 26) 28 28 rfl 5 Tryz.underlying28 (by kernel_rfl) (some ⟨w4.heap.size,0,none⟩) A 256 256 bs.length c rfl rfl w4.heap.size 0 (u8s zero256) 5 HD4.out.2.2.2.1 (u8s bs) G1.out (fun hp=>⟨rfl,G3.out hp⟩) G2.out G4.out w4.heap.size w4 HD4.out.2.2.1 (Nat.le_refl _) ?_;intro w6 hG6 hB6)
         have ho6:=own_over (xs:=zero256) (ys:=bs) (cur:=u8s zero256) (cap:=256) (m:=256) zero256_len (by omega) (by rw [u8s_len,zero256_len]) (Nat.le_refl _) (by decide) (List.take_of_length_le (by rw [u8s_len,zero256_len];exact Nat.le_refl _)) hG6.out
         rw [pad_over]at ho6
         have hlt6:=(ho6.lt w4.heap.size rfl).2
         have hT6: ∀j,(T j∨j=w4.heap.size)→j < w6.heap.size:=by
          rintro j (hj | rfl)
          · exact Nat.lt_of_lt_of_le (HD4.out.1.foot j hj) hB6.size
          · exact hlt6
         have H6:=qh (show RB.ok w6 (fun j=>T j∨j=w4.heap.size) ⟨w4.heap.size,256,padB bs⟩∧Below w4.heap.size w4 w6 from⟨⟨ho6,padB_ok (by omega) Hb.out.1,.inr rfl⟩,hB6⟩)
         have HT6:=qh hT6
         clear hG6 hB6 ho6 hlt6 hT6 G1 G2 G3 G4
         have c1:=(HD4.out.1.below H6.out.2).cell6.2.1
         have f1:=(HD4.out.1.below H6.out.2).blk.free 1
         have Hsz8:=qh (below_new w6 (.cells (RL.cells ⟨m,⟨w4.heap.size,256,padB bs⟩⟩).toArray 150))
         have Hwo:=qh ((HD4.out.1.below H6.out.2).below Hsz8.out)
         have Hnw:Hid (∀j v,(RL.cells ⟨m,⟨w4.heap.size,256,padB bs⟩⟩)[j]? =some v→(w6.alloc (.cells (RL.cells ⟨m,⟨w4.heap.size,256,padB bs⟩⟩).toArray 150)).cell? ((⟨w6.heap.size,0,none⟩:Addr).add j)=some v):=qh (fun j v hj=>by rw [Addr.add_mid,Nat.zero_add];exact((BlockIs.made w6 _ _).cell j).trans (by rw [List.getElem?_toArray];exact hj))
         have HLl:=qh (show L.length≤1000000 by have h1:=HF.out.ws;rw [HM.out.waits,List.length_map]at h1;exact h1)
         obtain⟨i0,hi,hz0,hz1,hz2⟩:=info_parts infoLate
         go_wp2_with (refine wpList_append_own_at _ rfl (.tmp 32) (.tmp 36) 52 rfl 0 150 i0 (.agg #[.int .i64 0,.slice none 0 0]) 2 32 Tryz.underlying52 hi hz0 hz1 hz2 rfl (by decide) wv L.length (L.flatMap RL.cells) rfl Hwo.out.wown ⟨w6.heap.size,0,none⟩ 1 1 (RL.cells ⟨m,⟨w4.heap.size,256,padB bs⟩⟩) rfl rfl Hnw.out (RL.one _) (by have:=HLl.out;unfold maxLen;omega) (by have:=HLl.out;omega) (Nat.zero_le _) ?_;intro v7 w7 ho7 hg7 _ hl7;obtain⟨X7,cap7,hv7,_,_⟩:=own_slice ho7;subst hv7;have H7:=qh (And.intro ho7 (And.intro hg7 hl7));have d5:w7.cell? ⟨h,1,none⟩=some wv:=H7.out.2.1.cell Hwo.out.cell6.2.1 (fun e=>own_tag Hwo.out.wown Hwo.out.blk (by decide) e.symm);have f5:w7.frozen? ⟨h,1,none⟩=false:=(World.frozen?_of_block (a:=⟨h,1,none⟩) (H7.out.2.1.block h Hwo.out.lt (fun e=>own_tag Hwo.out.wown Hwo.out.blk (by decide) e.symm))).trans (Hwo.out.blk.free 1);clear ho7 hg7 hl7)
         clear hi hz0 hz1 hz2
         go_ret
         rw [Hw.out]
         have hs8:=Hsz8.out.size
         have hs6:=H6.out.2.size
         have hs4:=HD4.out.2.1.size
         obtain⟨hR,hC⟩:=RefR.setWv (T':=fun j=>T j∨j=w4.heap.size) HD4.out.1 (l:=⟨m,⟨w4.heap.size,256,padB bs⟩⟩) (H6.out.2.trans (Hsz8.out.mono hs6)) Hm.out (H6.out.1.keep (Hsz8.out.block _ (HT6.out _ (.inr rfl))) (.inr rfl)) (fun _ hj=> .inl hj) H7.out.1 H7.out.2.1 H7.out.2.2 (fun j hj=>Nat.lt_of_lt_of_le (HT6.out j hj) hs8)
         have hs7:=H7.out.2.1.size
         have hw47:w4.heap.size < w7.heap.size:=Nat.lt_of_lt_of_le (HT6.out _ (.inr rfl)) (Nat.le_trans hs8 hs7)
         have hC2:Chg T w (w7.setCell ⟨h,1,none⟩ (.slice X7 (L.length+1) cap7)):=HD4.out.2.1.trans (hC.mono (fun _ hj=> .inl hj))
         refine⟨rfl,Ref3.of (hR.mono ?_ (grow_lt HR.out.foot hC2.size)) ⟨HM.out.cells,?_,?_,?_,HM.out.cr,HM.out.dn,?_⟩ hC2⟩
         · rintro j ((hj | hj) | hj)
           · exact .inl hj
           · exact .inr ⟨by rw [hj];exact hs4,by rw [show (w7.setCell ⟨h,1,none⟩ (.slice X7 (L.length+1) cap7)).heap.size=w7.heap.size by simp [World.setCell],hj];exact hw47⟩
           · exact .inr ⟨Nat.le_trans (Nat.le_trans hs4 (Nat.le_trans hs6 hs8)) hj.1,by rw [show (w7.setCell ⟨h,1,none⟩ (.slice X7 (L.length+1) cap7)).heap.size=w7.heap.size by simp [World.setCell]];exact hj.2⟩
         · show D.waits++ [((m:Int).toNat,padB bs)]=_
           rw [HM.out.waits,List.map_append,Int.toNat_natCast];rfl
         · show _=(((D.armed - 1:Nat)):Int)
           rw [HM.out.ar];split<;>omega
         · show _=(((D.turns+1:Nat)):Int)
           rw [HM.out.tu];omega
         · show D.armed - 1≤_
           have:=HM.out.lo;omega
   · have Hw:Hid (D.write n bs=(2,D)):=qh (by unfold DM.write;rw [if_neg (by rw [hd];decide),if_pos (.inl hn)])
     rw [decide_eq_false hn]at HT
     clear hd hn
     go_enter Tryz.func59,Tryz.ntmps59
     go_wp2_with fail
     refine HT.out.mono ?_
     rintro e w' ⟨rfl,rfl⟩
     go_wp2_with fail
     go_ret
     rw [Hw.out]
     exact⟨rfl,Ref3.same Hk.out⟩
end
end Go.Proofs.YtpaikolnampcfaaGreatDoor
