/- What every text of the kit shares: rows of bytes in memory, rows of rows, owned rows of bytes, what stays below, cuts of a slice. -/
import Derived.Test.YtpaikolnampcfaaGreatDoorProg
import Derived.WalkKit
import Derived.WalkLawsBesides
import Derived.WalkSpells
import Derived.Laws.BitsAllLaws
import Derived.LoopTactic
import Derived.Lib.Hide
import Derived.Deep.LoopGhost
import Derived.Outline
import Derived.RegionTactic
import Derived.BigRegion
import Derived.Below
import Derived.OwnWalk
import Derived.Laws.OwnMore
import Derived.Laws.ShiftsVarLaws
import Derived.Deep.QuietTactic
import Derived.BigQuiet
import Derived.Deep.RegionWith
import Derived.Deep.RegionHeld3
import Derived.Deep.WholeRow
import Derived.ProofKit
import Derived.OpenShut
import Derived.LaidMore
import Derived.Stop.Joined
import Derived.Stop.LaidErr
import Derived.SizedLaws
import Derived.Carry
import Derived.Deep.Slices
import Derived.Test.YtpaikolnampcfaaGreatDoorRows
import Derived.Test.YtpaikolnampcfaaGreatDoorCards
import Derived.Test.YtpaikolnampcfaaGreatDoorTie
import Derived.LaidHandle
import Derived.LaidLaws
import Derived.Maps.AppendAt
import Derived.Test.YtpaikolnampcfaaGreatDoorChecked
import Derived.LaidEql
import Derived.Stop.Asserts
import Derived.RowKitTokens
namespace Go.Proofs.YtpaikolnampcfaaGreatDoor
set_option maxRecDepth 100000
set_option maxHeartbeats 1000000
theorem qh {p:Prop} (h:p):RowKit.Hid p:=h
open Go.RowKit
theorem ret_int {k:IntKind} {a b:Int} (h:a=b):Ending.returned (.int k a)= .returned (.int k b):=by rw [h]
theorem val_int {k:IntKind} {a b:Int} (h:a=b):Value.int k a= .int k b:=by rw [h]
def BytesAt (w:World) (A:Option Addr) (zs:List Int):Prop:=
 (∀z∈zs,0≤z∧z < 256)∧(zs≠ []→ ∃b off,A=some ⟨b,off,none⟩∧ ∀i,i < zs.length→w.cell? ⟨b,off+i,none⟩=some (.int .u8 (zs.getD i 0)))
theorem BytesAt.tail4 {w:World} {b off:Nat} {z0 z1 z2 z3:Int} {rest:List Int} (h:BytesAt w (some ⟨b,off,none⟩) (z0::z1::z2::z3::rest)):BytesAt w (some ⟨b,off+4,none⟩) rest:=by
 refine⟨fun z hz=>h.1 z (by simp [hz]),fun _=>⟨b,off+4,rfl,fun i hi=> ?_⟩⟩
 obtain⟨b',off',e,hc⟩:=h.2 (by simp)
 obtain⟨rfl,rfl⟩:b=b'∧off=off':=by simpa using e
 have:=hc (i+4) (by simp;omega)
 rw [show off+4+i=off+(i+4) by omega]
 simpa using this
theorem BytesAt.nil (w:World) (A:Option Addr):BytesAt w A []:=⟨(fun z hz=>by cases hz),(fun h=>absurd rfl h)⟩
theorem BytesAt.one {w:World} {b off:Nat} {zs:List Int} (h:BytesAt w (some ⟨b,off,none⟩) zs) (i:Nat) (hi:i < zs.length):w.cell? ⟨b,off+i,none⟩=some (.int .u8 (zs.getD i 0)):=by
 obtain⟨b',off',e,hc⟩:=h.2 (by intro e;simp [e]at hi)
 obtain⟨rfl,rfl⟩:b=b'∧off=off':=by simpa using e
 exact hc i hi
theorem BytesAt.some_ {w:World} {A:Option Addr} {zs:List Int} (h:BytesAt w A zs) (hne:zs≠ []): ∃b off,A=some ⟨b,off,none⟩:=by
 obtain⟨b,off,e,_⟩:=h.2 hne
 exact⟨b,off,e⟩
theorem Below.drewN {B:Nat} {a w:World} (h:Below B a w) (n:Nat):Below B a (w.drewN n):=⟨h.os,h.tape,h.output,h.size,h.block⟩
structure Part where
 A:Option Addr
 zs:List Int
 cap:Nat
def Part.val (p:Part):Value:= .slice p.A p.zs.length p.cap
def Part.ok (w:World) (p:Part):Prop:=BytesAt w p.A p.zs∧p.zs.length≤p.cap∧p.cap≤9223372036854775807
def PartsAt (w:World) (A:Option Addr) (ps:List Part):Prop:=
 (∀p∈ps,p.ok w)∧(ps≠ []→ ∃b off,A=some ⟨b,off,none⟩∧ ∀i p,ps[i]? =some p→w.cell? ⟨b,off+i,none⟩=some p.val)
def bytesOf (ps:List Part):List Int:=ps.flatMap (·.zs)
theorem BytesAt.below {w w':World} {A:Option Addr} {zs:List Int} (h:BytesAt w A zs) (hb:Below w.heap.size w w'):BytesAt w' A zs:=
 ⟨h.1,fun hne=>by
  obtain⟨b,off,e,hc⟩:=h.2 hne
  exact⟨b,off,e,fun i hi=>(hb.cell (p:=⟨b,off+i,none⟩) (World.block_lt_of_cell? _ _ (hc i hi))).trans (hc i hi)⟩⟩
theorem Part.ok.below {w w':World} {p:Part} (h:p.ok w) (hb:Below w.heap.size w w'):p.ok w':=⟨h.1.below hb,h.2⟩
theorem PartsAt.below {w w':World} {A:Option Addr} {ps:List Part} (h:PartsAt w A ps) (hb:Below w.heap.size w w'):PartsAt w' A ps:=
 ⟨fun p hp=>(h.1 p hp).below hb,fun hne=>by
  obtain⟨b,off,e,hc⟩:=h.2 hne
  exact⟨b,off,e,fun i p hp=>(hb.cell (p:=⟨b,off+i,none⟩) (World.block_lt_of_cell? _ _ (hc i p hp))).trans (hc i p hp)⟩⟩
theorem undrew {B:Nat} {w w1:World} (h:Below B w.drew w1):Below B w w1:=⟨h.os,h.tape,h.output,h.size,h.block⟩
theorem bytesAt_cells {w:World} {b off:Nat} {zs:List Int} (hr: ∀z∈zs,0≤z∧z < 256) (hc: ∀i,i < zs.length→w.cell? ⟨b,off+i,none⟩=some (.int .u8 (zs.getD i 0))):BytesAt w (some ⟨b,off,none⟩) zs:=
 ⟨hr,fun _=>⟨b,off,rfl,hc⟩⟩
theorem cell_row (W:World) (v:Value) (t:TypeId):(W.alloc (.cells #[v] t)).cell? ⟨W.heap.size,0,none⟩=some v:=by rw [World.cell?_alloc_new];rfl
theorem row3_cells (W:World) (x y z:Value) (t:TypeId):(W.alloc (.cells #[x,y,z] t)).cell? ⟨W.heap.size,0,none⟩=some x∧(W.alloc (.cells #[x,y,z] t)).cell? ⟨W.heap.size,1,none⟩=some y∧(W.alloc (.cells #[x,y,z] t)).cell? ⟨W.heap.size,2,none⟩=some z:=by
 rw [World.cell?_alloc_new,World.cell?_alloc_new,World.cell?_alloc_new];exact⟨rfl,rfl,rfl⟩
theorem below_new (w:World) (o:Obj):Below w.heap.size w (w.alloc o):=(Below.refl _ _).alloc (Nat.le_refl _) o
theorem infoByte :(Tryz.prog.info? 5).map (fun i=>(i.zero,i.size,i.bytes))=some (some (.int .u8 0),1,1):=by kernel_rfl
def u8s (zs:List Int):List Value:=zs.map (Value.int .u8)
theorem own_bytes {w:World} {B g n cap:Nat} {zs:List Int} (h:w.ownsRow B 5 1 (.slice (some ⟨g,0,none⟩) n cap) n (u8s zs)) (hr: ∀z∈zs,0≤z∧z < 256):BytesAt w (some ⟨g,0,none⟩) zs:=by
 refine⟨hr,fun _=>⟨g,0,rfl,fun i hi=> ?_⟩⟩
 have hl:(u8s zs).length=n * 1:=h.1
 have hn:i < n * 1:=by rw [← hl];simpa [u8s] using hi
 rw [Nat.zero_add,h.cellAt i hn]
 simp [u8s,List.getD_eq_getElem?_getD,List.getElem?_eq_getElem hi]
theorem u8s_set (zs:List Int) (q:Nat) (z:Int):(u8s zs).set q (.int .u8 z)=u8s (zs.set q z):=by unfold u8s;rw [List.map_set]
theorem set_same (zs:List Int) (q:Nat) (hq:q < zs.length):zs.set q (zs.getD q 0)=zs:=by
 rw [List.getD_eq_getElem?_getD,List.getElem?_eq_getElem hq,Option.getD_some];exact List.set_getElem_self hq
theorem ownsRow_drew {w:World} {B:Nat} {e:TypeId} {size n:Nat} {v:Value} {xs:List Value} (h:w.ownsRow B e size v n xs):w.drew.ownsRow B e size v n xs:=h
theorem drewN_below {B:Nat} {a w:World} (h:Below B a w) (n:Nat):Below B a (w.drewN n):=Below.drewN h n
theorem own_form {w:World} {B:Nat} {e:TypeId} {size n:Nat} {v:Value} {xs:List Value} (h:w.ownsRow B e size v n xs) (hn:0 < n):
 ∃g cap,v= .slice (some ⟨g,0,none⟩) n cap∧B≤g∧g < w.heap.size∧n≤cap∧cap≤maxLen:=by
 rcases h.2 with⟨_,h0⟩ | ⟨g,cap,cur,hv,hb,hg,hc,hm,_,_⟩
 · omega
 · refine⟨g,cap,hv,hb,?_,hc,hm⟩
   rcases Nat.lt_or_ge g w.heap.size with hlt | hge
   · exact hlt
   · rw [Array.getElem?_eq_none hge]at hg;cases hg
theorem src_cells (zs:List Int) (zb zo:Nat) (w:World) (o:Obj) (hc: ∀i,i < zs.length→w.cell? ⟨zb,zo+i,none⟩=some (.int .u8 (zs.getD i 0))):
 ∀j u,(u8s zs)[j]? =some u→(w.alloc o).cell? ((⟨zb,zo,none⟩:Addr).add j)=some u:=by
 intro j u hj
 simp only [u8s,List.getElem?_map]at hj
 cases hq:zs[j]? with
 | none=>simp [hq]at hj
 | some z=>
   obtain rfl:Value.int .u8 z=u:=by simpa [hq] using hj
   have hlt:=(List.getElem?_eq_some_iff.1 hq).1
   have hadd:(⟨zb,zo,none⟩:Addr).add j=⟨zb,zo+j,none⟩:=by unfold Addr.add;split<;>simp_all
   have h1:=hc j hlt
   rw [List.getD_eq_getElem?_getD,hq]at h1
   rw [hadd,World.cell?_alloc_lt _ _ _ (World.block_lt_of_cell? _ _ h1)]
   exact h1
theorem u8s_one (zs:List Int): ∀u∈u8s zs,u.oneCell'=true:=by
 intro u hu
 simp only [u8s,List.mem_map]at hu
 obtain⟨z,_,rfl⟩:=hu
 rfl
theorem u8s_app (xs ys:List Int):u8s xs++u8s ys=u8s (xs++ys):=by unfold u8s;rw [List.map_append]
theorem u8s_snoc (xs:List Int) (z:Int):u8s (xs++ [z])=u8s xs++ [.int .u8 z]:=by unfold u8s;rw [List.map_append];rfl
theorem u8s_len (xs:List Int):(u8s xs).length=xs.length:=by unfold u8s;simp
theorem own_same {w:World} {B:Nat} {e:TypeId} {size n m:Nat} {v:Value} {xs ys:List Value} (h:w.ownsRow B e size v n xs) (hn:n=m) (hx:xs=ys):w.ownsRow B e size v m ys:=by subst hn;subst hx;exact h
theorem grown_of_below {w w':World} (hb:Below w.heap.size w w'):w.grownBy w' none:=⟨hb.os,hb.tape,hb.output,hb.size,fun k hk _=>hb.block k hk⟩
theorem own_slice {w:World} {B:Nat} {e:TypeId} {size n:Nat} {v:Value} {xs:List Value} (h:w.ownsRow B e size v n xs): ∃X cap,v= .slice X n cap∧n≤cap∧cap≤maxLen:=by
 rcases h.2 with⟨rfl,rfl⟩ | ⟨g,cap,cur,rfl,_,_,hc,hm,_⟩
 · exact⟨none,0,rfl,Nat.le_refl _,by decide⟩
 · exact⟨some ⟨g,0,none⟩,cap,rfl,hc,hm⟩
theorem cell_below {w w1:World} {v:Value} {a:Addr} (hc:w.cell? a=some v) (hb:Below w.heap.size w w1):w1.cell? a=some v:=(hb.cell (World.block_lt_of_cell? _ _ hc)).trans hc
def total (ps:List Part):Nat:=(ps.map fun p=>p.zs.length).sum
theorem total_snoc (ps:List Part) (k:Nat) (p:Part) (h:ps[k]? =some p):total (ps.take (k+1))=total (ps.take k)+p.zs.length:=by
 unfold total
 rw [List.take_add_one,h];simp
theorem own_reads {w:World} {B n cap:Nat} {X:Option Addr} {zs:List Int} (h:w.ownsRow B 5 1 (.slice X n cap) n (u8s zs)) (hr: ∀z∈zs,0≤z∧z < 256):BytesAt w X zs:=by
 rcases Nat.eq_zero_or_pos n with h0 | h0
 · subst h0
   have hl:(u8s zs).length=0:=by simpa using h.1
   rw [u8s_len]at hl
   obtain rfl:=List.eq_nil_of_length_eq_zero hl
   exact BytesAt.nil _ _
 · obtain⟨g,c,e,_⟩:=own_form h h0
   obtain⟨rfl,rfl⟩:X=some ⟨g,0,none⟩∧cap=c:=by simpa using e
   exact own_bytes h hr
theorem ownsRow_below {w w':World} {B:Nat} {e:TypeId} {size n:Nat} {v:Value} {xs:List Value} (h:w.ownsRow B e size v n xs) (hb:Below w.heap.size w w'):w'.ownsRow B e size v n xs:=by
 refine h.kept (grown_of_below hb) ?_
 cases hv:Value.ownBlock v with
 | none=>exact .inl rfl
 | some g=>exact .inr (by simp)
def cutAt (X:Option Addr) (cap k:Nat):Option Addr:=if cap=k then X else Option.map (fun x=>x.add k) X
theorem cut_reads {W:World} {X:Option Addr} {zs:List Int} {cap k:Nat} (h:BytesAt W X zs) (hk:zs.length≤cap):BytesAt W (cutAt X cap k) (zs.drop k):=by
 refine⟨fun z hz=>h.1 z (List.mem_of_mem_drop hz),fun hne=> ?_⟩
 have hlt:k < zs.length:=by
  rcases Nat.lt_or_ge k zs.length with h1 | h1
  · exact h1
  · exact absurd (List.drop_eq_nil_of_le h1) hne
 obtain⟨b,off,rfl,hc⟩:=h.2 (by intro e;simp [e]at hlt)
 unfold cutAt
 rw [if_neg (by omega)]
 refine⟨b,off+k,?_,fun i hi=> ?_⟩
 · show some ((⟨b,off,none⟩:Addr).add k)=_
   congr 1
   unfold Addr.add;split<;>simp_all
 · rw [List.length_drop]at hi
   rw [Nat.add_assoc,hc (k+i) (by omega)]
   simp [List.getD_eq_getElem?_getD]
theorem front_reads {W:World} {X:Option Addr} {zs:List Int} {k:Nat} (h:BytesAt W X zs):BytesAt W X (zs.take k):=by
 refine⟨fun z hz=>h.1 z (List.mem_of_mem_take hz),fun hne=> ?_⟩
 obtain⟨b,off,e,hc⟩:=h.2 (by intro e;subst e;simp at hne)
 refine⟨b,off,e,fun i hi=> ?_⟩
 rw [List.length_take]at hi
 rw [hc i (by omega)]
 simp only [List.getD_eq_getElem?_getD]
 rw [List.getElem?_take_of_lt (by omega)]
theorem row2_cells (W:World) (x y:Value) (t:TypeId):(W.alloc (.cells #[x,y] t)).cell? ⟨W.heap.size,0,none⟩=some x∧(W.alloc (.cells #[x,y] t)).cell? ⟨W.heap.size,1,none⟩=some y:=by
 rw [World.cell?_alloc_new,World.cell?_alloc_new];exact⟨rfl,rfl⟩
theorem cut_run1 (X:Option Addr) (n k cap:Nat) (w:World) (h1:k≤n):(Instr.slice 28 (.slice X n cap) (some (.int .i64 (k:Int))) none none).run Tryz.prog w= .ok (.slice (cutAt X cap k) (n - k) (cap - k)) w:=by
 have hs:(sizeOf (Tryz.prog.elem 28)).run Tryz.prog w= .ok 1 w:=by kernel_rfl
 rw [run_slice_l w 28 X n cap (by kernel_rfl) .i64 k (by omega) (by omega),hs]
 simp [Result.andThen,sliced,cutAt]
open Go.ChangeShapes Go.WideShapes Go.RowKit
theorem trodAll_below {H:Type} {enc:TypeId × Value→H} {P:Program} (hl:laidOutB P=true) {W W':World} (hb:Below W.heap.size W W'):
 ∀ {ts:List TypeId} {vs:List Value} {ds:List (DataW H)} {ps:List MemPlace},ts.all (fun t=>P.readableRec t&&decide (t < P.types.size))=true→DataW.TrodAll enc P W 0 (fun _=>true) true ts vs ds ps→(∀x∈ps,x.block < W.heap.size)→
  DataW.TrodAll enc P W' 0 (fun b=>decide (b < W.heap.size)) true ts vs ds ps
 | [],vs,ds,ps,_,h,_=>by
   obtain⟨rfl,rfl,rfl⟩:=trodAll_nil h
   exact trodAll_mk0
 | t::ts,vs,ds,ps,hr,h,hlt=>by
   obtain⟨v,vs',d,ds',p,q,rfl,rfl,rfl,h1,h2⟩:=trodAll_cons h
   rw [List.all_cons,Bool.and_eq_true,Bool.and_eq_true]at hr
   exact trodAll_cons_mk (Below.trod hl hr.1.1 (of_decide_eq_true hr.1.2) h1 hb (fun x hx=>hlt x (List.mem_append_left _ hx)))
    (trodAll_below hl hb hr.2 h2 (fun x hx=>hlt x (List.mem_append_right _ hx)))
theorem law_post {H:Type} {enc:TypeId × Value→H} {P:Program} {f:Func} {s:ChangeSpec} {W W':World} {args:Array Value} {ds gs:List (DataW H)} {before:List MemPlace} {bt:TypeId}
 (hl:laidOutB P=true) (hr:f.params.toList.all (fun t=>P.readableRec t&&decide (t < P.types.size))=true) (hres:f.resultTypes= #[bt]) (hbt:P.underlying bt=some .bool)
 (hs:s.vars= []) (hfn: ∀gs,gs= []→s.fn H (ds++gs)= { results:= [.lit (.bool true)],args:=ds })
 (hW:DataW.Whole enc P f.params.toList s.vars false W args.toList ds gs before) (hb:Below W.heap.size W W'):
 s.post enc P f false true false false W args (.bool true) W':=by
 have hW':=hW
 have hlt:=hW.lt
 obtain⟨p,q,hA0,hV,rfl,hfz,hnd⟩:=hW
 rw [hs]at hV
 obtain⟨rfl,rfl⟩:=trodVars_none hV
 have e:=hfn [] rfl
 refine⟨ds,[],p++ [],[],p,[],hW',?_,?_,?_,hb.frame _,fun h=>by cases h⟩
 · rw [e,hres];exact trodAll_mk1 (shut_bool hbt true)
 · rw [e];exact trodAll_below hl hb hr hA0 (fun x hx=>hlt x (List.mem_append_left _ hx))
 · rw [e,hs];rfl
theorem open_bytes {H:Type} {enc:TypeId × Value→H} {P:Program} {W:World} {base:Nat} {t e:TypeId} {v:Value} {d:DataW H} {ps:List MemPlace}
 (ht:P.underlying t=some (.slice e)) (he:P.underlying e=some (.int .u8)) (hc:P.cellsOf e=1) (hv:Value.okWide P W .any base t v) (h:DataW.Trod enc P W 0 (fun _=>true) true t v d ps):
 ∃(A:Option Addr) (zs:List Int) (cap:Nat),v= .slice A zs.length cap∧(∀z∈zs,0≤z∧z < 256)∧(zs≠ []→ ∃b off,A=some ⟨b,off,none⟩∧ ∀i,i < zs.length→W.cell? ⟨b,off+i,none⟩=some (.int .u8 (zs.getD i 0)))∧zs.length≤cap∧
  (d= .nil∧cap=0∨ ∃elems spare,d= .slice elems spare∧elems.length+spare.length=cap):=by
 obtain⟨a0,len,cap,rfl⟩:=okWide_slice ht hv
 obtain⟨fuel,hf⟩:=h
 rcases open_ints ht he hc hf with⟨hcs,hx⟩ | ⟨a,len',cap',zs,hcs,_,hl,hm,hz,hx,hcell,hwz⟩
 · simp [Value.cells]at hcs
   obtain⟨rfl,rfl,rfl⟩:=hcs
   simp only [Prod.mk.injEq]at hx
   exact⟨none,[],0,rfl,(fun z hz=>by cases hz),(fun h=>absurd rfl h),Nat.le_refl _,.inl ⟨hx.1,rfl⟩⟩
 · simp [Value.cells]at hcs
   obtain⟨rfl,rfl,rfl⟩:=hcs
   simp only [Prod.mk.injEq]at hx
   simp only [if_true]at hz
   have hlen:(zs.take len).length=len:=by rw [List.length_take,hz];omega
   refine⟨some a,zs.take len,cap,by rw [hlen],(fun z hzm=>by have:=bounds_u8 (hwz z (List.mem_of_mem_take hzm));omega),(fun hne=> ?_),by rw [hlen];exact hl,.inr ⟨_,_,hx.1,by simp [lits,hz];omega⟩⟩
   have hpos:0 < zs.length:=by
    rcases Nat.eq_zero_or_pos zs.length with h0 | h0
    · exact absurd (by rw [List.eq_nil_of_length_eq_zero h0];simp) hne
    · exact h0
   obtain⟨b,off,rfl,hc2⟩:=ints_at hcell hpos
   refine⟨b,off,rfl,fun i hi=> ?_⟩
   rw [hlen]at hi
   rw [hc2 i (by omega)]
   simp only [List.getD_eq_getElem?_getD]
   rw [List.getElem?_take_of_lt hi]
theorem weights_elem {H:Type} {P:Program} {e:TypeId} {elems:List (DataW H)} {d:DataW H} (hd:d∈elems): ∀n∈d.weights P e,n∈DataW.weightsAll P e elems:=by
 intro n hn
 induction elems with
 | nil=>cases hd
 | cons x r ih=>
   simp only [DataW.weightsAll,List.mem_append]
   rcases List.mem_cons.1 hd with rfl | h
   · exact .inl hn
   · exact .inr (ih h)
theorem reach_arg {H:Type} {P:Program} {ts:List TypeId} {ds:List (DataW H)} (h:(DataW.weightsEach P ts ds).all (· ≤reachBytes)=true) {j:Nat} {t:TypeId} {d:DataW H} (ht:ts[j]? =some t) (hd:ds[j]? =some d):
 ∀n∈d.weights P t,n≤reachBytes:=by
 intro n hn
 have:=List.all_eq_true.1 h n (DataW.weights_mem_each ht hd n hn)
 simpa using this
theorem open_bytes_raw {H:Type} {enc:TypeId × Value→H} {P:Program} {W:World} {held:Bool} {fuel:Nat} {t e:TypeId} {cs:List Value} {x:DataW H × List MemPlace}
 (ht:P.underlying t=some (.slice e)) (he:P.underlying e=some (.int .u8)) (hc:P.cellsOf e=1) (hby:P.bytesOf e=1) (h:DataW.trod enc P W 0 (fun _=>true) held fuel t cs=some x) (hw: ∀n∈x.1.weights P t,n≤reachBytes):
 ∃(A:Option Addr) (zs:List Int) (cap:Nat),cs= [.slice A zs.length cap]∧(∀z∈zs,0≤z∧z < 256)∧(zs≠ []→ ∃b off,A=some ⟨b,off,none⟩∧ ∀i,i < zs.length→W.cell? ⟨b,off+i,none⟩=some (.int .u8 (zs.getD i 0)))∧zs.length≤cap∧
  cap≤140737488351232∧(A=none→cap=0):=by
 rcases open_ints ht he hc h with⟨hcs,hx⟩ | ⟨a,len,cap,zs,hcs,_,hl,hm,hz,hx,hcell,hwz⟩
 · exact⟨none,[],0,hcs,(fun z hz=>by cases hz),(fun h=>absurd rfl h),Nat.le_refl _,Nat.zero_le _,fun _=>rfl⟩
 · simp only [if_true]at hz
   have hlen:(zs.take len).length=len:=by rw [List.length_take,hz];omega
   have hcap:cap≤140737488351232:=by
    have:=hw ((zs.take len).length * 1+(zs.drop len).length * 1) (by
     rw [hx]
     simp only [DataW.weights,ht,hby]
     refine List.mem_cons.2 (.inl ?_)
     simp [lits])
    simp only [List.length_take,List.length_drop,reachBytes]at this
    omega
   refine⟨some a,zs.take len,cap,by rw [hlen];exact hcs,(fun z hzm=>by have:=bounds_u8 (hwz z (List.mem_of_mem_take hzm));omega),(fun hne=> ?_),by rw [hlen];exact hl,hcap,fun e=>by cases e⟩
   have hpos:0 < zs.length:=by
    rcases Nat.eq_zero_or_pos zs.length with h0 | h0
    · exact absurd (by rw [List.eq_nil_of_length_eq_zero h0];simp) hne
    · exact h0
   obtain⟨b,off,rfl,hc2⟩:=ints_at hcell hpos
   refine⟨b,off,rfl,fun i hi=> ?_⟩
   rw [hlen]at hi
   rw [hc2 i (by omega)]
   simp only [List.getD_eq_getElem?_getD]
   rw [List.getElem?_take_of_lt hi]
open Go.ChangeShapes Go.WideShapes Go.RowKit Go.Deep
theorem own :ownKnob Tryz.prog.godebug=none:=by kernel_rfl
theorem laidOut :laidOutB Tryz.prog=true:=by kernel_rfl
theorem cellsStr :Tryz.prog.cellsOf 9=1:=by kernel_rfl
theorem cellsByte :Tryz.prog.cellsOf 5=1:=by kernel_rfl
theorem bytesByte :Tryz.prog.bytesOf 5=1:=by kernel_rfl
open Go.ChangeShapes Go.WideShapes Go.RowKit Go.Deep
theorem cellsInt :Tryz.prog.cellsOf 3=1:=by kernel_rfl
theorem cellsBytes :Tryz.prog.cellsOf 28=1:=by kernel_rfl
theorem addr_add2 (b off i j:Nat):((⟨b,off,none⟩:Addr).add i).add j=⟨b,off+i+j,none⟩:=by
 unfold Addr.add
 by_cases h1:i=0<;>by_cases h2:j=0<;>simp [h1,h2]
abbrev eKit (a:Addr):Value:= .iface 262 (.pointer (some a))
theorem starErr : "*" ++ "errors.errorString" = "*errors.errorString" :=by decide
theorem rowErr (u:TypeId) (h:Tryz.prog.typeName? 3 u=some "*errors.errorString"):u=262:=
 typeName_ptr_named (nm:= "errors.errorString") (by rw [starErr];kernel_rfl) (by kernel_rfl) (by decide) u (by rw [starErr];exact h)
theorem cellsErr :Tryz.prog.cellsOf 282=1:=by kernel_rfl
theorem sent_step {W:World} {n:String} {text:List UInt8} {r:List (String × DataW Unit)} {ps:List MemPlace} {g:Nat}
 (h:DataW.LaidVars Tryz.prog W ((n,.iface "*errors.errorString" (.ptr (.agg [.lit (.string text)])))::r) ps)
 (hrows: ∀b off,MemPlace.cell b off∈ps→(∃c t,W.heap[b]? =some (.cells c t (0,0)))∧ ∀u v,W.cell? ⟨b,off,none⟩=some (.iface u v)→Value.okWide Tryz.prog W .any 0 u v)
 (hg:Tryz.prog.globalNamed n=some g) (ht:(Tryz.prog.globals[g]?).map (·.type)=some 84):
 ∃(a:Addr) (X q:List MemPlace),W.cell? ⟨g,0,none⟩=some (eKit a)∧(∃c t,W.heap[a.block]? =some (.cells c t (0,0)))∧DataW.LaidVars Tryz.prog W r q∧ps=X++q∧MemPlace.cell a.block a.off∈X:=by
 obtain⟨g0,t0,cs0,f0,p0,q0,hg0,ht0,hv0,hd0,hrest,e0⟩:=h
 obtain rfl:=Option.some.inj (hg.symm.trans hg0)
 obtain rfl:=Option.some.inj (ht.symm.trans ht0)
 obtain⟨l0⟩:=cs0
 have ok0: ∀u v,l0= [.iface u v]→Value.okWide Tryz.prog W .any 0 u v:=fun u v e=>by
  subst e
  exact(hrows g 0 (by rw [e0];simp [MemPlace.row])).2 u v (by simpa using World.var?_cell hg0 hv0 0)
 obtain⟨a0,s0,rfl,hc0,hs0,hz0,hp0⟩:=errorString_of_trod Tryz.underlying84 rowErr Tryz.underlying262 Tryz.underlying282 rfl rfl Tryz.underlying9 cellsErr cellsStr hd0 ok0
 subst hp0
 have hin:MemPlace.cell a0.block a0.off∈ps:=by rw [e0];simp [MemPlace.row]
 have hcell:=World.var?_cell hg0 hv0 0
 exact⟨a0,_,q0,by simpa [eKit] using hcell,(hrows _ _ hin).1,hrest,e0,by simp [MemPlace.row]⟩
theorem places_ne {X q:List MemPlace} {a b:Addr} (hn:(X++q).Nodup) (ha:MemPlace.cell a.block a.off∈X) (hb:MemPlace.cell b.block b.off∈q):a≠b:=by
 rintro rfl
 exact(List.nodup_append.1 hn).2.2 _ ha _ hb rfl
theorem rows_tail {W:World} {X q:List MemPlace} (h: ∀b off,MemPlace.cell b off∈X++q→(∃c t,W.heap[b]? =some (.cells c t (0,0)))∧ ∀u v,W.cell? ⟨b,off,none⟩=some (.iface u v)→Value.okWide Tryz.prog W .any 0 u v):
 ∀b off,MemPlace.cell b off∈q→(∃c t,W.heap[b]? =some (.cells c t (0,0)))∧ ∀u v,W.cell? ⟨b,off,none⟩=some (.iface u v)→Value.okWide Tryz.prog W .any 0 u v:=
 fun b off hm=>h b off (List.mem_append_right _ hm)
open Go.RowKit
theorem ret_bool {a b:Bool} (h:a=b):Ending.returned (.bool a)= .returned (.bool b):=by rw [h]
theorem pick_neg (x n:Int) (hn:0 < n) (h:x.tmod n < 0):x.tmod n+n=x % n:=by
 have h1:=Int.tmod_eq_emod (a:=x) (b:=n)
 have h2:=Int.emod_nonneg x (show n≠0 by omega)
 have h3:=Int.emod_lt_of_pos x hn
 by_cases hc:0≤x∨n ∣ x
 · rw [if_pos hc]at h1;omega
 · rw [if_neg hc]at h1;omega
theorem pick_pos (x n:Int) (hn:0 < n) (h: ¬x.tmod n < 0):x.tmod n=x % n:=by
 have h1:=Int.tmod_eq_emod (a:=x) (b:=n)
 have h2:=Int.emod_nonneg x (show n≠0 by omega)
 have h3:=Int.emod_lt_of_pos x hn
 by_cases hc:0≤x∨n ∣ x
 · rw [if_pos hc]at h1;omega
 · rw [if_neg hc]at h1;omega
theorem tmod_bd (x n:Int) (hn:0 < n): -n < x.tmod n∧x.tmod n < n:=by
 have h1:=Int.tmod_eq_emod (a:=x) (b:=n)
 have h2:=Int.emod_nonneg x (show n≠0 by omega)
 have h3:=Int.emod_lt_of_pos x hn
 by_cases hc:0≤x∨n ∣ x
 · rw [if_pos hc]at h1;omega
 · rw [if_neg hc]at h1
   by_cases h0:x % n=0
   · exact absurd (.inr (Int.dvd_of_emod_eq_zero h0)) hc
   · omega
def sameB (xs ys:List Int):Bool:=decide (xs=ys)
theorem same_len (xs ys:List Int) (h:xs.length≠ys.length):sameB xs ys=false:=by unfold sameB;exact decide_eq_false (fun e=>h (by rw [e]))
theorem same_all (xs ys:List Int) (k:Nat) (h:xs.take k=ys.take k) (hx:k=xs.length) (hy:xs.length=ys.length):sameB xs ys=true:=by
 unfold sameB;rw [hx,List.take_length,hy,List.take_length]at h;exact decide_eq_true h
theorem same_not (xs ys:List Int) (k:Nat) (_:k < xs.length) (_:k < ys.length) (h:(xs.getD k 0 != ys.getD k 0)=true):sameB xs ys=false:=by
 unfold sameB;refine decide_eq_false (fun e=> ?_);subst e;simp at h
theorem same_next (xs ys:List Int) (k:Nat) (hx:k < xs.length) (hy:k < ys.length) (hp:xs.take k=ys.take k) (h:(xs.getD k 0 != ys.getD k 0)=false):xs.take (k+1)=ys.take (k+1):=by
 rw [List.take_add_one,List.take_add_one,hp,List.getElem?_eq_getElem hx,List.getElem?_eq_getElem hy]
 simp only [List.getD_eq_getElem?_getD,List.getElem?_eq_getElem hx,List.getElem?_eq_getElem hy,Option.getD_some]at h
 have:xs[k]=ys[k]:=by simpa using h
 rw [this]
theorem sameBytes_any (xs ys:List Int) (A B:Option Addr) (ca cb:Nat) (w:World) (ha:BytesAt w A xs) (hb:BytesAt w B ys) (_hx:xs.length≤9223372036854775807):
 Calls Tryz.prog 24 #[.slice A xs.length ca,.slice B ys.length cb] w fun e w'=>e= .returned (.bool (sameB xs ys))∧ ∃n,w'=w.drewN n:=by
 by_cases hl:xs.length=ys.length
 · have hne:((xs.length:Int) != (ys.length:Int))=false:=by rw [hl];simp
   have Hl:=qh hl;clear hl
   go_enter Tryz.func24,Tryz.ntmps24
   go_wp2_with fail
   go_loopg [5] xs.length (fun g i wx=>(∃nq,wx=w.drewN nq)∧ ∃k:Nat,k≤xs.length∧g=xs.length - k∧i= .int .i64 (k:Int)∧Hid (xs.take k=ys.take k))
   case atStart=>exact⟨⟨0,rfl⟩,0,by omega,rfl,rfl,qh rfl⟩
   case round=>
    obtain⟨⟨nq,rfl⟩,k,hk,hg,rfl,hp⟩:=hrel
    have Hg:=qh hg;clear hg
    by_cases hlt:k < xs.length
    · have hly:k < ys.length:=by have:=Hl.out;omega
      obtain⟨b1,o1,rfl⟩:=ha.some_ (by intro e;simp [e]at hlt)
      obtain⟨b2,o2,rfl⟩:=hb.some_ (by intro e;simp [e]at hly)
      have c1:=ha.one k hlt
      have c2:=hb.one k hly
      have Hs: ∀x y,xs.getD k 0=x→ys.getD k 0=y→Hid (((x != y)=true→sameB xs ys=false)∧((x != y)=false→xs.take (k+1)=ys.take (k+1))):=fun x y h1 h2=>
       qh ⟨fun h=>same_not xs ys k hlt hly (by rw [h1,h2];exact h),fun h=>same_next xs ys k hlt hly hp.out (by rw [h1,h2];exact h)⟩
      generalize xs.getD k 0=x at c1 Hs
      generalize ys.getD k 0=y at c2 Hs
      have Hs:=Hs x y rfl rfl
      go_wp2_with fail
      go_quiet (fail)
      go_wp2_with fail
      · go_ret
        exact⟨ret_bool (Hs.out.1 (by assumption)).symm,_,World.drewN_drewN _ _ _⟩
      · go_roundg (xs.length - (k+1))
        case measure=>rw [Hg.out];omega
        case rel=>exact⟨⟨_,rfl⟩,k+1,by omega,rfl,by go_num,qh (Hs.out.2 (by assumption))⟩
    · have hkk:k=xs.length:=by omega
      have Hk:=qh hkk;clear hkk
      go_wp2_with fail
      go_ret
      exact⟨ret_bool (same_all xs ys k hp.out Hk.out Hl.out).symm,_,rfl⟩
 · have hne:((xs.length:Int) != (ys.length:Int))=true:=by simp;omega
   have Hl:=qh hl;clear hl
   go_enter Tryz.func24,Tryz.ntmps24
   go_wp2_with fail
   go_ret
   exact⟨ret_bool (same_len xs ys Hl.out).symm,0,rfl⟩
open Go.RowKit
def BlockIs (w:World) (g:Nat) (t:TypeId) (cs:Array Value):Prop:=w.heap[g]? =some (.cells cs t (0,0))
section
variable {w w' : World} {g : Nat} {t : TypeId} {cs : Array Value}
theorem BlockIs.lt (h:BlockIs w g t cs):g < w.heap.size:=(Array.getElem?_eq_some_iff.1 h).1
theorem BlockIs.cell (h:BlockIs w g t cs) (i:Nat):w.cell? ⟨g,i,none⟩=cs[i]? :=cell_of_row w g i cs t (0,0) h
theorem BlockIs.free (h:BlockIs w g t cs) (i:Nat):w.frozen? ⟨g,i,none⟩=false:=by
 unfold BlockIs at h
 simp [World.frozen?,h]
theorem BlockIs.made (w:World) (t:TypeId) (cs:Array Value):BlockIs (w.alloc (.cells cs t)) w.heap.size t cs:=heap_alloc_new w _
theorem BlockIs.kept (h:BlockIs w g t cs) {row:Option Nat} (hg:w.grownBy w' row) (hne:some g≠row):BlockIs w' g t cs:=(hg.block g h.lt hne).trans h
theorem BlockIs.below {B:Nat} (h:BlockIs w g t cs) (hb:Below B w w') (hg:g < B):BlockIs w' g t cs:=(hb.block g hg).trans h
theorem BlockIs.set1 (h:BlockIs w g t cs) (i:Nat) (u:Value):BlockIs (w.setCell ⟨g,i,none⟩ u) g t (cs.setIfInBounds i u):=by
 unfold BlockIs at h ⊢
 simp [World.setCell,Array.getElem?_modify,h]
end
theorem grown_drewN {w w':World} {row:Option Nat} (h:w.grownBy w' row) (n:Nat):w.grownBy (w'.drewN n) row:=⟨h.os,h.tape,h.output,h.size,h.block⟩
theorem grown_set {w w':World} {g:Nat} (h:w.grownBy w' (some g)) {a:Addr} (ha:a.block=g∨w.heap.size≤a.block) (u:Value):w.grownBy (w'.setCell a u) (some g):=
 ⟨h.os,h.tape,h.output,by simpa [World.setCell] using h.size,fun k hk hne=>(Below.heap_setCell w' a u k (by
  rintro rfl
  rcases ha with rfl | ha
  · exact hne rfl
  · omega)).trans (h.block k hk hne)⟩
theorem grown_at {w w':World} {g:Nat} (h:w.grownBy w' (some g)) (i:Nat) (u:Value):w.grownBy (w'.setCell ⟨g,i,none⟩ u) (some g):=grown_set h (a:=⟨g,i,none⟩) (.inl rfl) u
theorem grown_below {w w':World} (h:Below w.heap.size w w') (row:Option Nat):w.grownBy w' row:=⟨h.os,h.tape,h.output,h.size,fun k hk _=>h.block k hk⟩
theorem below_grown {B:Nat} {a w w':World} {g:Nat} (h:Below B a w) (hg:w.grownBy w' (some g)) (hB:B≤w.heap.size) (hBg:B≤g):Below B a w':=
 h.grown hg hB (fun k e=>by cases e;exact hBg)
theorem BytesAt.far {w w':World} {A:Option Addr} {zs:List Int} {row:Option Nat} (h:BytesAt w A zs) (hg:w.grownBy w' row) (hne: ∀a,A=some a→some a.block≠row):BytesAt w' A zs:=
 ⟨h.1,fun hz=>by
  obtain⟨b,off,e,hc⟩:=h.2 hz
  exact⟨b,off,e,fun i hi=>hg.cell (hc i hi) (hne ⟨b,off,none⟩ e)⟩⟩
open Go.RowKit Go.Extern.Stop Go.Stop Go.Extern
abbrev errK (a:Addr):Value:= .iface 262 (.pointer (some a))
theorem isTypeOf (v:Value) (w:World):(Extern.ReflectliteType.typeOf #[.iface 262 v]).run Tryz.prog w= .ok (.iface 202 (.agg #[.pointer (some ⟨23,262,none⟩)])) w:=by kernel_rfl
theorem callTypeOf (v:Value) (w:World):(callFunc 112 #[.iface 262 v]).run Tryz.prog w= .ok (.value (.iface 202 (.agg #[.pointer (some ⟨23,262,none⟩)]))) w:=by
 rw [@run_callFunc_extern Tryz.prog 112 _ Extern.ReflectliteType.typeOf Tryz.func112 (by kernel_rfl) (by kernel_rfl) (by kernel_rfl) (by kernel_rfl),isTypeOf];rfl
theorem isComparable (w:World):((Extern.ReflectliteType.method fun t=>do Rtype.noPackHeld "Comparable" t;pure (.bool (← typeInfo t).comparable)) #[.agg #[.pointer (some ⟨23,262,none⟩)]]).run Tryz.prog w= .ok (.bool true) w:=by kernel_rfl
theorem callComparable (w:World):(callFunc 199 #[.agg #[.pointer (some ⟨23,262,none⟩)]]).run Tryz.prog w= .ok (.value (.bool true)) w:=by
 rw [@run_callFunc_extern Tryz.prog 199 _ (Extern.ReflectliteType.method fun t=>do Rtype.noPackHeld "Comparable" t;pure (.bool (← typeInfo t).comparable)) Tryz.func199 (by kernel_rfl) (by kernel_rfl) (by kernel_rfl) (by kernel_rfl),isComparable];rfl
theorem isMethodComparable (v:Value) (w:World):(Go.method 394 202 v "Comparable").run Tryz.prog w= .ok (199,v) w:=by kernel_rfl
theorem isComp :(Tryz.prog.info? 262).map (·.comparable)=some true:=by kernel_rfl
theorem isSize :(Tryz.prog.info? 282).map (·.size)=some 1:=by kernel_rfl
theorem noIsE (v:Value) (xT:TypeId) (w:World):(Instr.typeAssert (.iface 262 v) xT 204 true).run Tryz.prog w= .ok (.tuple #[.nilIface,.bool false]) w:=run_typeAssert_lacksB Tryz.underlying204 (by kernel_rfl) (by kernel_rfl) v xT w
theorem noUnwrapE (v:Value) (xT:TypeId) (w:World):(Instr.typeAssert (.iface 262 v) xT 207 true).run Tryz.prog w= .ok (.tuple #[.nilIface,.bool false]) w:=run_typeAssert_lacksB Tryz.underlying207 (by kernel_rfl) (by kernel_rfl) v xT w
theorem noUnwrapsE (v:Value) (xT:TypeId) (w:World):(Instr.typeAssert (.iface 262 v) xT 208 true).run Tryz.prog w= .ok (.tuple #[.nilIface,.bool false]) w:=run_typeAssert_lacksB Tryz.underlying208 (by kernel_rfl) (by kernel_rfl) v xT w
def There (w:World) (a:Addr):Prop:= ∃c t,w.heap[a.block]? =some (.cells c t (0,0))
theorem is_ptr_same (b:Addr) (w:World):
 Calls Tryz.prog 86 #[errK b,errK b] w fun e w'=>e= .returned (.bool true)∧w=w':=by
 obtain⟨i,hi,hcmp⟩:=Option.map_eq_some_iff.1 isComp
 obtain⟨j,hj,hjs⟩:=Option.map_eq_some_iff.1 isSize
 have tT:=callTypeOf
 have cT:=callComparable
 have mR:=isMethodComparable
 have heq:=fun w=>run_eql_iface_ptr_same (P:=Tryz.prog) w b Tryz.underlying84 Tryz.underlying262 hi hcmp hj
 unfold errK
 go_enter Tryz.func86,Tryz.ntmps86
 go_wp2
 refine wp_loop_rounds 2 ?_
 rw [rounds_succ]
 go_wp2
 go_ret
 exact⟨rfl,rfl⟩
theorem is_ptr_other (a b:Addr) (w:World) (hne:a≠b) (ha:There w a) (hb:There w b):
 Calls Tryz.prog 86 #[errK a,errK b] w fun e w'=>e= .returned (.bool false)∧w=w':=by
 obtain⟨i,hi,hcmp⟩:=Option.map_eq_some_iff.1 isComp
 obtain⟨j,hj,hjs⟩:=Option.map_eq_some_iff.1 isSize
 obtain⟨ca,ta,ha⟩:=ha
 obtain⟨cb,tb,hb⟩:=hb
 have tT:=callTypeOf
 have cT:=callComparable
 have mR:=isMethodComparable
 have nE:=noIsE
 have nU:=noUnwrapE
 have nUs:=noUnwrapsE
 have heq:=run_eql_iface_ptr_other (P:=Tryz.prog) w Tryz.underlying84 Tryz.underlying262 hi hcmp hj (by rw [hjs];decide) hne ha hb
 clear ha hb
 unfold errK
 go_enter Tryz.func86,Tryz.ntmps86
 go_wp2
 refine wp_loop_rounds 2 ?_
 rw [rounds_succ]
 go_wp2
 go_ret
 exact⟨rfl,rfl⟩
theorem There.lt {w:World} {a:Addr} (h:There w a):a.block < w.heap.size:=by
 obtain⟨c,t,h⟩:=h
 exact(Array.getElem?_eq_some_iff.1 h).1
theorem There.keep {w w':World} {a:Addr} (h:There w a) (hk:w'.heap[a.block]? =w.heap[a.block]?):There w' a:=by
 obtain⟨c,t,h⟩:=h
 exact⟨c,t,hk.trans h⟩
theorem There.below {w w':World} {a:Addr} (h:There w a) (hb:Below w.heap.size w w'):There w' a:=h.keep (hb.block _ h.lt)
open Go.RowKit
def grow (S:Nat→Prop) (w w':World):Nat→Prop:=fun k=>S k∨(w.heap.size≤k∧k < w'.heap.size)
theorem grow_trans {S:Nat→Prop} {w w1 w2:World} (h1:w.heap.size≤w1.heap.size) (h2:w1.heap.size≤w2.heap.size): ∀k,grow (grow S w w1) w1 w2 k→grow S w w2 k:=by
 rintro k ((h | h) | h)
 · exact .inl h
 · exact .inr ⟨h.1,by omega⟩
 · exact .inr ⟨by omega,h.2⟩
structure Chg (T:Nat→Prop) (w w':World):Prop where
 os:w'.os=w.os
 tape:w'.tape=w.tape
 output:w'.output=w.output
 size:w.heap.size≤w'.heap.size
 block: ∀k,k < w.heap.size→ ¬T k→w'.heap[k]? =w.heap[k]?
theorem Chg.refl (T:Nat→Prop) (w:World):Chg T w w:=⟨rfl,rfl,rfl,Nat.le_refl _,fun _ _ _=>rfl⟩
theorem Chg.trans {T:Nat→Prop} {w w1 w2:World} (h:Chg T w w1) (k:Chg (grow T w w1) w1 w2):Chg T w w2:=
 ⟨k.os.trans h.os,k.tape.trans h.tape,k.output.trans h.output,Nat.le_trans h.size k.size,fun j hj hT=>(k.block j (Nat.lt_of_lt_of_le hj h.size) (by
  rintro(h1 | h1)
  · exact hT h1
  · omega)).trans (h.block j hj hT)⟩
theorem Chg.of_grown {T:Nat→Prop} {w w':World} {row:Option Nat} (h:w.grownBy w' row) (hT: ∀b,row=some b→T b):Chg T w w':=
 ⟨h.os,h.tape,h.output,h.size,fun j hj hn=>h.block j hj (fun e=>hn (hT j e.symm))⟩
theorem Chg.of_below {T:Nat→Prop} {w w':World} (h:Below w.heap.size w w'):Chg T w w':=⟨h.os,h.tape,h.output,h.size,fun j hj _=>h.block j hj⟩
theorem Chg.drewN {T:Nat→Prop} {w w':World} (h:Chg T w w') (n:Nat):Chg T w (w'.drewN n):=⟨h.os,h.tape,h.output,h.size,h.block⟩
theorem Chg.below {T:Nat→Prop} {B:Nat} {a w w':World} (h:Chg T w w') (hb:Below B a w) (hT: ∀k,T k→B≤k) (hB:B≤w.heap.size):Below B a w':=
 ⟨h.os.trans hb.os,h.tape.trans hb.tape,h.output.trans hb.output,Nat.le_trans hb.size h.size,fun k hk=>(h.block k (by omega) (fun e=>by have:=hT k e;omega)).trans (hb.block k hk)⟩
theorem Chg.set {T:Nat→Prop} {w w':World} (h:Chg T w w') {b i:Nat} (hb:T b∨w.heap.size≤b) (v:Value):Chg T w (w'.setCell ⟨b,i,none⟩ v):=
 ⟨h.os,h.tape,h.output,by simpa [World.setCell] using h.size,fun k hk hT=>(Below.heap_setCell w' ⟨b,i,none⟩ v k (by
  intro e
  have e:k=b:=e
  rcases hb with hb | hb
  · exact hT (e ▸ hb)
  · omega)).trans (h.block k hk hT)⟩
theorem Chg.drew {T:Nat→Prop} {w w':World} (h:Chg T w w'):Chg T w w'.drew:=⟨h.os,h.tape,h.output,h.size,h.block⟩
theorem Chg.mono {S T:Nat→Prop} {w w':World} (h:Chg S w w') (hS: ∀k,S k→T k):Chg T w w':=⟨h.os,h.tape,h.output,h.size,fun k hk hT=>h.block k hk (fun e=>hT (hS k e))⟩
theorem Chg.on {T:Nat→Prop} {w w1 w2:World} (h:Chg T w w1) (hb:Below w1.heap.size w1 w2):Chg T w w2:=h.trans (Chg.of_below hb)
theorem grow_lt {S:Nat→Prop} {w w':World} (hS: ∀k,S k→k < w.heap.size) (hs:w.heap.size≤w'.heap.size): ∀k,grow S w w' k→k < w'.heap.size:=by
 rintro k (h | h)
 · exact Nat.lt_of_lt_of_le (hS k h) hs
 · exact h.2
theorem own_keep {w w':World} {B:Nat} {e:TypeId} {size n:Nat} {v:Value} {xs:List Value} (h:w.ownsRow B e size v n xs) (hk: ∀b,v.ownBlock=some b→w'.heap[b]? =w.heap[b]?):w'.ownsRow B e size v n xs:=by
 refine⟨h.1,?_⟩
 rcases h.2 with h | ⟨g,cap,cur,h1,h2,h3,h4⟩
 · exact .inl h
 · exact .inr ⟨g,cap,cur,h1,h2,(hk g (by rw [h1];rfl)).trans h3,h4⟩
theorem own_lt {w:World} {B:Nat} {e:TypeId} {size n:Nat} {v:Value} {xs:List Value} (h:w.ownsRow B e size v n xs) {b:Nat} (hb:v.ownBlock=some b):b < w.heap.size:=(h.lt b hb).2
theorem BlockIs.keep {w w':World} {g:Nat} {t:TypeId} {cs:Array Value} (h:BlockIs w g t cs) (hk:w'.heap[g]? =w.heap[g]?):BlockIs w' g t cs:=hk.trans h
theorem BytesAt.hold {w w':World} {A:Option Addr} {zs:List Int} (h:BytesAt w A zs) (hk: ∀a,A=some a→w'.heap[a.block]? =w.heap[a.block]?):BytesAt w' A zs:=
 ⟨h.1,fun hz=>by
  obtain⟨b,off,e,hc⟩:=h.2 hz
  exact⟨b,off,e,fun i hi=>(World.cell?_of_block (a:=⟨b,off+i,none⟩) (hk ⟨b,off,none⟩ e)).trans (hc i hi)⟩⟩
open Go.RowKit
def IntsAt (w:World) (A:Option Addr) (zs:List Int):Prop:=
 (∀z∈zs, -9223372036854775808≤z∧z≤9223372036854775807)∧(zs≠ []→ ∃b off,A=some ⟨b,off,none⟩∧ ∀i,i < zs.length→w.cell? ⟨b,off+i,none⟩=some (.int .i64 (zs.getD i 0)))
def i64s (zs:List Int):List Value:=zs.map (Value.int .i64)
theorem i64s_len (xs:List Int):(i64s xs).length=xs.length:=by unfold i64s;simp
theorem IntsAt.nil (w:World) (A:Option Addr):IntsAt w A []:=⟨(fun z hz=>by cases hz),(fun h=>absurd rfl h)⟩
theorem IntsAt.some_ {w:World} {A:Option Addr} {zs:List Int} (h:IntsAt w A zs) (hne:zs≠ []): ∃b off,A=some ⟨b,off,none⟩:=by
 obtain⟨b,off,e,_⟩:=h.2 hne
 exact⟨b,off,e⟩
theorem IntsAt.one {w:World} {b off:Nat} {zs:List Int} (h:IntsAt w (some ⟨b,off,none⟩) zs) (i:Nat) (hi:i < zs.length):w.cell? ⟨b,off+i,none⟩=some (.int .i64 (zs.getD i 0)):=by
 obtain⟨b',off',e,hc⟩:=h.2 (by intro e;simp [e]at hi)
 obtain⟨rfl,rfl⟩:b=b'∧off=off':=by simpa using e
 exact hc i hi
theorem IntsAt.bd {w:World} {A:Option Addr} {zs:List Int} (h:IntsAt w A zs) (i:Nat) (hi:i < zs.length): -9223372036854775808≤zs.getD i 0∧zs.getD i 0≤9223372036854775807:=by
 rw [List.getD_eq_getElem?_getD,List.getElem?_eq_getElem hi];exact h.1 _ (List.getElem_mem hi)
theorem IntsAt.below {w w':World} {A:Option Addr} {zs:List Int} (h:IntsAt w A zs) (hb:Below w.heap.size w w'):IntsAt w' A zs:=
 ⟨h.1,fun hne=>by
  obtain⟨b,off,e,hc⟩:=h.2 hne
  exact⟨b,off,e,fun i hi=>(hb.cell (p:=⟨b,off+i,none⟩) (World.block_lt_of_cell? _ _ (hc i hi))).trans (hc i hi)⟩⟩
theorem intsAt_lit (W:World) (zs:List Int) (hr: ∀z∈zs, -9223372036854775808≤z∧z≤9223372036854775807):IntsAt (W.alloc (.cells (i64s zs).toArray 3)) (some ⟨W.heap.size,0,none⟩) zs:=by
 refine⟨hr,fun _=>⟨W.heap.size,0,rfl,fun i hi=> ?_⟩⟩
 rw [World.cell?_alloc_new,Nat.zero_add,List.getElem?_toArray]
 unfold i64s
 rw [List.getElem?_map,List.getD_eq_getElem?_getD,List.getElem?_eq_getElem hi];rfl
theorem infoInt :(Tryz.prog.info? 3).map (fun i=>(i.zero,i.size,i.bytes))=some (some (.int .i64 0),1,8):=by kernel_rfl
theorem own_ints {w:World} {B n cap:Nat} {X:Option Addr} {zs:List Int} (h:w.ownsRow B 3 1 (.slice X n cap) n (i64s zs)) (hr: ∀z∈zs, -9223372036854775808≤z∧z≤9223372036854775807):IntsAt w X zs:=by
 refine⟨hr,fun hne=> ?_⟩
 have hl:zs.length=n:=by have:=h.1;rw [i64s_len]at this;omega
 have hn:0 < n:=by rw [← hl];exact List.length_pos_iff.2 hne
 obtain⟨g,c,e,_⟩:=own_form h hn
 obtain⟨rfl,rfl⟩:X=some ⟨g,0,none⟩∧cap=c:=by simpa using e
 refine⟨g,0,rfl,fun i hi=> ?_⟩
 rw [Nat.zero_add,h.cellAt i (by omega)]
 simp [i64s,List.getD_eq_getElem?_getD,List.getElem?_eq_getElem hi]
end Go.Proofs.YtpaikolnampcfaaGreatDoor
