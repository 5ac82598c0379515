/- Marks, rows of numbers that come in, opened. -/
import Derived.Test.YtpaikolnampcfaaGreatDoorLaw06Facts
import Derived.Test.YtpaikolnampcfaaGreatDoorMarkV
import Derived.Test.YtpaikolnampcfaaGreatDoorKitInts
namespace Go.Proofs.YtpaikolnampcfaaGreatDoor
set_option maxRecDepth 100000
open Go.ChangeShapes Go.WideShapes Go.RowKit Go.Deep
theorem open_i64s_raw {H:Type} {enc:TypeId × Value→H} {P:Program} {W:World} {held:Bool} {fuel:Nat} {t e:TypeId} {cs:List Value} {x:DataW H × List MemPlace}
 (ht:P.underlying t=some (.slice e)) (he:P.underlying e=some (.int .i64)) (hc:P.cellsOf e=1) (hby:P.bytesOf e=8) (h:DataW.trod enc P W 0 (fun _=>true) held fuel t cs=some x) (hw: ∀n∈x.1.weights P t,n≤reachBytes):
 ∃(A:Option Addr) (zs:List Int) (cap:Nat),cs= [.slice A zs.length cap]∧IntsAt W A zs∧zs.length≤cap∧cap≤140737488351232∧(A=none→cap=0):=by
 rcases open_ints ht he hc h with⟨hcs,hx⟩ | ⟨a,len,cap,zs,hcs,_,hl,hm,hz,hx,hcell,hwz⟩
 · exact⟨none,[],0,hcs,IntsAt.nil _ _,Nat.le_refl _,Nat.zero_le _,fun _=>rfl⟩
 · simp only [if_true]at hz
   have hlen:(zs.take len).length=len:=by rw [List.length_take,hz];omega
   have hcap:cap * 8≤140737488351232:=by
    have:=hw ((zs.take len).length * 8+(zs.drop len).length * 8) (by
     rw [hx]
     simp only [DataW.weights,ht,hby]
     refine List.mem_cons.2 (.inl ?_)
     simp [lits]
     omega)
    simp only [List.length_take,List.length_drop,reachBytes]at this
    omega
   refine⟨some a,zs.take len,cap,by rw [hlen];exact hcs,⟨fun z hzm=>bounds_i64 (hwz z (List.mem_of_mem_take hzm)),fun hne=> ?_⟩,by rw [hlen];exact hl,by omega,fun e=>by cases e⟩
   have hpos:0 < zs.length:=by
    rcases Nat.eq_zero_or_pos zs.length with h0 | h0
    · exact absurd (by rw [List.eq_nil_of_length_eq_zero h0];simp) hne
    · exact h0
   obtain⟨b,off,rfl,hc2⟩:=ints_at hcell hpos
   refine⟨b,off,rfl,fun i hi=> ?_⟩
   rw [hlen]at hi
   rw [hc2 i (by omega)]
   simp only [List.getD_eq_getElem?_getD]
   rw [List.getElem?_take_of_lt hi]
theorem cellsIdent :Tryz.prog.cellsOf 24=3:=by kernel_rfl
theorem cellsMark :Tryz.prog.cellsOf 26=5:=by kernel_rfl
theorem cellsEKind :Tryz.prog.cellsOf 22=1:=by kernel_rfl
theorem bytesInt :Tryz.prog.bytesOf 3=8:=by kernel_rfl
def MarkV.cells (m:MarkV):List Value:= [.int .i64 m.ver,.int .i64 m.idx,.int .i64 m.term,.int .i64 m.kind,.int .i64 m.void]
theorem open_ident_raw {H:Type} {enc:TypeId × Value→H} {W:World} {held:Bool} {fuel:Nat} {cs:List Value} {x:DataW H × List MemPlace}
 (h:DataW.trod enc Tryz.prog W 0 (fun _=>true) held fuel 24 cs=some x): ∃i t k:Int,cs= [.int .i64 i,.int .i64 t,.int .i64 k]:=by
 obtain⟨ys,n,_,hx,hl,hyl,hf⟩:=DataW.trod_struct Tryz.underlying24 h
 rw [cellsIdent]at hl
 have f0:DataW.trod enc Tryz.prog W 0 (fun _=>true) held n 3 ((cs.drop 0).take (Tryz.prog.cellsOf 3))=ys[0]? :=hf 0 _ rfl
 rw [cellsInt]at f0
 have f1:DataW.trod enc Tryz.prog W 0 (fun _=>true) held n 3 ((cs.drop 1).take (Tryz.prog.cellsOf 3))=ys[1]? :=hf 1 _ rfl
 rw [cellsInt]at f1
 have f2:DataW.trod enc Tryz.prog W 0 (fun _=>true) held n 22 ((cs.drop 2).take (Tryz.prog.cellsOf 22))=ys[2]? :=hf 2 _ rfl
 rw [cellsEKind]at f2
 obtain⟨y0,y1,y2,rfl⟩:=list3 ys hyl
 obtain⟨v0,v1,v2,rfl⟩:=list3 cs hl
 simp only [List.getElem?_cons_zero,List.getElem?_cons_succ,List.drop_zero,List.drop_succ_cons,List.take_succ_cons,List.take_zero]at f0 f1 f2
 obtain⟨n0,e0,_,_⟩:=DataW.trod_int Tryz.underlying3 f0
 obtain⟨n1,e1,_,_⟩:=DataW.trod_int Tryz.underlying3 f1
 obtain⟨n2,e2,_,_⟩:=DataW.trod_int Tryz.underlying22 f2
 simp only [List.cons.injEq,and_true]at e0 e1 e2
 subst e0 e1 e2
 exact⟨n0,n1,n2,rfl⟩
theorem open_mark_raw {H:Type} {enc:TypeId × Value→H} {W:World} {held:Bool} {fuel:Nat} {cs:List Value} {x:DataW H × List MemPlace}
 (h:DataW.trod enc Tryz.prog W 0 (fun _=>true) held fuel 26 cs=some x): ∃m:MarkV,cs=m.cells:=by
 obtain⟨ys,n,_,hx,hl,hyl,hf⟩:=DataW.trod_struct Tryz.underlying26 h
 rw [cellsMark]at hl
 have f0:DataW.trod enc Tryz.prog W 0 (fun _=>true) held n 3 ((cs.drop 0).take (Tryz.prog.cellsOf 3))=ys[0]? :=hf 0 _ rfl
 rw [cellsInt]at f0
 have f1:DataW.trod enc Tryz.prog W 0 (fun _=>true) held n 24 ((cs.drop 1).take (Tryz.prog.cellsOf 24))=ys[1]? :=hf 1 _ rfl
 rw [cellsIdent]at f1
 have f2:DataW.trod enc Tryz.prog W 0 (fun _=>true) held n 3 ((cs.drop 4).take (Tryz.prog.cellsOf 3))=ys[2]? :=hf 2 _ rfl
 rw [cellsInt]at f2
 obtain⟨y0,y1,y2,rfl⟩:=list3 ys hyl
 obtain⟨v0,v1,v2,v3,v4,rfl⟩: ∃a b c d e,cs= [a,b,c,d,e]:=by
  match cs,hl with
  | [a,b,c,d,e],_=>exact⟨a,b,c,d,e,rfl⟩
 simp only [List.getElem?_cons_zero,List.getElem?_cons_succ,List.drop_zero,List.drop_succ_cons,List.take_succ_cons,List.take_zero]at f0 f1 f2
 obtain⟨n0,e0,_,_⟩:=DataW.trod_int Tryz.underlying3 f0
 obtain⟨i,t,k,e1⟩:=open_ident_raw f1
 obtain⟨n2,e2,_,_⟩:=DataW.trod_int Tryz.underlying3 f2
 simp only [List.cons.injEq,and_true]at e0 e1 e2
 obtain⟨rfl,rfl,rfl⟩:=e1
 subst e0 e2
 exact⟨⟨n0,i,t,k,n2⟩,rfl⟩
theorem open_mark {H:Type} {enc:TypeId × Value→H} {W:World} {base:Nat} {v:Value} {d:DataW H} {pl:List MemPlace}
 (hv:Value.okWide Tryz.prog W .any base 26 v) (h:DataW.Trod enc Tryz.prog W 0 (fun _=>true) true 26 v d pl): ∃m:MarkV,v=m.val:=by
 obtain⟨cs0,rfl,_⟩:=okWide_struct Tryz.underlying26 hv
 obtain⟨fuel,hf⟩:=h
 obtain⟨m,hm⟩:=open_mark_raw hf
 have hm:cs0.toList=m.cells:=hm
 refine⟨m,?_⟩
 unfold MarkV.val
 congr 1
 apply Array.ext'
 rw [hm];rfl
theorem open_nums {H:Type} {enc:TypeId × Value→H} {W:World} {base:Nat} {v:Value} {d:DataW H} {pl:List MemPlace}
 (hv:Value.okWide Tryz.prog W .any base 56 v) (h:DataW.Trod enc Tryz.prog W 0 (fun _=>true) true 56 v d pl) (hw: ∀n∈d.weights Tryz.prog 56,n≤reachBytes):
 ∃(A:Option Addr) (zs:List Int) (cap:Nat),v= .slice A zs.length cap∧IntsAt W A zs∧zs.length≤140737488351232:=by
 obtain⟨a0,len,cap,rfl⟩:=okWide_slice Tryz.underlying56 hv
 obtain⟨fuel,hf⟩:=h
 obtain⟨A,zs,cap',e,h1,h2,h3,_⟩:=open_i64s_raw Tryz.underlying56 Tryz.underlying3 cellsInt bytesInt hf hw
 simp only [Value.cells,List.cons.injEq,Value.slice.injEq,and_true]at e
 obtain⟨rfl,rfl,rfl⟩:=e
 exact⟨_,zs,_,rfl,h1,by omega⟩
end Go.Proofs.YtpaikolnampcfaaGreatDoor
