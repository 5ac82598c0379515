/- Results of two and of five cells: what is stored in them. -/
import Derived.Test.YtpaikolnampcfaaGreatDoorKitInts
import Derived.Test.YtpaikolnampcfaaGreatDoorMarkErr
import Derived.Test.YtpaikolnampcfaaGreatDoorMarkAwake
import Derived.Maps.OwnSet
namespace Go.Proofs.YtpaikolnampcfaaGreatDoor
set_option maxRecDepth 100000
set_option maxHeartbeats 1000000
open Go.RowKit
section
variable {w w0 : World} {q B : Nat} {t : TypeId} {x y a b x0 x1 x2 x3 x4 a0 a1 a2 a3 a4 : Value}
theorem cells_two (h:BlockIs w q t #[x,y]):w.cell? ⟨q,0,none⟩=some x∧w.cell? ⟨q,1,none⟩=some y∧w.frozen? ⟨q,0,none⟩=false∧w.frozen? ⟨q,1,none⟩=false:=⟨h.cell 0,h.cell 1,h.free 0,h.free 1⟩
theorem set_two (h:BlockIs w q t #[x,y]) (a b:Value):BlockIs ((w.setCell ⟨q,0,none⟩ a).setCell ⟨q,1,none⟩ b) q t #[a,b]:=(h.set1 0 a).set1 1 b
theorem below_two (h:Below B w0 w) (hq:B≤q) (a b:Value):Below B w0 ((w.setCell ⟨q,0,none⟩ a).setCell ⟨q,1,none⟩ b):=(h.setCell (p:=⟨q,0,none⟩) hq a).setCell (p:=⟨q,1,none⟩) hq b
theorem cells_five (h:BlockIs w q t #[x0,x1,x2,x3,x4]):(w.cell? ⟨q,0,none⟩=some x0∧w.cell? ⟨q,1,none⟩=some x1∧w.cell? ⟨q,2,none⟩=some x2∧w.cell? ⟨q,3,none⟩=some x3∧w.cell? ⟨q,4,none⟩=some x4)∧
 w.frozen? ⟨q,0,none⟩=false∧w.frozen? ⟨q,1,none⟩=false∧w.frozen? ⟨q,2,none⟩=false∧w.frozen? ⟨q,3,none⟩=false∧w.frozen? ⟨q,4,none⟩=false:=
 ⟨⟨h.cell 0,h.cell 1,h.cell 2,h.cell 3,h.cell 4⟩,h.free 0,h.free 1,h.free 2,h.free 3,h.free 4⟩
def put5 (w:World) (q:Nat) (a0 a1 a2 a3 a4:Value):World:=((((w.setCell ⟨q,0,none⟩ a0).setCell ⟨q,1,none⟩ a1).setCell ⟨q,2,none⟩ a2).setCell ⟨q,3,none⟩ a3).setCell ⟨q,4,none⟩ a4
theorem set_five (h:BlockIs w q t #[x0,x1,x2,x3,x4]) (a0 a1 a2 a3 a4:Value):BlockIs (put5 w q a0 a1 a2 a3 a4) q t #[a0,a1,a2,a3,a4]:=((((h.set1 0 a0).set1 1 a1).set1 2 a2).set1 3 a3).set1 4 a4
theorem below_five (h:Below B w0 w) (hq:B≤q) (a0 a1 a2 a3 a4:Value):Below B w0 (put5 w q a0 a1 a2 a3 a4):=
 ((((h.setCell (p:=⟨q,0,none⟩) hq a0).setCell (p:=⟨q,1,none⟩) hq a1).setCell (p:=⟨q,2,none⟩) hq a2).setCell (p:=⟨q,3,none⟩) hq a3).setCell (p:=⟨q,4,none⟩) hq a4
theorem keep_five (w:World) (q:Nat) (a0 a1 a2 a3 a4:Value) {k:Nat} (hk:k≠q):(put5 w q a0 a1 a2 a3 a4).heap[k]? =w.heap[k]? :=
 (Below.heap_setCell _ ⟨q,4,none⟩ _ k hk).trans ((Below.heap_setCell _ ⟨q,3,none⟩ _ k hk).trans ((Below.heap_setCell _ ⟨q,2,none⟩ _ k hk).trans ((Below.heap_setCell _ ⟨q,1,none⟩ _ k hk).trans (Below.heap_setCell _ ⟨q,0,none⟩ _ k hk))))
theorem size_five (w:World) (q:Nat) (a0 a1 a2 a3 a4:Value):(put5 w q a0 a1 a2 a3 a4).heap.size=w.heap.size:=by unfold put5;simp [World.setCell]
end
open Go.RowKit Go.Maps
def placeOf :List Value→Option (Int × Int)
 | [.int .i64 a,.int .i64 b]=>some (a,b)
 | _=>none
def placeElem :Value→Option (DataW Unit × List MemPlace)
 | .agg cs=>(placeOf cs.toList).map fun p=>(.agg [.lit (.int .i64 p.1),.lit (.int .i64 p.2)],[])
 | _=>none
theorem placeElem_inv {v:Value} {a b:Int} {ps:List MemPlace} (h:placeElem v=some (.agg [.lit (.int .i64 a),.lit (.int .i64 b)],ps)):v= .agg #[.int .i64 a,.int .i64 b]:=by
 unfold placeElem at h
 split at h
 · next cs=>
   obtain⟨⟨x,y⟩,h1,h2⟩:=Option.map_eq_some_iff.1 h
   unfold placeOf at h1
   split at h1
   · next a' b' e=>
     simp only [Option.some.injEq,Prod.mk.injEq]at h1
     simp only [Prod.mk.injEq,DataW.agg.injEq,List.cons.injEq,DataW.lit.injEq,Lit.int.injEq,true_and,and_true]at h2
     obtain⟨rfl,rfl⟩:=h1
     obtain⟨⟨rfl,rfl⟩,_⟩:=h2
     congr 1
     apply Array.ext'
     rw [e]
   · cases h1
 · cases h
theorem keyedK :Keyed Tryz.prog 27:=int_keyed Tryz.underlying27
def placesD :DataW Unit:=((DataW.map []).put (.int .i64 2) (.agg [.lit (.int .i64 2),.lit (.int .i64 3)])).put (.int .i64 3) (.agg [.lit (.int .i64 4),.lit (.int .i64 5)])
theorem zeroPlace (w:World):(zeroValue 82).run Tryz.prog w= .ok (.agg #[.int .i64 0,.int .i64 0]) w:=by kernel_rfl
def placesAt (w:World) (b:Nat):Prop:=w.ownsMap Tryz.prog 27 placeElem b 2 placesD
theorem places_any (w:World):
 Calls Tryz.prog 85 #[] w fun e w'=> ∃b,e= .returned (.map (some b))∧placesAt w' b∧Below w.heap.size w w':=by
 have hmm:= @run_makeMap Tryz.prog
 have h0:=World.ownsMap_made w Tryz.prog 27 placeElem
 obtain⟨w1,hr1,ho1,hg1⟩:=h0.update (t:=139) (e:=82) keyedK Tryz.underlying139 (by unfold maxLen;omega) (key:= .int .i64 2) (val:= .agg #[.int .i64 2,.int .i64 3]) (keyOf_int_mk Tryz.underlying27 (by decide)) rfl
 obtain⟨w2,hr2,ho2,hg2⟩:=ho1.update (t:=139) (e:=82) keyedK Tryz.underlying139 (by unfold maxLen;omega) (key:= .int .i64 3) (val:= .agg #[.int .i64 4,.int .i64 5]) (keyOf_int_mk Tryz.underlying27 (by decide)) rfl
 have hb:=below_grown (below_grown (below_new w (.map #[] 0)) hg1 (below_new w (.map #[] 0)).size (Nat.le_refl _)) hg2 (Nat.le_trans (below_new w (.map #[] 0)).size hg1.size) (Nat.le_refl _)
 have HF:=qh (And.intro ho2 hb)
 clear h0 ho1 hg1 ho2 hg2 hb
 go_enter Tryz.func85,Tryz.ntmps85
 go_wp2_with fail
 go_ret
 exact⟨_,rfl,HF.out.1,HF.out.2⟩
def placeV (k:Int):Value:=if sortK k then .agg #[.int .i64 (placeK k:Int),.int .i64 ((placeK k:Int)+1)]else .agg #[.int .i64 0,.int .i64 0]
def wfK (k:Int):Prop:=(Lit.int .i64 k).wf=true
theorem has_places (k:Int):Maps.has placesD (.int .i64 k)=decide (sortK k):=by
 by_cases h2:k=2
 · subst h2;decide
 · by_cases h3:k=3
   · subst h3;decide
   · rw [decide_eq_false (by unfold sortK;omega)]
     have e:placesD= .map [(.int .i64 2,.agg [.lit (.int .i64 2),.lit (.int .i64 3)]),(.int .i64 3,.agg [.lit (.int .i64 4),.lit (.int .i64 5)])]:=rfl
     rw [e]
     simp only [Maps.has,Lit.sameKey,List.any_cons,List.any_nil,Bool.or_false,Bool.or_eq_false_iff,decide_eq_false_iff_not,true_and]
     exact⟨fun h=>h2 h.symm,fun h=>h3 h.symm⟩
theorem at_places (k:Int):placesD.atKey (.int .i64 k) (.agg [.lit (.int .i64 0),.lit (.int .i64 0)])=if sortK k then .agg [.lit (.int .i64 (placeK k:Int)),.lit (.int .i64 ((placeK k:Int)+1))]else .agg [.lit (.int .i64 0),.lit (.int .i64 0)]:=by
 by_cases h2:k=2
 · subst h2;rfl
 · by_cases h3:k=3
   · subst h3;rfl
   · rw [if_neg (by unfold sortK;omega)]
     have e:placesD= .map [(.int .i64 2,.agg [.lit (.int .i64 2),.lit (.int .i64 3)]),(.int .i64 3,.agg [.lit (.int .i64 4),.lit (.int .i64 5)])]:=rfl
     rw [e]
     simp only [DataW.atKey,Lit.sameKey,List.find?_cons,true_and,decide_eq_false (show ¬(2:Int)=k from fun h=>h2 h.symm),decide_eq_false (show ¬(3:Int)=k from fun h=>h3 h.symm),List.find?_nil]
theorem look_places {w:World} {b:Nat} (h:placesAt w b) (k:Int) (hk:wfK k):(Instr.lookup 139 (.map (some b)) (.int .i64 k) true).run Tryz.prog w= .ok (.tuple #[placeV k,.bool (decide (sortK k))]) w:=by
 obtain⟨v,ps,hr,hv⟩:=h.look_ok keyedK (t:=139) (e:=82) Tryz.underlying139 (zeroPlace w) (zd:= .agg [.lit (.int .i64 0),.lit (.int .i64 0)]) (zp:= []) rfl (keyOf_int_mk Tryz.underlying27 hk)
 rw [has_places]at hr
 rw [at_places]at hv
 rw [hr]
 unfold placeV
 split at hv
 · rw [if_pos (by assumption),placeElem_inv hv]
 · rw [if_neg (by assumption),placeElem_inv hv]
theorem placed_any (κ:SenK) (w:World) (hG:GlK κ w) (k:Int) (hk:wfK k):
 Calls Tryz.prog 40 #[.int .i64 k] w fun e w'=> ∃v,e= .returned (.tuple #[placeV k,v])∧KErr κ (if sortK k then 0 else 2) v∧Below w.heap.size w w':=by
 have HP:=qh (fun w=>places_any w)
 have HL:=qh (fun w b (h:placesAt w b)=>look_places h k hk)
 have HG:=qh hG
 have hb0:=below_new w (.cells #[.int .i64 0,.int .i64 0] 82)
 have HR:=qh (BlockIs.made w 82 #[.int .i64 0,.int .i64 0])
 have Hb0:=qh hb0
 clear hG hb0 hk
 by_cases h:sortK k
 · rw [if_pos h]
   have Hv:Hid (placeV k= .agg #[.int .i64 (placeK k:Int),.int .i64 ((placeK k:Int)+1)]):=qh (by unfold placeV;rw [if_pos h])
   rw [decide_eq_true h]at HL
   rw [Hv.out]at HL ⊢
   obtain⟨p0,hp0⟩: ∃p:Int,(placeK k:Int)=p:=⟨_,rfl⟩
   rw [hp0]at HL ⊢
   clear h Hv hp0
   go_enter Tryz.func40,Tryz.ntmps40
   go_wp2_with fail
   refine(HP.out _).mono ?_
   rintro e w1 ⟨b,rfl,hp,hb1⟩
   have HL1:=HL.out w1 b hp
   have B1:=qh (Hb0.out.trans (hb1.mono Hb0.out.size))
   have hbn:=below_new w1 (.cells #[.int .i64 p0,.int .i64 (p0+1)] 82)
   have R2:=qh ((HR.out.below hb1 HR.out.lt).below hbn (Nat.lt_of_lt_of_le HR.out.lt hb1.size))
   have B2:=qh (B1.out.trans (hbn.mono B1.out.size))
   obtain⟨y0,y1,y2,y3⟩:=cells_two R2.out
   have P2:=BlockIs.made w1 82 #[.int .i64 p0,.int .i64 (p0+1)]
   clear hp HL HP hb1 hbn P2
   go_wp2_with fail
   have RZ:=qh (set_two R2.out (.int .i64 p0) (.int .i64 (p0+1)))
   have BZ:=qh (below_two B2.out (Nat.le_refl _) (.int .i64 p0) (.int .i64 (p0+1)))
   clear y0 y1 y2 y3 HL1
   generalize ((w1.alloc (.cells #[.int .i64 p0,.int .i64 (p0+1)] 82)).setCell ⟨w.heap.size,0,none⟩ (.int .i64 p0)).setCell ⟨w.heap.size,1,none⟩ (.int .i64 (p0+1))=wz at *
   obtain⟨z0,z1,_,_⟩:=cells_two RZ.out
   exact bodyPost_ret (v:= .tuple #[.agg #[.int .i64 p0,.int .i64 (p0+1)],.nilIface]) (by simp [results,Tryz.results40,go_sem,z0,z1]) rfl ⟨_,rfl,.inl ⟨rfl,rfl⟩,BZ.out⟩
 · rw [if_neg h]
   have Hv:Hid (placeV k= .agg #[.int .i64 0,.int .i64 0]):=qh (by unfold placeV;rw [if_neg h])
   rw [decide_eq_false h]at HL
   rw [Hv.out]at HL ⊢
   clear h Hv
   go_enter Tryz.func40,Tryz.ntmps40
   go_wp2_with fail
   refine(HP.out _).mono ?_
   rintro e w1 ⟨b,rfl,hp,hb1⟩
   have HL1:=HL.out w1 b hp
   have B1:=qh (Hb0.out.trans (hb1.mono Hb0.out.size))
   have hbn:=below_new w1 (.cells #[.int .i64 0,.int .i64 0] 82)
   have R2:=qh ((HR.out.below hb1 HR.out.lt).below hbn (Nat.lt_of_lt_of_le HR.out.lt hb1.size))
   have B2:=qh (B1.out.trans (hbn.mono B1.out.size))
   clear hp HP HL hb1 hbn
   go_wp2_with fail
   obtain⟨y0,y1,y2,y3⟩:=cells_two R2.out
   have hlt:=HG.out.so
   have gn:=(HG.out.below B2.out).so
   unfold errK at gn
   have gz:=(grown_at (World.grownBy.refl (w1.alloc (.cells #[.int .i64 0,.int .i64 0] 82)) (some w.heap.size)) 0 (.int .i64 0)).cell gn (fun e=>by have:=Option.some.inj e;have:=World.block_lt_of_cell? _ _ hlt;simp only at *;omega)
   clear hlt HL1
   go_region
   all_goals
    have RZ:=qh (set_two R2.out (.int .i64 0) (.int .i64 0))
    have BZ:=qh (below_two B2.out (Nat.le_refl _) (.int .i64 0) (.int .i64 0))
    clear y0 y1 y2 y3 gn gz
    generalize ((w1.alloc (.cells #[.int .i64 0,.int .i64 0] 82)).setCell ⟨w.heap.size,0,none⟩ (.int .i64 0)).setCell ⟨w.heap.size,1,none⟩ (.int .i64 0)=wz at *
    obtain⟨z0,z1,_,_⟩:=cells_two RZ.out
    go_wp2_with fail
    exact bodyPost_ret (v:= .tuple #[.agg #[.int .i64 0,.int .i64 0],errK κ.so]) (by simp [results,Tryz.results40,go_sem,z0,z1]) rfl ⟨_,rfl,.inr (.inl ⟨rfl,rfl⟩),⟨BZ.out.os,BZ.out.tape,BZ.out.output,BZ.out.size,BZ.out.block⟩⟩
end Go.Proofs.YtpaikolnampcfaaGreatDoor
