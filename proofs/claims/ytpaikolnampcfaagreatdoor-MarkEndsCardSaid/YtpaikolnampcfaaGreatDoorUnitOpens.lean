/- A block's reader: is the sum another one; the fields behind it. -/
import Derived.Test.YtpaikolnampcfaaGreatDoorUnitLack
import Derived.LoopN
import Derived.Deep.RegionHeld3
namespace Go.Proofs.YtpaikolnampcfaaGreatDoor
set_option maxRecDepth 100000
set_option maxHeartbeats 8000000
open Go.RowKit
structure OpW (σ:Sen) (w w':World) (p g b0 off c:Nat) (b:List Int) (s:RSt):Prop where
 rd:RdAt σ w' g (hdB b) s
 bx:BlockIs w' p 218 #[.pointer (some ⟨g,0,none⟩),.slice (some ⟨b0,off,none⟩) 256 c]
 fr:w.grownBy w' (some g)
structure OpE (σ:Sen) (τ:SenU) (w0 w:World) (g b0 off c:Nat) (b:List Int):Prop where
 env:Env σ w0 g w
 gl:GlU τ w0
 bytes:BytesAt w0 (some ⟨b0,off,none⟩) b
 len:b.length=256
 cap:256≤c∧c≤9223372036854775807
section
variable {σ : Sen} {τ : SenU} {w0 w w' w2 : World} {p g b0 off c : Nat} {b : List Int} {s : RSt}
theorem OpW.below (k:OpW σ w w' p g b0 off c b s) (E:OpE σ τ w0 w g b0 off c b):Below w0.heap.size w0 w':=below_grown E.env.bl k.fr E.env.bl.size E.env.lo
theorem OpW.drew (k:OpW σ w w' p g b0 off c b s):OpW σ w w'.drew p g b0 off c b s:=⟨k.rd.drew,k.bx,⟨k.fr.os,k.fr.tape,k.fr.output,k.fr.size,k.fr.block⟩⟩
theorem OpW.on (k:OpW σ w w' p g b0 off c b s) (hb:Below w'.heap.size w' w2):OpW σ w w2 p g b0 off c b s:=⟨k.rd.below hb,k.bx.below hb k.bx.lt,k.fr.trans (grown_below hb _)⟩
theorem OpW.cells (k:OpW σ w w' p g b0 off c b s):w'.cell? ⟨p,0,none⟩=some (.pointer (some ⟨g,0,none⟩))∧w'.cell? ⟨p,1,none⟩=some (.slice (some ⟨b0,off,none⟩) 256 c):=⟨k.bx.cell 0,k.bx.cell 1⟩
theorem OpW.envAt (k:OpW σ w w' p g b0 off c b s) (E:OpE σ τ w0 w g b0 off c b):Env σ w0 g w':=⟨E.env.gl,k.below E,E.env.lo⟩
theorem OpE.at_ (E:OpE σ τ w0 w g b0 off c b) (hs:w.grownBy w2 (some g)):OpE σ τ w0 w2 g b0 off c b:=⟨E.env.grown hs,E.gl,E.bytes,E.len,E.cap⟩
theorem OpW.field (k:OpW σ w w' p g b0 off c b s) (E:OpE σ τ w0 w g b0 off c b) (hp:p≠g) (wd:Int):
 Calls Tryz.prog 122 #[.pointer (some ⟨g,0,none⟩),.int .i64 wd] w' fun e w2=>e= .returned (.int .i64 (fieldR (hdB b) wd s).1)∧OpW σ w w2 p g b0 off c b (fieldR (hdB b) wd s).2:=by
 refine(rfield_any σ w0 w' g (hdB b) s wd k.rd (k.envAt E).f (by rw [hdB_len E.len];decide)).mono ?_
 rintro e w2 ⟨rfl,hG⟩
 exact⟨rfl,hG.rd,k.bx.kept hG.fr (fun e=>hp (Option.some.inj e)),k.fr.trans hG.fr⟩
theorem OpW.sum (k:OpW σ w w' p g b0 off c b s) (E:OpE σ τ w0 w g b0 off c b):
 Calls Tryz.prog 159 #[.slice (some ⟨b0,off,none⟩) 256 c] w' fun e w2=>e= .returned (.int .u32 ((Mx.sum (unitRow b)).toNat:Int))∧OpW σ w w2 p g b0 off c b s:=by
 refine(usum_any w' _ b c (E.bytes.below (k.below E)) E.len E.cap.1 E.cap.2).mono ?_
 rintro e w2 ⟨rfl,hb⟩
 exact⟨rfl,k.on hb⟩
end
theorem field4 {b:List Int} (hb: ∀z∈b,0≤z∧z < 256) (hl:b.length=256):fieldR (hdB b) 4 (.ok 0)=(unle ((b.drop 28).take 4),.ok 4):=by
 have l4:((b.drop 28).take 4).length=4:=by rw [List.length_take,List.length_drop,hl];rfl
 have ht:(hdB b).take 4=(b.drop 28).take 4:=by
  unfold hdB
  rw [List.take_append_of_le_length (by omega),List.take_of_length_le (by omega)]
 have hu:=unle_bd ((b.drop 28).take 4) (fun z hz=>hb z (List.mem_of_mem_drop (List.mem_of_mem_take hz)))
 rw [l4]at hu
 have h4:top 4=4294967295:=rfl
 unfold fieldR
 simp only
 rw [if_neg (by rw [hdB_len hl,h4];omega),List.drop_zero,show(4:Int).toNat=4 from rfl,ht,if_neg (by rw [h4];have:=hu.2;omega)]
theorem unsealed_any {σ:Sen} {τ:SenU} {w0 w:World} {g b0 off c:Nat} {b:List Int} (E:OpE σ τ w0 w g b0 off c b) (hr:RdAt σ w g (hdB b) (.ok 0)) (hgl:g < w.heap.size):
 Calls Tryz.prog 138 #[.agg #[.pointer (some ⟨g,0,none⟩),.slice (some ⟨b0,off,none⟩) 256 c]] w fun e w'=> ∃v,e= .returned v∧FlawOf τ (if fitsB b then 0 else 5) v∧RdAt σ w' g (hdB b) (.ok 4)∧w.grownBy w' (some g):=by
 have hbn:=below_new w (.cells #[.pointer (some ⟨g,0,none⟩),.slice (some ⟨b0,off,none⟩) 256 c] 218)
 have hB:=BlockIs.made w 218 #[.pointer (some ⟨g,0,none⟩),.slice (some ⟨b0,off,none⟩) 256 c]
 have KA:Hid (OpW σ w (w.alloc (.cells #[.pointer (some ⟨g,0,none⟩),.slice (some ⟨b0,off,none⟩) 256 c] 218)) w.heap.size g b0 off c b (.ok 0)):=qh ⟨hr.below hbn,hB,grown_below hbn _⟩
 have hpg:w.heap.size≠g:=by omega
 have HE:=qh E
 have HF:=qh (fun(w':World) (k:OpW σ w w' w.heap.size g b0 off c b (.ok 0))=>k.field E hpg 4)
 rw [field4 E.bytes.1 E.len]at HF
 have HS:=qh (fun(w':World) (s:RSt) (k:OpW σ w w' w.heap.size g b0 off c b s)=>k.sum E)
 have Hfit:Hid (fitsB b↔unle ((b.drop 28).take 4)=((Mx.sum (unitRow b)).toNat:Int)):=qh Iff.rfl
 obtain⟨x,hx⟩: ∃x,Mx.sum (unitRow b)=x:=⟨_,rfl⟩
 obtain⟨n,hn⟩: ∃n,unle ((b.drop 28).take 4)=n:=⟨_,rfl⟩
 rw [hx]at HS Hfit
 rw [hn]at HF Hfit
 obtain⟨r,hrr⟩: ∃r:Int,(if fitsB b then(0:Int)else 5)=r:=⟨_,rfl⟩
 rw [hrr]
 have Hrr:=qh hrr
 have hxl:(x.toNat:Int) < 4294967296:=by have:=x.isLt;omega
 have hwx:IntKind.i64.wrap (x.toNat:Int)=x.toNat:=IntWalk.i64_in _ (by omega)
 obtain⟨w1,hw1⟩: ∃w1,w.alloc (.cells #[.pointer (some ⟨g,0,none⟩),.slice (some ⟨b0,off,none⟩) 256 c] 218)=w1:=⟨_,rfl⟩
 rw [hw1]at KA
 have Hw1:=qh hw1
 clear hx hn hr hbn hB hw1 E hrr
 go_enter Tryz.func138,Tryz.ntmps138
 go_wp2_with fail
 rw [Hw1.out]
 have m0:=KA.out.cells
 by_cases hf:n=(x.toNat:Int)
 · have hf1:(n != (x.toNat:Int))=false:=by rw [hf];simp
   have Hyes:=qh (Hfit.out.2 hf)
   clear hf
   go_region_held3 (fun w'=>w'.cell? ⟨w.heap.size,0,none⟩=some (.pointer (some ⟨g,0,none⟩))∧w'.cell? ⟨w.heap.size,1,none⟩=some (.slice (some ⟨b0,off,none⟩) 256 c)) (first | exact m0 | exact mE | exact mF | exact mS) (first
    | (go_at_call 122;refine(HF.out _ ?_).mono ?_;(first | exact KS.out | exact KS.out.drew);rintro e wE ⟨rfl,k⟩;have mE:=k.cells;have KE:=qh k;clear k)
    | (go_at_call 122;refine(HF.out _ ?_).mono ?_;(first | exact KA.out | exact KA.out.drew);rintro e wF ⟨rfl,k⟩;have mF:=k.cells;have KF:=qh k;clear k)
    | (go_at_call 159;refine(HS.out _ (.ok 4) ?_).mono ?_;(first | exact KF.out | exact KF.out.drew);rintro e wE ⟨rfl,k⟩;have mE:=k.cells;have KE:=qh k;clear k)
    | (go_at_call 159;refine(HS.out _ (.ok 0) ?_).mono ?_;(first | exact KA.out | exact KA.out.drew);rintro e wS ⟨rfl,k⟩;have mS:=k.cells;have KS:=qh k;clear k)
    | fail)
   all_goals
    go_wp2_with fail
    go_ret
    exact⟨_,rfl,by rw [← Hrr.out,if_pos Hyes.out];exact FlawOf.none τ,KE.out.rd,KE.out.fr⟩
 · have hf1:(n != (x.toNat:Int))=true:=by simpa using hf
   have Hno:=qh (fun h=>hf (Hfit.out.1 h))
   clear hf
   go_region_held3 (fun w'=>w'.cell? ⟨w.heap.size,0,none⟩=some (.pointer (some ⟨g,0,none⟩))∧w'.cell? ⟨w.heap.size,1,none⟩=some (.slice (some ⟨b0,off,none⟩) 256 c)) (first | exact m0 | exact mE | exact mF | exact mS) (first
    | (go_at_call 122;refine(HF.out _ ?_).mono ?_;(first | exact KS.out | exact KS.out.drew);rintro e wE ⟨rfl,k⟩;have mE:=k.cells;have KE:=qh k;clear k)
    | (go_at_call 122;refine(HF.out _ ?_).mono ?_;(first | exact KA.out | exact KA.out.drew);rintro e wF ⟨rfl,k⟩;have mF:=k.cells;have KF:=qh k;clear k)
    | (go_at_call 159;refine(HS.out _ (.ok 4) ?_).mono ?_;(first | exact KF.out | exact KF.out.drew);rintro e wE ⟨rfl,k⟩;have mE:=k.cells;have KE:=qh k;clear k)
    | (go_at_call 159;refine(HS.out _ (.ok 0) ?_).mono ?_;(first | exact KA.out | exact KA.out.drew);rintro e wS ⟨rfl,k⟩;have mS:=k.cells;have KS:=qh k;clear k)
    | fail)
   all_goals
    have gs:=(HE.out.gl.below (KE.out.below HE.out)).sm
    have HGs:=qh (HE.out.gl.below (KE.out.below HE.out))
    unfold errK at gs
    go_wp2_with fail
    go_ret
    exact⟨_,rfl,by rw [← Hrr.out,if_neg Hno.out];exact HGs.out.flaw_sm 28,KE.out.rd,KE.out.fr⟩
open Go.RowKit
theorem made3 (w:World):(Instr.makeSlice 56 (.int .i64 3) (.int .i64 3)).run Tryz.prog w= .ok (.slice (some ⟨w.heap.size,0,none⟩) 3 3) (w.alloc (.cells #[.int .i64 0,.int .i64 0,.int .i64 0] 3)):=by
 obtain⟨i0,hi,hz0,hz1,hz2⟩:=info_parts infoInt
 have:=run_make (P:=Tryz.prog) w 56 3 i0 (.int .i64 0) Tryz.underlying56 hi hz0 .i64 .i64 3 3 (by decide) (by decide) (by rw [hz2];decide) (by decide)
 rw [this]
 have h:madeCells (Value.int .i64 0).cells ((3:Int).toNat * i0.size)= #[.int .i64 0,.int .i64 0,.int .i64 0]:=by rw [hz1];kernel_rfl
 rw [h];rfl
theorem RdAt.older {σ:Sen} {w w':World} {g p:Nat} {bs:List Int} {s:RSt} (h:RdAt σ w g bs s) (hg:w.grownBy w' (some p)) (hp:p≠g) (hx: ∀x cap k ev a,RdIs σ w g bs s x cap k ev→x=some a→a.block≠p):RdAt σ w' g bs s:=by
 obtain⟨x,cap,k,ev,h⟩:=h
 exact⟨x,cap,k,ev,h.kept hg (fun e=>hp (Option.some.inj e).symm) (fun a ha e=>hx x cap k ev a h ha (Option.some.inj e))⟩
theorem OpW.fieldG {σ:Sen} {τ:SenU} {w0 w w':World} {p g b0 off c:Nat} {b:List Int} {s:RSt} (k:OpW σ w w' p g b0 off c b s) (E:OpE σ τ w0 w g b0 off c b) (hp:p≠g) (wd:Int):
 Calls Tryz.prog 122 #[.pointer (some ⟨g,0,none⟩),.int .i64 wd] w' fun e w2=>e= .returned (.int .i64 (fieldR (hdB b) wd s).1)∧OpW σ w w2 p g b0 off c b (fieldR (hdB b) wd s).2∧w'.grownBy w2 (some g):=by
 refine(rfield_any σ w0 w' g (hdB b) s wd k.rd (k.envAt E).f (by rw [hdB_len E.len];decide)).mono ?_
 rintro e w2 ⟨rfl,hG⟩
 exact⟨rfl,⟨hG.rd,k.bx.kept hG.fr (fun e=>hp (Option.some.inj e)),k.fr.trans hG.fr⟩,hG.fr⟩
theorem OpW.set {σ:Sen} {w w':World} {p g b0 off c y i:Nat} {b:List Int} {s:RSt} {v:Value} (k:OpW σ w w' p g b0 off c b s) (hy:w.heap.size≤y) (hyp:y≠p) (hyg:y≠g) (hx: ∀x cap k ev a,RdIs σ w' g (hdB b) s x cap k ev→x=some a→a.block≠y):OpW σ w (w'.setCell ⟨y,i,none⟩ v) p g b0 off c b s:=by
 have hg:=grown_at (World.grownBy.refl w' (some y)) i v
 exact⟨RdAt.older k.rd hg hyg hx,k.bx.kept hg (fun e=>hyp (Option.some.inj e).symm),k.fr.andThen hg (fun b e=>by cases e;exact .inl hy)⟩
theorem three_any {σ:Sen} {τ:SenU} {w0 w:World} {g b0 off c x:Nat} {b:List Int} {s:RSt} (E:OpE σ τ w0 w g b0 off c b) (hr:RdAt σ w g (hdB b) s) (hgl:g < w.heap.size) (hxg:x≠g) (hx:BlockIs w x 3 #[.int .i64 1,.int .i64 6,.int .i64 1]):
 Calls Tryz.prog 160 #[.agg #[.pointer (some ⟨g,0,none⟩),.slice (some ⟨b0,off,none⟩) 256 c],.slice (some ⟨x,0,none⟩) 3 3] w fun e w'=>e= .returned (.slice (some ⟨w.heap.size+1,0,none⟩) 3 3)∧
  BlockIs w' (w.heap.size+1) 3 #[.int .i64 (fieldR (hdB b) 1 s).1,.int .i64 (fieldR (hdB b) 6 (fieldR (hdB b) 1 s).2).1,.int .i64 (fieldR (hdB b) 1 (fieldR (hdB b) 6 (fieldR (hdB b) 1 s).2).2).1]∧
  RdAt σ w' g (hdB b) (fieldR (hdB b) 1 (fieldR (hdB b) 6 (fieldR (hdB b) 1 s).2).2).2∧w.grownBy w' (some g):=by
 have hmk:=made3
 have hbn:=below_new w (.cells #[.pointer (some ⟨g,0,none⟩),.slice (some ⟨b0,off,none⟩) 256 c] 218)
 have hB:=BlockIs.made w 218 #[.pointer (some ⟨g,0,none⟩),.slice (some ⟨b0,off,none⟩) 256 c]
 have hb2:=hbn.alloc hbn.size (.cells #[.int .i64 0,.int .i64 0,.int .i64 0] 3)
 have hR0:=BlockIs.made (w.alloc (.cells #[.pointer (some ⟨g,0,none⟩),.slice (some ⟨b0,off,none⟩) 256 c] 218)) 3 #[.int .i64 0,.int .i64 0,.int .i64 0]
 rw [World.size_alloc]at hR0
 have hpg:w.heap.size≠g:=by omega
 have hyg:w.heap.size+1≠g:=by omega
 have HN:=qh (And.intro hpg (And.intro hyg hxg))
 obtain⟨w2,hw2⟩: ∃w2,(w.alloc (.cells #[.pointer (some ⟨g,0,none⟩),.slice (some ⟨b0,off,none⟩) 256 c] 218)).alloc (.cells #[.int .i64 0,.int .i64 0,.int .i64 0] 3)=w2:=⟨_,rfl⟩
 have hB2:=hB.below (below_new _ (.cells #[.int .i64 0,.int .i64 0,.int .i64 0] 3)) hB.lt
 rw [hw2]at hb2 hR0 hB2
 have K2:Hid (OpW σ w w2 w.heap.size g b0 off c b s):=qh ⟨hr.below hb2,hB2,grown_below hb2 _⟩
 have R2:=qh hR0
 have X2:=qh (hx.below hb2 hx.lt)
 have HE:=qh E
 have Hw2:=qh hw2
 have Hx:=qh hx.lt
 have HS:Hid (∀(w':World) (s:RSt) (n:Int) (i:Nat),OpW σ w w' w.heap.size g b0 off c b s→OpW σ w (w'.setCell ⟨w.heap.size+1,i,none⟩ (.int .i64 n)) w.heap.size g b0 off c b s):=qh (fun w' s n i k=>k.set (by omega) (by omega) hyg (fun x cap k' ev a hI ha=>by have:=hI.off a ha;omega))
 have HF:=qh (fun(w':World) (s:RSt) (wd:Int) (k:OpW σ w w' w.heap.size g b0 off c b s)=>k.fieldG E hpg wd)
 clear hr hbn hB hb2 hR0 hB2 hw2 E hx hpg hyg hxg
 obtain⟨r1,h1⟩: ∃r,fieldR (hdB b) 1 s=r:=⟨_,rfl⟩
 obtain⟨r2,h2⟩: ∃r,fieldR (hdB b) 6 r1.2=r:=⟨_,rfl⟩
 obtain⟨r3,h3⟩: ∃r,fieldR (hdB b) 1 r2.2=r:=⟨_,rfl⟩
 rw [h1,h2,h3]
 have H1:=qh h1
 have H2:=qh h2
 have H3:=qh h3
 clear h1 h2 h3
 go_enter Tryz.func160,Tryz.ntmps160
 go_wp2_with fail
 rw [Hw2.out]
 refine wp_loop_rounds 4 ?_
 rw [rounds_succ]
 have x0:=X2.out.cell 0
 have p0:=K2.out.cells.1
 simp only [List.getElem?_toArray,List.getElem?_cons_zero]at x0
 go_wp2_with fail
 refine(HF.out w2 s 1 K2.out).mono ?_
 rw [H1.out]
 rintro e w0a ⟨rfl,k,hg⟩
 clear x0 p0
 have Ra0:=qh (R2.out.kept hg (fun e=>HN.out.2.1 (Option.some.inj e)))
 have Xa0:=qh (X2.out.kept hg (fun e=>HN.out.2.2 (Option.some.inj e)))
 have q0:=Ra0.out.cell 0
 have f0:=Ra0.out.free 0
 simp only [List.getElem?_toArray,List.getElem?_cons_zero]at q0
 have K3:=qh (HS.out w0a r1.2 r1.1 0 k)
 have R3:Hid (BlockIs (w0a.setCell ⟨w.heap.size+1,0,none⟩ (.int .i64 r1.1)) (w.heap.size+1) 3 #[.int .i64 r1.1,.int .i64 0,.int .i64 0]):=qh (Ra0.out.set1 0 (.int .i64 r1.1))
 have X3:=qh (Xa0.out.kept (grown_at (World.grownBy.refl w0a (some (w.heap.size+1))) 0 (.int .i64 r1.1)) (fun e=>by have:=Option.some.inj e;have:=Hx.out;omega))
 clear k hg Ra0 Xa0 K2 R2 X2
 go_wp2_with fail
 clear q0 f0
 generalize w0a.setCell ⟨w.heap.size+1,0,none⟩ (.int .i64 r1.1)=w3 at *
 rw [rounds_succ]
 have x1:=X3.out.cell 1
 have p1:=K3.out.cells.1
 simp only [List.getElem?_toArray,List.getElem?_cons_zero,List.getElem?_cons_succ]at x1
 go_wp2_with fail
 refine(HF.out w3 r1.2 6 K3.out).mono ?_
 rw [H2.out]
 rintro e w1a ⟨rfl,k,hg⟩
 clear x1 p1
 have Ra1:=qh (R3.out.kept hg (fun e=>HN.out.2.1 (Option.some.inj e)))
 have Xa1:=qh (X3.out.kept hg (fun e=>HN.out.2.2 (Option.some.inj e)))
 have q1:=Ra1.out.cell 1
 have f1:=Ra1.out.free 1
 simp only [List.getElem?_toArray,List.getElem?_cons_zero,List.getElem?_cons_succ]at q1
 have K4:=qh (HS.out w1a r2.2 r2.1 1 k)
 have R4:Hid (BlockIs (w1a.setCell ⟨w.heap.size+1,1,none⟩ (.int .i64 r2.1)) (w.heap.size+1) 3 #[.int .i64 r1.1,.int .i64 r2.1,.int .i64 0]):=qh (Ra1.out.set1 1 (.int .i64 r2.1))
 have X4:=qh (Xa1.out.kept (grown_at (World.grownBy.refl w1a (some (w.heap.size+1))) 1 (.int .i64 r2.1)) (fun e=>by have:=Option.some.inj e;have:=Hx.out;omega))
 clear k hg Ra1 Xa1 K3 R3 X3
 go_wp2_with fail
 clear q1 f1
 generalize w1a.setCell ⟨w.heap.size+1,1,none⟩ (.int .i64 r2.1)=w4 at *
 rw [rounds_succ]
 have x2:=X4.out.cell 2
 have p2:=K4.out.cells.1
 simp only [List.getElem?_toArray,List.getElem?_cons_zero,List.getElem?_cons_succ]at x2
 go_wp2_with fail
 refine(HF.out w4 r2.2 1 K4.out).mono ?_
 rw [H3.out]
 rintro e w2a ⟨rfl,k,hg⟩
 clear x2 p2
 have Ra2:=qh (R4.out.kept hg (fun e=>HN.out.2.1 (Option.some.inj e)))
 have Xa2:=qh (X4.out.kept hg (fun e=>HN.out.2.2 (Option.some.inj e)))
 have q2:=Ra2.out.cell 2
 have f2:=Ra2.out.free 2
 simp only [List.getElem?_toArray,List.getElem?_cons_zero,List.getElem?_cons_succ]at q2
 have K5:=qh (HS.out w2a r3.2 r3.1 2 k)
 have R5:Hid (BlockIs (w2a.setCell ⟨w.heap.size+1,2,none⟩ (.int .i64 r3.1)) (w.heap.size+1) 3 #[.int .i64 r1.1,.int .i64 r2.1,.int .i64 r3.1]):=qh (Ra2.out.set1 2 (.int .i64 r3.1))
 have X5:=qh (Xa2.out.kept (grown_at (World.grownBy.refl w2a (some (w.heap.size+1))) 2 (.int .i64 r3.1)) (fun e=>by have:=Option.some.inj e;have:=Hx.out;omega))
 clear k hg Ra2 Xa2 K4 R4 X4
 go_wp2_with fail
 clear q2 f2
 generalize w2a.setCell ⟨w.heap.size+1,2,none⟩ (.int .i64 r3.1)=w5 at *
 rw [rounds_succ]
 go_wp2_with fail
 go_ret
 exact⟨rfl,R5.out,K5.out.rd,K5.out.fr⟩
open Go.RowKit
def bodyB (b:List Int) (many:Nat):List Int:=(b.drop 8).take (min many 20)++(b.drop 36).take (many - 20)
theorem bodyB_len {b:List Int} (hl:b.length=256) {many:Nat} (hm:many≤239):(bodyB b many).length=many:=by
 unfold bodyB
 rw [List.length_append,List.length_take,List.length_take,List.length_drop,List.length_drop,hl];omega
theorem concatBody (w:World) (b0 off:Nat) (b:List Int) (c many:Nat) (hb:BytesAt w (some ⟨b0,off,none⟩) b) (hl:b.length=256) (hc:256≤c) (hm:c≤9223372036854775807) (hmany:many≤239):
 Calls Tryz.prog 156 #[.slice (some ⟨w.heap.size,0,none⟩) 2 2] (w.alloc (.cells #[.slice (some ⟨b0,off+8,none⟩) (min many 20) (c - 8),.slice (some ⟨b0,off+36,none⟩) (many - 20) (c - 36)] 28)) fun e w'=> ∃v,e= .returned v∧w'.ownsRow w.heap.size 5 1 v many (u8s (bodyB b many))∧Below w.heap.size w w':=by
 have hbn:=below_new w (.cells #[.slice (some ⟨b0,off+8,none⟩) (min many 20) (c - 8),.slice (some ⟨b0,off+36,none⟩) (many - 20) (c - 36)] 28)
 obtain⟨r0,r1⟩:=row2_cells w (.slice (some ⟨b0,off+8,none⟩) (min many 20) (c - 8)) (.slice (some ⟨b0,off+36,none⟩) (many - 20) (c - 36)) 28
 have l4:((b.drop 8).take (min many 20)).length=min many 20:=by rw [List.length_take,List.length_drop,hl];omega
 have l8:((b.drop 36).take (many - 20)).length=many - 20:=by rw [List.length_take,List.length_drop,hl];omega
 have hB:=hb.below hbn
 have hcut:=cut_reads (k:=8) hB (show b.length≤c by omega)
 rw [cut_some (show 8 < c by omega)]at hcut
 have hcut2:=cut_reads (k:=36) hB (show b.length≤c by omega)
 rw [cut_some (show 36 < c by omega)]at hcut2
 have hp:PartsAt (w.alloc (.cells #[.slice (some ⟨b0,off+8,none⟩) (min many 20) (c - 8),.slice (some ⟨b0,off+36,none⟩) (many - 20) (c - 36)] 28)) (some ⟨w.heap.size,0,none⟩) [⟨some ⟨b0,off+8,none⟩,(b.drop 8).take (min many 20),c - 8⟩,⟨some ⟨b0,off+36,none⟩,(b.drop 36).take (many - 20),c - 36⟩]:=by
  refine⟨fun x hx=> ?_,fun _=>⟨w.heap.size,0,rfl,fun i x hx=> ?_⟩⟩
  · simp only [List.mem_cons,List.not_mem_nil,or_false]at hx
    rcases hx with rfl | rfl
    · exact⟨front_reads hcut,by show((b.drop 8).take (min many 20)).length≤c - 8;omega,by show c - 8≤_;omega⟩
    · exact⟨front_reads hcut2,by show((b.drop 36).take (many - 20)).length≤c - 36;omega,by show c - 36≤_;omega⟩
  · match i,hx with
    | 0,hx=>
      obtain rfl:(⟨some ⟨b0,off+8,none⟩,(b.drop 8).take (min many 20),c - 8⟩:Part)=x:=by simpa using hx
      show _=some (Value.slice (some ⟨b0,off+8,none⟩) ((b.drop 8).take (min many 20)).length (c - 8))
      rw [l4];exact r0
    | 1,hx=>
      obtain rfl:(⟨some ⟨b0,off+36,none⟩,(b.drop 36).take (many - 20),c - 36⟩:Part)=x:=by simpa using hx
      show _=some (Value.slice (some ⟨b0,off+36,none⟩) ((b.drop 36).take (many - 20)).length (c - 36))
      rw [l8];exact r1
    | i+2,hx=>simp at hx
 have ht:total [(⟨some ⟨b0,off+8,none⟩,(b.drop 8).take (min many 20),c - 8⟩:Part),⟨some ⟨b0,off+36,none⟩,(b.drop 36).take (many - 20),c - 36⟩]=many:=by
  unfold total
  simp only [List.map_cons,List.map_nil,List.sum_cons,List.sum_nil,l4,l8];omega
 have hby:bytesOf [(⟨some ⟨b0,off+8,none⟩,(b.drop 8).take (min many 20),c - 8⟩:Part),⟨some ⟨b0,off+36,none⟩,(b.drop 36).take (many - 20),c - 36⟩]=bodyB b many:=by unfold bytesOf bodyB;simp
 refine(concat_any _ _ _ 2 hp (by simp) (by rw [ht];omega) (by
  intro p hp
  simp only [List.mem_cons,List.not_mem_nil,or_false]at hp
  rcases hp with rfl | rfl<;>simp)).mono ?_
 rintro e w' ⟨v,rfl,ho,hb'⟩
 rw [ht,hby]at ho
 exact⟨v,rfl,own_mono ho hbn.size,hbn.trans (hb'.mono hbn.size)⟩
theorem body_any (w:World) (q:Option Addr) (b0 off:Nat) (b:List Int) (c many:Nat) (hb:BytesAt w (some ⟨b0,off,none⟩) b) (hl:b.length=256) (hc:256≤c) (hm:c≤9223372036854775807) (hmany:many≤239):
 Calls Tryz.prog 162 #[.agg #[.pointer q,.slice (some ⟨b0,off,none⟩) 256 c],.int .i64 (many:Int)] w fun e w'=> ∃v,e= .returned v∧w'.ownsRow w.heap.size 5 1 v many (u8s (bodyB b many))∧Below w.heap.size w w':=by
 have hbn:=below_new w (.cells #[.pointer q,.slice (some ⟨b0,off,none⟩) 256 c] 218)
 have hB:=BlockIs.made w 218 #[.pointer q,.slice (some ⟨b0,off,none⟩) 256 c]
 have HP:=qh (parted_any (w.alloc (.cells #[.pointer q,.slice (some ⟨b0,off,none⟩) 256 c] 218)) many (by omega))
 have H0:=qh (And.intro hbn hB)
 obtain⟨w1,hw1⟩: ∃w1,w.alloc (.cells #[.pointer q,.slice (some ⟨b0,off,none⟩) 256 c] 218)=w1:=⟨_,rfl⟩
 have hB1:=hb.below hbn
 rw [hw1]at H0 hB1 HP
 have HC:Hid (Calls Tryz.prog 156 #[.slice (some ⟨w1.heap.size,0,none⟩) 2 2] (w1.alloc (.cells #[.slice (some ⟨b0,off+8,none⟩) (min many 20) (c - 8),.slice (some ⟨b0,off+36,none⟩) (many - 20) (c - 36)] 28)).drew fun e w'=> ∃v,e= .returned v∧w'.ownsRow w1.heap.size 5 1 v many (u8s (bodyB b many))∧Below w1.heap.size w1.drew w'):=qh (concatBody w1.drew b0 off b c many hB1 hl hc hm hmany)
 have h1: ∀w',(Instr.slice 28 (.slice (some ⟨b0,off,none⟩) 256 c) (some (.int .i64 8)) none none).run Tryz.prog w'= .ok (.slice (some ⟨b0,off+8,none⟩) 248 (c - 8)) w':=fun w'=>by
  have:=cut_run1 (some ⟨b0,off,none⟩) 256 8 c w' (by decide)
  rw [cut_some (show 8 < c by omega)]at this
  exact this
 have h2: ∀w',(Instr.slice 28 (.slice (some ⟨b0,off,none⟩) 256 c) (some (.int .i64 36)) none none).run Tryz.prog w'= .ok (.slice (some ⟨b0,off+36,none⟩) 220 (c - 36)) w':=fun w'=>by
  have:=cut_run1 (some ⟨b0,off,none⟩) 256 36 c w' (by decide)
  rw [cut_some (show 36 < c by omega)]at this
  exact this
 have h3:=fun w'=>cut_low (some ⟨b0,off+8,none⟩) 248 (min many 20) (c - 8) w' (by omega) (by omega)
 have h4:=fun w'=>cut_low (some ⟨b0,off+36,none⟩) 220 (many - 20) (c - 36) w' (by omega) (by omega)
 have Hw1:=qh hw1
 obtain⟨m,hmm⟩: ∃m,min many 20=m:=⟨_,rfl⟩
 obtain⟨k,hkk⟩: ∃k,many - 20=k:=⟨_,rfl⟩
 rw [hmm,hkk]at HP HC
 rw [hmm]at h3
 rw [hkk]at h4
 clear hb hbn hB hB1 hw1 hl hmm hkk
 go_enter Tryz.func162,Tryz.ntmps162
 go_wp2_with fail
 rw [Hw1.out]
 refine HP.out.mono ?_
 rintro e w' ⟨rfl,rfl⟩
 go_wp2_with fail
 have m0:w1.cell? ⟨w.heap.size,1,none⟩=some (.slice (some ⟨b0,off,none⟩) 256 c):=H0.out.2.cell 1
 have mA:=cell_below m0 (below_new w1 (.cells #[.slice (some ⟨b0,off+8,none⟩) m (c - 8),.slice (some ⟨b0,off+36,none⟩) k (c - 36)] 28))
 go_region_held3 (fun w'=>w'.cell? ⟨w.heap.size,1,none⟩=some (.slice (some ⟨b0,off,none⟩) 256 c)) (first | exact m0 | exact mA | exact m2) (first
  | (go_at_call 156;refine HC.out.mono ?_;rintro e w2 ⟨v,rfl,ho,hb2⟩;have m2:=cell_below m0 (undrew hb2);have H2:=qh (And.intro ho (undrew hb2));clear ho hb2)
  | fail)
 all_goals
  go_wp2_with fail
  go_ret
  exact⟨_,rfl,own_mono H2.out.1 H0.out.1.size,H0.out.1.trans (H2.out.2.mono H0.out.1.size)⟩
open Go.RowKit
theorem hd_drop {b:List Int} (hl:b.length=256) (j:Nat):(hdB b).drop (4+j)=(b.take 8).drop j:=by
 have l4:((b.drop 28).take 4).length=4:=by rw [List.length_take,List.length_drop,hl];rfl
 unfold hdB
 rw [List.drop_append,l4,List.drop_eq_nil_of_le (by omega),List.nil_append,show 4+j - 4=j by omega]
theorem unle_one (l:List Int):unle (l.take 1)=l.getD 0 0:=by
 cases l with
 | nil=>rfl
 | cons z l=>simp [unle]
theorem field_byte {b:List Int} (hb: ∀z∈b,0≤z∧z < 256) (hl:b.length=256) (j:Nat) (hj:j < 8):fieldR (hdB b) 1 (.ok (4+j))=(b.getD j 0,.ok (4+j+1)):=by
 have h1:top 1=255:=rfl
 have hd:unle (((hdB b).drop (4+j)).take 1)=b.getD j 0:=by rw [hd_drop hl,unle_one, ← getD_of_drop,Nat.add_zero,take_get,if_pos hj]
 have hbd:b.getD j 0 < 256:=by
  rw [List.getD_eq_getElem?_getD,List.getElem?_eq_getElem (by omega)]
  exact(hb _ (List.getElem_mem _)).2
 unfold fieldR
 simp only
 rw [if_neg (by rw [hdB_len hl,h1];omega),show(1:Int).toNat=1 from rfl,hd,if_neg (by rw [h1];omega)]
theorem field_num {b:List Int} (hl:b.length=256):fieldR (hdB b) 6 (.ok 5)=if 1099511627776 < unle ((b.drop 1).take 6)then(0,.bad 5 false)else(unle ((b.drop 1).take 6),.ok 11):=by
 have h1:top 6=1099511627776:=rfl
 have hd:((hdB b).drop 5).take 6=(b.drop 1).take 6:=by
  rw [show 5=4+1 from rfl,hd_drop hl,List.drop_take,List.take_take];rfl
 unfold fieldR
 simp only
 rw [if_neg (by rw [hdB_len hl,h1];omega),show(6:Int).toNat=6 from rfl,hd,h1]
theorem unit_cells {w:World} {q:Nat} {x y z:Value} (h:BlockIs w q 65 #[x,y,z]):w.cell? ⟨q,0,none⟩=some x∧w.cell? ⟨q,1,none⟩=some y∧w.cell? ⟨q,2,none⟩=some z∧w.frozen? ⟨q,0,none⟩=false∧w.frozen? ⟨q,1,none⟩=false∧w.frozen? ⟨q,2,none⟩=false:=⟨h.cell 0,h.cell 1,h.cell 2,h.free 0,h.free 1,h.free 2⟩
theorem unit_set {w:World} {q:Nat} {x y z:Value} (h:BlockIs w q 65 #[x,y,z]) (x' y' z':Value):BlockIs (((w.setCell ⟨q,0,none⟩ x').setCell ⟨q,1,none⟩ y').setCell ⟨q,2,none⟩ z') q 65 #[x',y',z']:=((h.set1 0 x').set1 1 y').set1 2 z'
theorem grown_set3 {w w':World} {q:Nat} {row:Option Nat} (h:w.grownBy w' row) (hq:w.heap.size≤q) (x y z:Value):w.grownBy (((w'.setCell ⟨q,0,none⟩ x).setCell ⟨q,1,none⟩ y).setCell ⟨q,2,none⟩ z) row:=
 h.andThen (grown_at (grown_at (grown_at (World.grownBy.refl w' (some q)) 0 x) 1 y) 2 z) (fun b e=>by cases e;exact .inl hq)
theorem unit_any {σ:Sen} {τ:SenU} {w0 w:World} {g b0 off c:Nat} {b:List Int} (E:OpE σ τ w0 w g b0 off c b) (hr:RdAt σ w g (hdB b) (.ok 4)) (hgl:g < w.heap.size) (hbad: ¬badB b) (hf:fitsB b):
 Calls Tryz.prog 139 #[.agg #[.pointer (some ⟨g,0,none⟩),.slice (some ⟨b0,off,none⟩) 256 c]] w fun e w'=> ∃v X k,e= .returned (.tuple #[(openB b).1.val X k,v])∧FlawOf τ (openB b).2 v∧w'.ownsRow w.heap.size 5 1 (.slice X (openB b).1.body.length k) (openB b).1.body.length (u8s (openB b).1.body)∧w.grownBy w' (some g):=by
 have hbx:=below_new w (.cells #[.pointer (some ⟨g,0,none⟩),.slice (some ⟨b0,off,none⟩) 256 c] 218)
 have hBX:=BlockIs.made w 218 #[.pointer (some ⟨g,0,none⟩),.slice (some ⟨b0,off,none⟩) 256 c]
 have hb2:=hbx.alloc hbx.size (.cells #[.int .i64 0,.int .i64 0,.slice none 0 0] 65)
 have hU:=BlockIs.made (w.alloc (.cells #[.pointer (some ⟨g,0,none⟩),.slice (some ⟨b0,off,none⟩) 256 c] 218)) 65 #[.int .i64 0,.int .i64 0,.slice none 0 0]
 have hb3:=hb2.alloc hb2.size (.cells #[.int .i64 1,.int .i64 6,.int .i64 1] 3)
 have hX:=BlockIs.made ((w.alloc (.cells #[.pointer (some ⟨g,0,none⟩),.slice (some ⟨b0,off,none⟩) 256 c] 218)).alloc (.cells #[.int .i64 0,.int .i64 0,.slice none 0 0] 65)) 3 #[.int .i64 1,.int .i64 6,.int .i64 1]
 have hBX3:=(hBX.below (below_new _ (.cells #[.int .i64 0,.int .i64 0,.slice none 0 0] 65)) hBX.lt).below (below_new _ (.cells #[.int .i64 1,.int .i64 6,.int .i64 1] 3)) (by rw [World.size_alloc,World.size_alloc];omega)
 have hU3:=hU.below (below_new _ (.cells #[.int .i64 1,.int .i64 6,.int .i64 1] 3)) hU.lt
 simp only [World.size_alloc]at hU3 hX
 obtain⟨w3,hw3⟩: ∃w3,((w.alloc (.cells #[.pointer (some ⟨g,0,none⟩),.slice (some ⟨b0,off,none⟩) 256 c] 218)).alloc (.cells #[.int .i64 0,.int .i64 0,.slice none 0 0] 65)).alloc (.cells #[.int .i64 1,.int .i64 6,.int .i64 1] 3)=w3:=⟨_,rfl⟩
 have hsz3:w3.heap.size=w.heap.size+1+1+1:=by rw [← hw3];simp
 rw [hw3]at hb3 hX hBX3 hU3
 have E3:=E.at_ (grown_below hb3 (some g))
 have HT:=qh (three_any E3 (hr.below hb3) (by omega) (show w.heap.size+1+1≠g by omega) hX)
 obtain⟨z0,hz0⟩: ∃z,b.getD 0 0=z:=⟨_,rfl⟩
 obtain⟨n6,hn6⟩: ∃z,unle ((b.drop 1).take 6)=z:=⟨_,rfl⟩
 have hb7:0≤b.getD 7 0∧b.getD 7 0 < 256:=by
  rw [List.getD_eq_getElem?_getD,List.getElem?_eq_getElem (by rw [E.len];decide)]
  exact E.bytes.1 _ (List.getElem_mem _)
 obtain⟨many,hmany⟩: ∃m:Nat,b.getD 7 0=(m:Int):=⟨(b.getD 7 0).toNat,by omega⟩
 have hm255:many≤255:=by omega
 have ef1:fieldR (hdB b) 1 (.ok 4)=(z0,.ok 5):=by rw [← hz0];exact field_byte E.bytes.1 E.len 0 (by decide)
 have ef3:fieldR (hdB b) 1 (.ok 11)=((many:Int),.ok 12):=by rw [← hmany];exact field_byte E.bytes.1 E.len 7 (by decide)
 have ef2:=field_num E.len
 rw [hn6]at ef2
 rw [ef1]at HT
 have hwb: ¬(b.length≠256∨b.getD 0 0 < 1∨8 < b.getD 0 0):=hbad
 have HI:=qh (And.intro hU3 (And.intro hBX3 (And.intro hb3 E3)))
 have HE:=qh E
 have Hw3:=qh hw3
 have Hsz:=qh hsz3
 by_cases hnum:1099511627776 < n6
 · have hop:openB b=(noUnit,4):=openB_num hwb hf (by rw [hn6];exact hnum)
   rw [if_pos hnum]at ef2
   rw [ef2,show fieldR (hdB b) 1 (.bad 5 false)=(0,.bad 5 false)from rfl]at HT
   rw [hop]
   clear ef1 ef2 ef3 hz0 hn6 hb7 hmany hwb hU3 hBX3 hb3 hX E3 hbx hBX hb2 hU hw3 hr hf hbad hop hsz3 E
   go_enter Tryz.func139,Tryz.ntmps139
   go_wp2_with fail
   rw [Hw3.out]
   refine HT.out.mono ?_
   rintro e w4 ⟨rfl,hR4,hrd4,hg4⟩
   have B4:=qh (HI.out.2.1.kept hg4 (fun e=>by have:=Option.some.inj e;omega))
   have U4:=qh (HI.out.1.kept hg4 (fun e=>by have:=Option.some.inj e;omega))
   have E4:=qh (HI.out.2.2.2.at_ hg4)
   have G4:=qh ((grown_below HI.out.2.2.1 (some g)).trans hg4)
   have HX:=qh (rerr_any σ w0 w4 g (hdB b) _ hrd4 E4.out.env)
   rw [show errPos (.bad 5 false)=5 from rfl,show errNo (.bad 5 false)=4 from rfl]at HX
   have d0:w4.cell? ⟨w.heap.size,0,none⟩=some (.pointer (some ⟨g,0,none⟩)):=B4.out.cell 0
   clear hR4 hrd4 hg4 HT
   go_wp2_with fail
   refine HX.out.mono ?_
   rintro e w5 ⟨rfl,hb5⟩
   have U5:=qh (U4.out.below hb5 U4.out.lt)
   have G5:=qh (G4.out.trans (grown_below hb5 _))
   have gn:=((HE.out.gl.below (below_grown HE.out.env.bl G5.out HE.out.env.bl.size HE.out.env.lo))).nm
   have HGn:=qh ((HE.out.gl.below (below_grown HE.out.env.bl G5.out HE.out.env.bl.size HE.out.env.lo)))
   unfold errK at gn
   obtain⟨y0,y1,y2,y3,y4,y5⟩:=unit_cells U5.out
   have hlt10:18 < w.heap.size:=Nat.lt_of_lt_of_le (World.block_lt_of_cell? _ _ HE.out.gl.nm) HE.out.env.bl.size
   have gz:=(grown_at (World.grownBy.refl w5 (some (w.heap.size+1))) 0 (.int .i64 0)).cell gn (fun e=>by have:=Option.some.inj e;simp only at this;omega)
   clear hb5 d0 HX hlt10
   go_wp2_with fail
   go_region
   all_goals
    have UZ:=qh (unit_set U5.out (.int .i64 0) (.int .i64 0) (.slice none 0 0))
    have GZ:=qh (grown_set3 G5.out (show w.heap.size≤w.heap.size+1 by omega) (.int .i64 0) (.int .i64 0) (.slice none 0 0))
    clear y0 y1 y2 y3 y4 y5 gn gz
    generalize ((w5.setCell ⟨w.heap.size+1,0,none⟩ (.int .i64 0)).setCell ⟨w.heap.size+1,1,none⟩ (.int .i64 0)).setCell ⟨w.heap.size+1,2,none⟩ (.slice none 0 0)=wz at *
    obtain⟨z0,z1,z2,_,_,_⟩:=unit_cells UZ.out
    go_wp2_with fail
    exact bodyPost_ret (v:= .tuple #[.agg #[.int .i64 0,.int .i64 0,.slice none 0 0],flawV 1 τ.nm]) (by simp [results,Tryz.results139,go_sem,z0,z1,z2]) rfl ⟨_,none,0,rfl,HGn.out.flaw_nm 1,World.ownsRow_nil _ _ _ _,⟨GZ.out.os,GZ.out.tape,GZ.out.output,GZ.out.size,GZ.out.block⟩⟩
 · have hnumi:n6≤1099511627776:=by omega
   rw [if_neg hnum]at ef2
   rw [ef2]at HT
   simp only at HT
   rw [ef3]at HT
   have HOn:=qh (fun(h: ¬lackOk b many)=>openB_lack hwb hf (by rw [hmany,Int.toNat_natCast];exact h))
   have HOy:=qh (fun(h:lackOk b many)=>openB_yes hwb E.bytes.1 hf hb7.1 (by rw [hn6];exact hnumi) (by rw [hmany,Int.toNat_natCast];exact h))
   have HUb:=qh (fun(h:many≤239)=>(unitOf_body E.len (by rw [hmany,Int.toNat_natCast];exact h)).trans (show _=bodyB b many by rw [hmany,Int.toNat_natCast];rfl))
   have HUk:Hid ((unitOf b).kind=z0∧(unitOf b).num=n6):=qh ⟨hz0,hn6⟩
   clear ef1 ef2 ef3 hz0 hn6 hb7 hmany hwb hU3 hBX3 hb3 hX E3 hbx hBX hb2 hU hw3 hr hf hbad hsz3 hnum hnumi E
   go_enter Tryz.func139,Tryz.ntmps139
   go_wp2_with fail
   rw [Hw3.out]
   refine HT.out.mono ?_
   rintro e w4 ⟨rfl,hR4,hrd4,hg4⟩
   have B4:=qh (HI.out.2.1.kept hg4 (fun e=>by have:=Option.some.inj e;omega))
   have U4:=qh (HI.out.1.kept hg4 (fun e=>by have:=Option.some.inj e;omega))
   have E4:=qh (HI.out.2.2.2.at_ hg4)
   have G4:=qh ((grown_below HI.out.2.2.1 (some g)).trans hg4)
   have R4:=qh hR4
   have HX:=qh (rerr_any σ w0 w4 g (hdB b) _ hrd4 E4.out.env)
   rw [show errPos (.ok 12)=0 from rfl,show errNo (.ok 12)=0 from rfl]at HX
   have d0:w4.cell? ⟨w.heap.size,0,none⟩=some (.pointer (some ⟨g,0,none⟩)):=B4.out.cell 0
   clear hR4 hrd4 hg4 HT
   go_wp2_with fail
   refine HX.out.mono ?_
   rintro e w5 ⟨rfl,hb5⟩
   have U5:=qh (U4.out.below hb5 U4.out.lt)
   have B5:=qh (B4.out.below hb5 B4.out.lt)
   have G5:=qh (G4.out.trans (grown_below hb5 _))
   have R5:=qh (R4.out.below hb5 R4.out.lt)
   have r0:w5.cell? ⟨w3.heap.size+1,0,none⟩=some (.int .i64 z0):=R5.out.cell 0
   have r1:w5.cell? ⟨w3.heap.size+1,1,none⟩=some (.int .i64 n6):=R5.out.cell 1
   have r2:w5.cell? ⟨w3.heap.size+1,2,none⟩=some (.int .i64 (many:Int)):=R5.out.cell 2
   clear hb5 d0 HX
   go_wp2_with fail
   have d0:w5.cell? ⟨w.heap.size,0,none⟩=some (.pointer (some ⟨g,0,none⟩)):=B5.out.cell 0
   have d1:w5.cell? ⟨w.heap.size,1,none⟩=some (.slice (some ⟨b0,off,none⟩) 256 c):=B5.out.cell 1
   have Hb05:=qh (below_grown HE.out.env.bl G5.out HE.out.env.bl.size HE.out.env.lo)
   have HLk:=qh (lack_any τ w5.drew (HE.out.gl.below Hb05.out.drew) (some ⟨g,0,none⟩) b0 off b c many (HE.out.bytes.below Hb05.out.drew) HE.out.len HE.out.cap.1 HE.out.cap.2 hm255)
   go_region
   all_goals
    clear r0 r1 r2
    go_wp2_with fail
    clear d0 d1
    refine HLk.out.mono ?_
    rintro e w6 ⟨v,k,rfl,hF,hN,hb6⟩
    have hb6':Below w5.heap.size w5 w6:=undrew hb6
    have U6:=qh (U5.out.below hb6' U5.out.lt)
    have B6:=qh (B5.out.below hb6' B5.out.lt)
    have G6:=qh (G5.out.trans (grown_below hb6' _))
    clear hb6 hb6'
    by_cases hok:lackOk b many
    · obtain rfl:=FlawOf.zero (show FlawOf τ 0 v by rcases hN with⟨_,rfl⟩ | ⟨h,_⟩;exact hF;exact absurd hok h)
      have h239:many≤239:=hok.1
      have Hoy:=qh (HOy.out hok)
      have Hub:=qh (HUb.out h239)
      have Hb06:=qh (below_grown HE.out.env.bl G6.out HE.out.env.bl.size HE.out.env.lo)
      have HBd:=qh (body_any w6 (some ⟨g,0,none⟩) b0 off b c many (HE.out.bytes.below Hb06.out) HE.out.len HE.out.cap.1 HE.out.cap.2 h239)
      have d0:w6.cell? ⟨w.heap.size,0,none⟩=some (.pointer (some ⟨g,0,none⟩)):=B6.out.cell 0
      have d1:w6.cell? ⟨w.heap.size,1,none⟩=some (.slice (some ⟨b0,off,none⟩) 256 c):=B6.out.cell 1
      have Hbl:=qh (bodyB_len HE.out.len h239)
      clear hF hN hok
      go_wp2_with fail
      clear d0 d1
      refine HBd.out.mono ?_
      rintro e w7 ⟨v,rfl,ho,hb7⟩
      obtain⟨X,cap,rfl,hcp,_⟩:=own_slice ho
      have U7:=qh (U6.out.below hb7 U6.out.lt)
      have G7:=qh (G6.out.trans (grown_below hb7 _))
      have Ho7:=qh (And.intro ho (And.intro hb7 (World.ownsRow.lt ho)))
      obtain⟨y0,y1,y2,y3,y4,y5⟩:=unit_cells U7.out
      clear ho hb7 HBd
      go_wp2_with fail
      clear y0 y1 y2 y3 y4 y5
      have UZ:=qh (unit_set U7.out (.int .i64 z0) (.int .i64 n6) (.slice X many cap))
      have GZ:=qh (grown_set3 G7.out (show w.heap.size≤w.heap.size+1 by omega) (.int .i64 z0) (.int .i64 n6) (.slice X many cap))
      have OZ:Hid ((((w7.setCell ⟨w.heap.size+1,0,none⟩ (.int .i64 z0)).setCell ⟨w.heap.size+1,1,none⟩ (.int .i64 n6)).setCell ⟨w.heap.size+1,2,none⟩ (.slice X many cap)).ownsRow w.heap.size 5 1 (.slice X many cap) many (u8s (bodyB b many))):=qh (own_mono (own_keep Ho7.out.1 (fun bb e=>by
       have hlo:=(Ho7.out.2.2 bb e).1
       have hne:bb≠w.heap.size+1:=by have:=U6.out.lt;omega
       exact(Below.heap_setCell _ ⟨w.heap.size+1,2,none⟩ _ bb hne).trans ((Below.heap_setCell _ ⟨w.heap.size+1,1,none⟩ _ bb hne).trans (Below.heap_setCell _ ⟨w.heap.size+1,0,none⟩ _ bb hne)))) (by have:=G6.out.size;omega))
      generalize ((w7.setCell ⟨w.heap.size+1,0,none⟩ (.int .i64 z0)).setCell ⟨w.heap.size+1,1,none⟩ (.int .i64 n6)).setCell ⟨w.heap.size+1,2,none⟩ (.slice X many cap)=wz at *
      obtain⟨z0',z1,z2,_,_,_⟩:=unit_cells UZ.out
      rw [Hoy.out]
      unfold UnitV.val
      rw [HUk.out.1,HUk.out.2,Hub.out,Hbl.out]
      exact bodyPost_ret (v:= .tuple #[.agg #[.int .i64 z0,.int .i64 n6,.slice X many cap],.nilIface]) (by simp [results,Tryz.results139,go_sem,z0',z1,z2]) rfl ⟨_,X,cap,rfl,FlawOf.none τ,OZ.out,GZ.out⟩
    · obtain⟨pos,a,rfl,ha⟩:=FlawOf.four (show FlawOf τ 4 v by rcases hN with⟨h,_⟩ | ⟨_,rfl⟩;exact absurd h hok;exact hF)
      have Hon:=qh (HOn.out hok)
      have Ha:=qh ha
      obtain⟨y0,y1,y2,y3,y4,y5⟩:=unit_cells U6.out
      clear hF hN hok ha
      go_wp2_with fail
      clear y0 y1 y2 y3 y4 y5
      have UZ:=qh (unit_set U6.out (.int .i64 0) (.int .i64 0) (.slice none 0 0))
      have GZ:=qh (grown_set3 G6.out (show w.heap.size≤w.heap.size+1 by omega) (.int .i64 0) (.int .i64 0) (.slice none 0 0))
      generalize ((w6.setCell ⟨w.heap.size+1,0,none⟩ (.int .i64 0)).setCell ⟨w.heap.size+1,1,none⟩ (.int .i64 0)).setCell ⟨w.heap.size+1,2,none⟩ (.slice none 0 0)=wz at *
      obtain⟨z0',z1,z2,_,_,_⟩:=unit_cells UZ.out
      rw [Hon.out]
      exact bodyPost_ret (v:= .tuple #[.agg #[.int .i64 0,.int .i64 0,.slice none 0 0],flawV pos a]) (by simp [results,Tryz.results139,go_sem,z0',z1,z2]) rfl ⟨_,none,0,rfl,Ha.out,World.ownsRow_nil _ _ _ _,GZ.out⟩
open Go.RowKit
theorem RdAt.lt {σ:Sen} {w:World} {g:Nat} {bs:List Int} {s:RSt} (h:RdAt σ w g bs s):g < w.heap.size:=by
 obtain⟨x,cap,k,ev,h⟩:=h
 exact h.blk.lt
theorem own_set3 {w:World} {B n q:Nat} {v x y z:Value} {xs:List Value} (h:w.ownsRow B 5 1 v n xs) (hq:q < B):(((w.setCell ⟨q,0,none⟩ x).setCell ⟨q,1,none⟩ y).setCell ⟨q,2,none⟩ z).ownsRow B 5 1 v n xs:=
 own_keep h (fun bb e=>by
  have hlo:=(h.lt bb e).1
  have hne:bb≠q:=by omega
  exact(Below.heap_setCell _ ⟨q,2,none⟩ _ bb hne).trans ((Below.heap_setCell _ ⟨q,1,none⟩ _ bb hne).trans (Below.heap_setCell _ ⟨q,0,none⟩ _ bb hne)))
theorem below_set3 {w w':World} {q:Nat} (h:Below w.heap.size w w') (hq:w.heap.size≤q) (x y z:Value):Below w.heap.size w (((w'.setCell ⟨q,0,none⟩ x).setCell ⟨q,1,none⟩ y).setCell ⟨q,2,none⟩ z):=
 below_grown h (grown_at (grown_at (grown_at (World.grownBy.refl w' (some q)) 0 x) 1 y) 2 z) h.size hq
def OutU (w w':World) (u:UnitV) (X:Option Addr) (k:Nat):Prop:=w'.ownsRow w.heap.size 5 1 (.slice X u.body.length k) u.body.length (u8s u.body)
theorem open_any (σ:Sen) (τ:SenU) (w:World) (hC:GlAt σ w) (hU:GlU τ w) (A:Option Addr) (b:List Int) (c:Nat) (hb:BytesAt w A b) (hbc:b.length≤c) (hm:c≤9223372036854775807):
 Calls Tryz.prog 118 #[.slice A b.length c] w fun e w'=> ∃v X k,e= .returned (.tuple #[(openB b).1.val X k,v])∧FlawOf τ (openB b).2 v∧OutU w w' (openB b).1 X k∧Below w.heap.size w w':=by
 have hbn:=below_new w (.cells #[.int .i64 0,.int .i64 0,.slice none 0 0] 65)
 have hQ:=BlockIs.made w 65 #[.int .i64 0,.int .i64 0,.slice none 0 0]
 have HS:=qh (shapeless_any τ _ (hU.below hbn) A b c (hb.below hbn))
 have HB1:=qh (hb.below hbn)
 obtain⟨w1,hw1⟩: ∃w1,w.alloc (.cells #[.int .i64 0,.int .i64 0,.slice none 0 0] 65)=w1:=⟨_,rfl⟩
 rw [hw1]at hbn hQ HS HB1
 have H1:=qh (And.intro hbn hQ)
 have Hw1:=qh hw1
 by_cases hbad:badB b
 · rw [if_pos hbad]at HS
   rw [openB_shape hbad]
   clear hbn hQ hC hU hb hw1 hbad
   go_enter Tryz.func118,Tryz.ntmps118
   go_wp2_with fail
   rw [Hw1.out]
   refine HS.out.mono ?_
   rintro e w' ⟨v,rfl,hF,rfl⟩
   obtain⟨pos,a,rfl,ha⟩:=hF.four
   have Ha:=qh ha
   obtain⟨y0,y1,y2,y3,y4,y5⟩:=unit_cells H1.out.2
   clear ha hF
   go_wp2_with fail
   clear y0 y1 y2 y3 y4 y5
   have UZ:=qh (unit_set H1.out.2 (.int .i64 0) (.int .i64 0) (.slice none 0 0))
   have BZ:=qh (below_set3 H1.out.1 (Nat.le_refl _) (.int .i64 0) (.int .i64 0) (.slice none 0 0))
   generalize ((w1.setCell ⟨w.heap.size,0,none⟩ (.int .i64 0)).setCell ⟨w.heap.size,1,none⟩ (.int .i64 0)).setCell ⟨w.heap.size,2,none⟩ (.slice none 0 0)=wz at *
   obtain⟨z0,z1,z2,_,_,_⟩:=unit_cells UZ.out
   exact bodyPost_ret (v:= .tuple #[.agg #[.int .i64 0,.int .i64 0,.slice none 0 0],flawV pos a]) (by simp [results,Tryz.results118,go_sem,z0,z1,z2]) rfl ⟨_,none,0,rfl,Ha.out,World.ownsRow_nil _ _ _ _,BZ.out⟩
 · rw [if_neg hbad]at HS
   have hwb: ¬(b.length≠256∨b.getD 0 0 < 1∨8 < b.getD 0 0):=hbad
   have hl:b.length=256:=by omega
   obtain⟨b0,off,rfl⟩:=hb.some_ (by intro e;rw [e]at hl;exact absurd hl (by decide))
   rw [hl]at HS hbc ⊢
   have HN:=qh (newOpener_any σ w1 b0 off b c HB1.out hl hbc (by omega))
   have HC:=qh hC
   have HU:=qh hU
   have HB:=qh hb
   have Hl:=qh hl
   have Hbc:=qh (show 256≤c∧c≤9223372036854775807 from⟨hbc,by omega⟩)
   have Hbad:=qh hbad
   have HOs:=qh (fun(h: ¬fitsB b)=>openB_sum hwb h)
   clear hbn hQ hC hU hb hw1 hbad hwb hl hbc
   go_enter Tryz.func118,Tryz.ntmps118
   go_wp2_with fail
   rw [Hw1.out]
   refine HS.out.mono ?_
   rintro e w' ⟨v,rfl,hF,rfl⟩
   obtain rfl:=hF.zero
   clear hF
   go_wp2_with fail
   refine HN.out.mono ?_
   rintro e w2 ⟨g,rfl,hg,hrd,hb2⟩
   have Q2:=qh (H1.out.2.below hb2 H1.out.2.lt)
   have hgl2:=hrd.lt
   have hb3:=below_new w2 (.cells #[.pointer (some ⟨g,0,none⟩),.slice (some ⟨b0,off,none⟩) 256 c] 218)
   have P3:=qh (BlockIs.made w2 218 #[.pointer (some ⟨g,0,none⟩),.slice (some ⟨b0,off,none⟩) 256 c])
   have Q3:=qh (Q2.out.below hb3 Q2.out.lt)
   have b03:=(H1.out.1.trans (hb2.mono H1.out.1.size)).trans (hb3.mono (Nat.le_trans H1.out.1.size hb2.size))
   have hgq:w.heap.size < g:=Nat.lt_of_lt_of_le H1.out.2.lt hg
   have hsz2:w2.heap.size≠g:=by omega
   obtain⟨w3,hw3⟩: ∃w3,w2.alloc (.cells #[.pointer (some ⟨g,0,none⟩),.slice (some ⟨b0,off,none⟩) 256 c] 218)=w3:=⟨_,rfl⟩
   rw [hw3]at hb3 P3 Q3 b03
   have hE:OpE σ τ w w3 g b0 off c b:=⟨⟨HC.out,b03,by omega⟩,HU.out,HB.out,Hl.out,Hbc.out⟩
   have E3:=qh hE
   have hrd3:=hrd.below hb3
   have HUs:=qh (unsealed_any hE hrd3 hrd3.lt)
   have Hw3:=qh hw3
   have HG:=qh (And.intro hgq (And.intro hsz2 hrd3.lt))
   have d0:w3.cell? ⟨w2.heap.size,0,none⟩=some (.pointer (some ⟨g,0,none⟩)):=P3.out.cell 0
   have d1:w3.cell? ⟨w2.heap.size,1,none⟩=some (.slice (some ⟨b0,off,none⟩) 256 c):=P3.out.cell 1
   clear hrd hb2 hb3 hg hgl2 b03 hw3 hE hrd3 hgq hsz2 HN HS
   go_wp2_with fail
   rw [Hw3.out]
   refine HUs.out.mono ?_
   rintro e w4 ⟨v,rfl,hF,hrd4,hg4⟩
   have Q4:=qh (Q3.out.kept hg4 (fun e=>by have:=Option.some.inj e;have:=HG.out.1;omega))
   have P4:=qh (P3.out.kept hg4 (fun e=>HG.out.2.1 (Option.some.inj e)))
   have E4:=qh (E3.out.at_ hg4)
   have Rd4:=qh hrd4
   clear d0 d1 hg4 hrd4 HUs
   by_cases hf:fitsB b
   · obtain rfl:=FlawOf.zero (show FlawOf τ 0 v by rw [if_pos hf]at hF;exact hF)
     have HUn:=qh (unit_any E4.out Rd4.out (by have:=Rd4.out.lt;exact this) Hbad.out hf)
     have d0:w4.cell? ⟨w2.heap.size,0,none⟩=some (.pointer (some ⟨g,0,none⟩)):=P4.out.cell 0
     have d1:w4.cell? ⟨w2.heap.size,1,none⟩=some (.slice (some ⟨b0,off,none⟩) 256 c):=P4.out.cell 1
     clear hF hf
     go_wp2_with fail
     clear d0 d1
     refine HUn.out.mono ?_
     rintro e w5 ⟨v,X,k,rfl,hF,ho,hg5⟩
     have Q5:=qh (Q4.out.kept hg5 (fun e=>by have:=Option.some.inj e;have:=HG.out.1;omega))
     have B5:=qh (below_grown E4.out.env.bl hg5 E4.out.env.bl.size E4.out.env.lo)
     have hq4:=Q4.out.lt
     have O5:=qh (And.intro hF (And.intro ho (own_set3 (q:=w.heap.size) (x:= .int .i64 (openB b).1.kind) (y:= .int .i64 (openB b).1.num) (z:= .slice X (openB b).1.body.length k) ho hq4)))
     clear hF ho hg5 HUn
     obtain⟨y0,y1,y2,y3,y4,y5⟩:=unit_cells Q5.out
     unfold UnitV.val
     obtain⟨r,hop⟩: ∃r,openB b=r:=⟨_,rfl⟩
     rw [hop]at O5 ⊢
     obtain⟨u,code⟩:=r
     simp only at O5 ⊢
     have Hop:=qh hop
     clear hop
     go_wp2_with fail
     clear y0 y1 y2 y3 y4 y5
     have UZ:=qh (unit_set Q5.out (.int .i64 u.kind) (.int .i64 u.num) (.slice X u.body.length k))
     have BZ:=qh (below_set3 B5.out (Nat.le_refl _) (.int .i64 u.kind) (.int .i64 u.num) (.slice X u.body.length k))
     have OZ:=qh (own_mono O5.out.2.2 (show w.heap.size≤w4.heap.size by omega))
     have HFz:=qh O5.out.1
     clear O5 hq4
     generalize ((w5.setCell ⟨w.heap.size,0,none⟩ (.int .i64 u.kind)).setCell ⟨w.heap.size,1,none⟩ (.int .i64 u.num)).setCell ⟨w.heap.size,2,none⟩ (.slice X u.body.length k)=wz at *
     obtain⟨z0,z1,z2,_,_,_⟩:=unit_cells UZ.out
     exact bodyPost_ret (v:= .tuple #[.agg #[.int .i64 u.kind,.int .i64 u.num,.slice X u.body.length k],v]) (by simp [results,Tryz.results118,go_sem,z0,z1,z2]) rfl (by rw [Hop.out];exact⟨v,X,k,rfl,HFz.out,OZ.out,BZ.out⟩)
   · obtain⟨pos,a,rfl,ha⟩:=FlawOf.some_ (k:=5) (by decide) (show FlawOf τ 5 v by rw [if_neg hf]at hF;exact hF)
     have Ha:=qh ha
     have Hop:=qh (HOs.out hf)
     have B4:=qh E4.out.env.bl
     obtain⟨y0,y1,y2,y3,y4,y5⟩:=unit_cells Q4.out
     clear hF hf ha
     go_wp2_with fail
     clear y0 y1 y2 y3 y4 y5
     have UZ:=qh (unit_set Q4.out (.int .i64 0) (.int .i64 0) (.slice none 0 0))
     have BZ:=qh (below_set3 B4.out (Nat.le_refl _) (.int .i64 0) (.int .i64 0) (.slice none 0 0))
     rw [Hop.out]
     generalize ((w4.setCell ⟨w.heap.size,0,none⟩ (.int .i64 0)).setCell ⟨w.heap.size,1,none⟩ (.int .i64 0)).setCell ⟨w.heap.size,2,none⟩ (.slice none 0 0)=wz at *
     obtain⟨z0,z1,z2,_,_,_⟩:=unit_cells UZ.out
     exact bodyPost_ret (v:= .tuple #[.agg #[.int .i64 0,.int .i64 0,.slice none 0 0],flawV pos a]) (by simp [results,Tryz.results118,go_sem,z0,z1,z2]) rfl ⟨_,none,0,rfl,Ha.out,World.ownsRow_nil _ _ _ _,BZ.out⟩
open Go.RowKit
theorem uopen_any (σ:Sen) (τ:SenU) (w:World) (hC:GlAt σ w) (hU:GlU τ w) (A:Option Addr) (b:List Int) (c:Nat) (hb:BytesAt w A b) (hbc:b.length≤c) (hm:c≤9223372036854775807):
 Calls Tryz.prog 89 #[.slice A b.length c] w fun e w'=> ∃X k,e= .returned (.tuple #[(openB b).1.val X k,.int .i64 (openB b).2])∧OutU w w' (openB b).1 X k∧Below w.heap.size w w':=by
 have hbn:=below_new w (.cells #[.int .i64 0,.int .i64 0,.slice none 0 0] 65)
 have hQ:=BlockIs.made w 65 #[.int .i64 0,.int .i64 0,.slice none 0 0]
 have HO:=qh (open_any σ τ _ (hC.below hbn) (hU.below hbn) A b c (hb.below hbn) hbc hm)
 have HU:=qh (hU.below hbn)
 obtain⟨w1,hw1⟩: ∃w1,w.alloc (.cells #[.int .i64 0,.int .i64 0,.slice none 0 0] 65)=w1:=⟨_,rfl⟩
 rw [hw1]at hbn hQ HO HU
 have H1:=qh (And.intro hbn hQ)
 have Hw1:=qh hw1
 obtain⟨r,hop⟩: ∃r,openB b=r:=⟨_,rfl⟩
 rw [hop]at HO ⊢
 obtain⟨u,code⟩:=r
 simp only at HO ⊢
 clear hbn hQ hC hU hb hw1 hop
 unfold UnitV.val at *
 go_enter Tryz.func89,Tryz.ntmps89
 go_wp2_with fail
 rw [Hw1.out]
 refine HO.out.mono ?_
 rintro e w2 ⟨v,X,k,rfl,hF,ho,hb2⟩
 have hb3:=below_new w2 (.cells #[.int .i64 u.kind,.int .i64 u.num,.slice X u.body.length k] 65)
 have hb13:=hb2.trans (hb3.mono hb2.size)
 obtain⟨w3,hw3⟩: ∃w3,w2.alloc (.cells #[.int .i64 u.kind,.int .i64 u.num,.slice X u.body.length k] 65)=w3:=⟨_,rfl⟩
 have P3:=qh (BlockIs.made w2 65 #[.int .i64 u.kind,.int .i64 u.num,.slice X u.body.length k])
 rw [hw3]at hb3 hb13 P3
 have HEr:=qh (uerrno_any τ w3.drew ((HU.out.below hb13).below ((Below.refl _ _).drew)) code v hF)
 have Q3:=qh (H1.out.2.below hb13 H1.out.2.lt)
 have B3:=qh (H1.out.1.trans (hb13.mono H1.out.1.size))
 have O3:=qh (ownsRow_below ho hb3)
 have Hw3:=qh hw3
 have HS:=qh (And.intro H1.out.2.lt (show w.heap.size < w2.heap.size from Nat.lt_of_lt_of_le H1.out.2.lt hb2.size))
 clear hb2 hb3 hb13 hF ho hw3 HO
 go_wp2_with fail
 rw [Hw3.out]
 obtain⟨p0,p1,p2,_,_,_⟩:=unit_cells P3.out
 obtain⟨y0,y1,y2,y3,y4,y5⟩:=unit_cells Q3.out
 go_region_with (first
  | (go_at_call 120;refine HEr.out.mono ?_;rintro e w4 ⟨rfl,hb4⟩;have B4:=qh (undrew hb4:Below w3.heap.size w3 w4);obtain⟨x0,x1,x2,x3,x4,x5⟩:=unit_cells (Q3.out.below B4.out Q3.out.lt);obtain⟨t0,t1,t2,_,_,_⟩:=unit_cells (P3.out.below B4.out P3.out.lt);clear hb4)
  | fail)
 all_goals
  have Q4:=qh (Q3.out.below B4.out Q3.out.lt)
  have O4:=qh (own_set3 (q:=w.heap.size) (x:= .int .i64 u.kind) (y:= .int .i64 u.num) (z:= .slice X u.body.length k) (ownsRow_below O3.out B4.out) HS.out.1)
  have UZ:=qh (unit_set Q4.out (.int .i64 u.kind) (.int .i64 u.num) (.slice X u.body.length k))
  have BZ:=qh (below_set3 (B3.out.trans (B4.out.mono B3.out.size)) (Nat.le_refl _) (.int .i64 u.kind) (.int .i64 u.num) (.slice X u.body.length k))
  clear x0 x1 x2 x3 x4 x5 p0 p1 p2 t0 t1 t2 y0 y1 y2 y3 y4 y5
  generalize ((w4.setCell ⟨w.heap.size,0,none⟩ (.int .i64 u.kind)).setCell ⟨w.heap.size,1,none⟩ (.int .i64 u.num)).setCell ⟨w.heap.size,2,none⟩ (.slice X u.body.length k)=wz at *
  obtain⟨z0,z1,z2,_,_,_⟩:=unit_cells UZ.out
  go_wp2_with fail
  exact bodyPost_ret (v:= .tuple #[.agg #[.int .i64 u.kind,.int .i64 u.num,.slice X u.body.length k],.int .i64 code]) (by simp [results,Tryz.results89,go_sem,z0,z1,z2]) rfl ⟨X,k,rfl,own_mono O4.out H1.out.1.size,BZ.out⟩
theorem asB_bad {b:List Int} {k num:Int} (h:(openB b).2≠0):asB b k num=([],(openB b).2):=by unfold asB;rw [if_pos h]
theorem asB_other {b:List Int} {k num:Int} (h:(openB b).2=0) (ho:otherU (openB b).1 k num):asB b k num=([],6):=by unfold asB;rw [if_neg (fun hn=>hn h)];exact if_pos ho
theorem asB_yes {b:List Int} {k num:Int} (h:(openB b).2=0) (ho: ¬otherU (openB b).1 k num):asB b k num=((openB b).1.body,0):=by unfold asB;rw [if_neg (fun hn=>hn h)];exact if_neg ho
theorem uas_any (σ:Sen) (τ:SenU) (w:World) (hC:GlAt σ w) (hU:GlU τ w) (A:Option Addr) (b:List Int) (c:Nat) (hb:BytesAt w A b) (hbc:b.length≤c) (hm:c≤9223372036854775807) (kd num:Int):
 Calls Tryz.prog 88 #[.slice A b.length c,.int .i64 kd,.int .i64 num] w fun e w'=> ∃v,e= .returned (.tuple #[v,.int .i64 (asB b kd num).2])∧w'.ownsRow w.heap.size 5 1 v (asB b kd num).1.length (u8s (asB b kd num).1)∧Below w.heap.size w w':=by
 have HO:=qh (open_any σ τ w hC hU A b c hb hbc hm)
 have HU:=qh hU
 have Ha1:=qh (fun h=>asB_bad (b:=b) (k:=kd) (num:=num) h)
 have Ha2:=qh (fun h=>asB_other (b:=b) (k:=kd) (num:=num) h)
 have Ha3:=qh (fun h=>asB_yes (b:=b) (k:=kd) (num:=num) h)
 obtain⟨r,hop⟩: ∃r,openB b=r:=⟨_,rfl⟩
 rw [hop]at HO Ha1 Ha2 Ha3
 obtain⟨u,code⟩:=r
 simp only at HO Ha1 Ha2 Ha3
 clear hC hU hb hop
 unfold UnitV.val at *
 go_enter Tryz.func88,Tryz.ntmps88
 go_wp2_with fail
 refine HO.out.mono ?_
 rintro e w2 ⟨v,X,k,rfl,hF,ho,hb2⟩
 have hb3:=below_new w2 (.cells #[.int .i64 u.kind,.int .i64 u.num,.slice X u.body.length k] 65)
 have hb13:=hb2.trans (hb3.mono hb2.size)
 obtain⟨w3,hw3⟩: ∃w3,w2.alloc (.cells #[.int .i64 u.kind,.int .i64 u.num,.slice X u.body.length k] 65)=w3:=⟨_,rfl⟩
 have P3:=qh (BlockIs.made w2 65 #[.int .i64 u.kind,.int .i64 u.num,.slice X u.body.length k])
 rw [hw3]at hb3 hb13 P3
 have HU3:=qh (HU.out.below hb13)
 have B3:=qh hb13
 have O3:=qh (ownsRow_below ho hb3)
 have Hw3:=qh hw3
 obtain⟨p0,p1,p2,_,_,_⟩:=unit_cells P3.out
 clear hb2 hb3 hb13 ho hw3 HO
 by_cases hc0:code=0
 · subst hc0
   obtain rfl:=hF.zero
   have HSt:=qh (strange_any τ w3 HU3.out u X k kd num)
   unfold UnitV.val at HSt
   clear hF
   go_wp2_with fail
   rw [Hw3.out]
   refine HSt.out.mono ?_
   rintro e w4 ⟨v,rfl,hF,hb4⟩
   have B4:=qh (B3.out.trans (hb4.mono B3.out.size))
   have O4:=qh (ownsRow_below O3.out hb4)
   have HU4:=qh (HU3.out.below hb4)
   have c2:w4.cell? ⟨w2.heap.size,2,none⟩=some (.slice X u.body.length k):=(P3.out.below hb4 P3.out.lt).cell 2
   clear p0 p1 p2 hb4 HSt
   by_cases hot:otherU u kd num
   · have Has:=qh (Ha2.out (by first | rfl | trivial) hot)
     obtain⟨pos,a,rfl,ha⟩:=FlawOf.some_ (k:=6) (by decide) (show FlawOf τ 6 v by rw [if_pos hot]at hF;exact hF)
     have HEr:=qh (uerrno_any τ w4 HU4.out 6 _ ha)
     clear hF ha hot c2
     go_wp2_with fail
     refine HEr.out.mono ?_
     rintro e w5 ⟨rfl,hb5⟩
     have B5:=qh (B4.out.trans (hb5.mono B4.out.size))
     clear hb5 HEr
     go_wp2_with fail
     go_ret2
     rw [Has.out]
     exact⟨_,rfl,World.ownsRow_nil _ _ _ _,B5.out⟩
   · have Has:=qh (Ha3.out (by first | rfl | trivial) hot)
     obtain rfl:=FlawOf.zero (show FlawOf τ 0 v by rw [if_neg hot]at hF;exact hF)
     clear hF hot
     go_wp2_with fail
     go_ret2
     rw [Has.out]
     exact⟨_,rfl,O4.out,B4.out⟩
 · have Has:=qh (Ha1.out hc0)
   obtain⟨pos,a,rfl,ha⟩:=hF.some_ hc0
   have HEr:=qh (uerrno_any τ w3 HU3.out code _ ha)
   have Hw3b:=Hw3
   clear hF ha hc0
   go_wp2_with fail
   rw [Hw3.out]
   refine HEr.out.mono ?_
   rintro e w5 ⟨rfl,hb5⟩
   have B5:=qh (B3.out.trans (hb5.mono B3.out.size))
   clear hb5 HEr
   go_wp2_with fail
   go_ret2
   rw [Has.out]
   exact⟨_,rfl,World.ownsRow_nil _ _ _ _,B5.out⟩
end Go.Proofs.YtpaikolnampcfaaGreatDoor
