/- seg: the segment of a shape and a number; what it has not. -/
/- seg: a segment's head. -/
import Derived.Test.YtpdfmpegcejmkaaGreatDoorSegRecord
import Derived.Test.YtpdfmpegcejmkaaGreatDoorPlanFirst
import Derived.Test.YtpdfmpegcejmkaaGreatDoorKitInv
import Derived.Deep.RegionWith
namespace Go.Proofs.YtpdfmpegcejmkaaGreatDoor
open Go.RowKit
/-- The first index of a segment, below 0 if there is none. -/
def firstI (a b c g : Int) : Int := if shapeB a b c = true ∧ 0 ≤ g ∧ g ≤ 1099511627776 then g * b + 1 else -1
theorem first_any (a b c g : Int) (w : World) :
    Calls Tryz.prog 32 #[.agg #[.int .i64 a, .int .i64 b, .int .i64 c], .int .i64 g] w fun e w' => e = .returned (.int .i64 (firstI a b c g)) ∧ Below w.heap.size w w' := by
  by_cases h : shapeB a b c = true
  · obtain ⟨S, R, P, rfl, rfl, rfl, hr⟩ := right_shape h
    have e : firstI S R P g = fstN R g := by
      unfold firstI fstN
      by_cases hg : 0 ≤ g ∧ g ≤ 1099511627776
      · rw [if_pos ⟨h, hg⟩, if_pos hg]
      · rw [if_neg (fun x => hg x.2), if_neg hg]
    rw [e]
    exact firstN_any hr g w
  · have e : firstI a b c g = -1 := if_neg (fun x => h x.1)
    rw [e]
    exact first_not (by simpa using h) g w
namespace Ssa
theorem exec_build3 {P : Program} {ρ : Operand → Value} {o : Oper} {w : World} {t : TypeId} {i j k : Nat} {x y z : Operand} {u v q r : Value} (ho : o.op = .build t #[(i, x), (j, y), (k, z)]) (hx : ρ x = u) (hy : ρ y = v) (hz : ρ z = q) (hr : (Instr.build t #[(i, u), (j, v), (k, q)]).run P w = .ok r w) : (execOp ρ o).run P w = .ok (.value r) w := by
  subst hx hy hz
  unfold execOp
  simp only [ho, Sem.run_bind]
  rw [show (#[(i, x), (j, y), (k, z)] : Array (Nat × Operand)).map (fun (i, x) => (i, ρ x)) = #[(i, ρ x), (j, ρ y), (k, ρ z)] by simp, hr]
  simp only [Result.andThen_ok, Sem.run_pure]
end Ssa
/-- A segment. -/
abbrev segC (a b c g f : Int) : Array Value := #[.int .i64 a, .int .i64 b, .int .i64 c, .int .i64 g, .int .i64 f]
/-- Amid segmentOf. -/
structure SgI (W : World) (a b c g f : Int) (D : Nat → Bool) (V : Nat → Value) (w : World) : Prop where
  bl : Below W.heap.size W w
  sz : W.heap.size + 2 ≤ w.heap.size
  sh : BlockIs w W.heap.size 23 #[.int .i64 a, .int .i64 b, .int .i64 c]
  r0 : D 6 = false → BlockIs w (W.heap.size + 1) 73 (segC 0 0 0 0 0)
  r1 : D 6 = true → BlockIs w (W.heap.size + 1) 73 (segC a b c g f)
  v0 : D 0 = true → V 0 = .agg #[.int .i64 a, .int .i64 b, .int .i64 c]
  v1 : D 1 = true → V 1 = .int .i64 g
  v2 : D 2 = true → V 2 = .agg #[.int .i64 a, .int .i64 b, .int .i64 c]
  v3 : D 3 = true → V 3 = .int .i64 g
  v4 : D 4 = true → V 4 = .int .i64 f
  v5 : D 5 = true → V 5 = .agg (segC a b c g f)
theorem shape_load {w : World} {p : Nat} {a b c : Int} (h : BlockIs w p 23 #[.int .i64 a, .int .i64 b, .int .i64 c]) : (Instr.loadAt 23 (.pointer (some ⟨p, 0, none⟩))).run Tryz.prog w = .ok (.agg #[.int .i64 a, .int .i64 b, .int .i64 c]) w := by
  have d0 := h.cell 0
  have d1 := h.cell 1
  have d2 := h.cell 2
  go_simp
theorem seg_build (a b c g f : Int) (w : World) : (Instr.build 73 #[(0, .agg #[.int .i64 a, .int .i64 b, .int .i64 c]), (1, .int .i64 g), (2, .int .i64 f)]).run Tryz.prog w = .ok (.agg (segC a b c g f)) w := by
  unfold segC
  go_simp
theorem BlockIs.five {w : World} {g : Nat} {t : TypeId} {a b c d e : Value} (k : BlockIs w g t #[a, b, c, d, e]) (x y z u v : Value) :
    BlockIs (((((w.setCell ⟨g, 0, none⟩ x).setCell ⟨g, 1, none⟩ y).setCell ⟨g, 2, none⟩ z).setCell ⟨g, 3, none⟩ u).setCell ⟨g, 4, none⟩ v) g t #[x, y, z, u, v] ∧ w.grownBy (((((w.setCell ⟨g, 0, none⟩ x).setCell ⟨g, 1, none⟩ y).setCell ⟨g, 2, none⟩ z).setCell ⟨g, 3, none⟩ u).setCell ⟨g, 4, none⟩ v) (some g) :=
  ⟨((((k.set1 0 x).set1 1 y).set1 2 z).set1 3 u).set1 4 v, grown_at (grown_at (grown_at (grown_at (grown_at (World.grownBy.refl w (some g)) 0 x) 1 y) 2 z) 3 u) 4 v⟩
theorem seg_store {w : World} {p : Nat} {a b c g f : Int} (h : BlockIs w p 73 (segC 0 0 0 0 0)) : (Instr.storeAt 73 (.pointer (some ⟨p, 0, none⟩)) (.agg (segC a b c g f))).run Tryz.prog w = .ok () (((((w.setCell ⟨p, 0, none⟩ (.int .i64 a)).setCell ⟨p, 1, none⟩ (.int .i64 b)).setCell ⟨p, 2, none⟩ (.int .i64 c)).setCell ⟨p, 3, none⟩ (.int .i64 g)).setCell ⟨p, 4, none⟩ (.int .i64 f)) := by
  have h0 := h.cell 0
  have h1 := h.cell 1
  have h2 := h.cell 2
  have h3 := h.cell 3
  have h4 := h.cell 4
  have f0 := h.free 0
  have f1 := h.free 1
  have f2 := h.free 2
  have f3 := h.free 3
  have f4 := h.free 4
  unfold segC
  go_simp
section
variable {W w w' : World} {a b c g f : Int} {D : Nat → Bool} {V : Nat → Value}
theorem SgI.world (k : SgI W a b c g f D V w) (hb : Below w.heap.size w w') : SgI W a b c g f D V w' :=
  { k with bl := k.bl.trans (hb.mono k.bl.size), sz := Nat.le_trans k.sz hb.size, sh := k.sh.below hb k.sh.lt, r0 := fun h => (k.r0 h).below hb (k.r0 h).lt, r1 := fun h => (k.r1 h).below hb (k.r1 h).lt }
end
set_option maxRecDepth 100000 in
set_option maxHeartbeats 4000000 in
/-- The segment of a shape and a number. -/
theorem segmentOf_any (W : World) (a b c g : Int) :
    Calls Tryz.prog 40 #[.agg #[.int .i64 a, .int .i64 b, .int .i64 c], .int .i64 g] W fun r w' => r = .returned (.agg (segC a b c g (firstI a b c g))) ∧ Below W.heap.size W w' := by
  have hb := boxes_below [(23, #[.int .i64 a, .int .i64 b, .int .i64 c]), (73, segC 0 0 0 0 0)] W
  have hs := boxes_size [(23, #[.int .i64 a, .int .i64 b, .int .i64 c]), (73, segC 0 0 0 0 0)] W
  have h0 := boxes_at [(23, #[.int .i64 a, .int .i64 b, .int .i64 c]), (73, segC 0 0 0 0 0)] W 0 _ _ rfl
  have h1 := boxes_at [(23, #[.int .i64 a, .int .i64 b, .int .i64 c]), (73, segC 0 0 0 0 0)] W 1 _ _ rfl
  obtain ⟨w2, hw2⟩ : ∃ w2, boxes W [(23, #[.int .i64 a, .int .i64 b, .int .i64 c]), (73, segC 0 0 0 0 0)] = w2 := ⟨_, rfl⟩
  rw [hw2] at hb hs h0 h1
  simp only [boxes] at hw2
  simp only [List.length_cons, List.length_nil] at hs
  have HB := Lib.hid (And.intro hb (And.intro hs (And.intro h0 h1)))
  have Hw2 := Lib.hid hw2
  have HF := Lib.hid (fun w => first_any a b c g w)
  obtain ⟨f, hf⟩ : ∃ f, firstI a b c g = f := ⟨_, rfl⟩
  rw [hf] at HF ⊢
  clear hb hs h0 h1 hw2 hf
  go_enter Tryz.func40, Tryz.ntmps40
  go_wp2_with fail
  rw [Hw2.out]
  refine Ssa.wp_region_ops (SgI W a b c g f) (by kernel_rfl) (by kernel_rfl) (by kernel_rfl) (by kernel_rfl) (fun V => ⟨HB.out.1.drew, by have := HB.out.2.1; show W.heap.size + 2 ≤ w2.heap.size; omega, HB.out.2.2.1, fun _ => HB.out.2.2.2, fun h => (by cases h), fun h => (by cases h), fun h => (by cases h), fun h => (by cases h), fun h => (by cases h), fun h => (by cases h), fun h => (by cases h)⟩) ?_ ?_
  · intro hd
    refine Ssa.OpsInv.cons (Ssa.opInv rfl fun D V w hi hall K => ?_) ?_
    · exact Ssa.ov_val (Ssa.exec_load rfl (Ssa.evT rfl rfl) (shape_load K.sh)) { K with v0 := fun _ => rfl }
    refine Ssa.OpsInv.cons (Ssa.opInv rfl fun D V w hi hall K => ?_) ?_
    · exact Ssa.ov_val (Ssa.exec_move (.inl rfl) (Ssa.evT rfl rfl)) { K with v1 := fun _ => rfl }
    refine Ssa.OpsInv.cons (Ssa.opInv rfl fun D V w hi hall K => ?_) ?_
    · exact Ssa.ov_val (Ssa.exec_load rfl (Ssa.evT rfl rfl) (shape_load K.sh)) { K with v2 := fun _ => rfl }
    refine Ssa.OpsInv.cons (Ssa.opInv rfl fun D V w hi hall K => ?_) ?_
    · exact Ssa.ov_val (Ssa.exec_move (.inl rfl) (Ssa.evT rfl rfl)) { K with v3 := fun _ => rfl }
    refine Ssa.OpsInv.cons (Ssa.opInv rfl fun D V w hi hall K => ?_) ?_
    · have d2 : D 2 = true := Ssa.dep hall 0 rfl rfl
      have d3 : D 3 = true := Ssa.dep hall 1 rfl rfl
      refine Ssa.ov_call (Ssa.exec_call rfl rfl (Ssa.evs_cons ((Ssa.evM hd 2 rfl rfl).trans (K.v2 d2)) (Ssa.evs_cons ((Ssa.evM hd 3 rfl rfl).trans (K.v3 d3)) Ssa.evs_nil)) Tryz.func32 (by kernel_rfl) rfl) ((HF.out w).mono ?_)
      rintro r w' ⟨rfl, hb⟩
      exact ⟨_, rfl, { K.world hb with v4 := fun _ => rfl }⟩
    refine Ssa.OpsInv.cons (Ssa.opInv rfl fun D V w hi hall K => ?_) ?_
    · have d0 : D 0 = true := Ssa.dep hall 0 rfl rfl
      have d1 : D 1 = true := Ssa.dep hall 1 rfl rfl
      have d4 : D 4 = true := Ssa.dep hall 2 rfl rfl
      exact Ssa.ov_val (Ssa.exec_build3 rfl ((Ssa.evM hd 0 rfl rfl).trans (K.v0 d0)) ((Ssa.evM hd 1 rfl rfl).trans (K.v1 d1)) ((Ssa.evM hd 4 rfl rfl).trans (K.v4 d4)) (seg_build a b c g f w)) { K with v5 := fun _ => rfl }
    refine Ssa.OpsInv.cons (Ssa.opInv rfl fun D V w hi hall K => ?_) ?_
    · have d5 : D 5 = true := Ssa.dep hall 0 rfl rfl
      have hB := K.r0 hi
      obtain ⟨hZ, hg⟩ := BlockIs.five hB (.int .i64 a) (.int .i64 b) (.int .i64 c) (.int .i64 g) (.int .i64 f)
      exact Ssa.ov_skip (Ssa.exec_store rfl (Ssa.evT rfl rfl) ((Ssa.evM hd 5 rfl rfl).trans (K.v5 d5)) (seg_store hB)) { K with bl := below_grown K.bl hg K.bl.size (by omega), sz := Nat.le_trans K.sz hg.size, sh := K.sh.kept hg (fun e => by have := Option.some.inj e; omega), r0 := fun h => (by cases h), r1 := fun _ => hZ }
    exact Ssa.OpsInv.nil
  intro D V w5 hall K
  have e2 := K.r1 (hall 6 (by decide))
  have HK := Lib.hid (And.intro e2 K.bl)
  have z0 := e2.cell 0
  have z1 := e2.cell 1
  have z2 := e2.cell 2
  have z3 := e2.cell 3
  have z4 := e2.cell 4
  clear K e2 hall
  simp only [Ssa.mixV, Ssa.putV, List.setIfInBounds_toArray, List.set_cons_zero, List.set_cons_succ, Nat.zero_add, Nat.reduceAdd]
  go_wp2_with fail
  refine bodyPost_ret (v := .agg (segC a b c g f)) (by simp [results, Tryz.results40, go_sem, segC, z0, z1, z2, z3, z4]) rfl ⟨rfl, HK.out.2⟩
/-- What a head, a foot needs of a segment and has not. -/
def SenQ.none (σ : SenQ) (f : Int) : Value := if f < 0 then errK σ.sg else .nilIface
def SenQ.many (σ : SenQ) (n b f : Int) : Value := if n ≠ b then errK σ.mn else σ.none f
set_option maxRecDepth 100000 in
set_option maxHeartbeats 2000000 in
theorem glackH_any (σ : SenQ) (w : World) (hM : GlM σ w) (a b c g f : Int) (X : Option Addr) (n k : Nat) :
    Calls Tryz.prog 73 #[.agg (segC a b c g f), .int .i64 4, .slice X n k] w fun r w' => r = .returned (σ.none f) ∧ Below w.heap.size w w' := by
  have hb := below_new w (.cells (segC a b c g f) 73)
  have HM := hM.below hb
  have HB := Lib.hid hb
  have e1 := HM.sg
  clear hM hb HM
  unfold SenQ.none
  by_cases hf : f < 0
  · rw [if_pos hf]
    go_enter Tryz.func73, Tryz.ntmps73
    go_wp2_with fail
    go_ret
    exact ⟨rfl, HB.out⟩
  · rw [if_neg hf]
    have hf' : 0 ≤ f := by omega
    go_enter Tryz.func73, Tryz.ntmps73
    go_wp2_with fail
    go_ret
    exact ⟨rfl, HB.out⟩
set_option maxRecDepth 100000 in
set_option maxHeartbeats 2000000 in
theorem glackF_any (σ : SenQ) (w : World) (hM : GlM σ w) (a b c g f : Int) (X : Option Addr) (n k : Nat) :
    Calls Tryz.prog 73 #[.agg (segC a b c g f), .int .i64 6, .slice X n k] w fun r w' => r = .returned (σ.many n b f) ∧ Below w.heap.size w w' := by
  have hb := below_new w (.cells (segC a b c g f) 73)
  have HM := hM.below hb
  have HB := Lib.hid hb
  have e1 := HM.sg
  have e2 := HM.mn
  clear hM hb HM
  unfold SenQ.many SenQ.none
  by_cases hn : (n : Int) = b
  · rw [if_neg (fun h => h hn)]
    by_cases hf : f < 0
    · rw [if_pos hf]
      go_enter Tryz.func73, Tryz.ntmps73
      go_wp2_with fail
      go_ret
      exact ⟨rfl, HB.out⟩
    · rw [if_neg hf]
      have hf' : 0 ≤ f := by omega
      go_enter Tryz.func73, Tryz.ntmps73
      go_wp2_with fail
      go_ret
      exact ⟨rfl, HB.out⟩
  · rw [if_pos hn]
    go_enter Tryz.func73, Tryz.ntmps73
    go_wp2_with fail
    go_ret
    exact ⟨rfl, HB.out⟩
end Go.Proofs.YtpdfmpegcejmkaaGreatDoor
namespace Go.Proofs.YtpdfmpegcejmkaaGreatDoor
open Go.RowKit
/-- The boxes of a segment's call that is handed an ident and makes a unit. -/
structure HdG (W w : World) (a b c g f : Int) (i : IdentI) : Prop where
  s : BlockIs w W.heap.size 73 (segC a b c g f)
  i : BlockIs w (W.heap.size + 1) 26 #[.int .i64 i.idx, .int .i64 i.term, .int .i64 i.kind]
  u : BlockIs w (W.heap.size + 1 + 1) 34 #[.int .i64 0, .int .i64 0, .slice none 0 0]
  bl : Below W.heap.size W w
  sz : W.heap.size + 3 ≤ w.heap.size
section
variable {W w w' : World} {a b c g f : Int} {i : IdentI}
theorem HdG.on (h : HdG W w a b c g f i) (hb : Below (W.heap.size + 3) w w') : HdG W w' a b c g f i := ⟨h.s.below hb (by omega), h.i.below hb (by omega), h.u.below hb (by omega), h.bl.trans (hb.mono (by omega)), Nat.le_trans h.sz hb.size⟩
theorem HdG.grown {q : Nat} (h : HdG W w a b c g f i) (hg : w.grownBy w' (some q)) (hq : W.heap.size + 3 ≤ q) : HdG W w' a b c g f i := ⟨h.s.kept hg (fun x => by have := Option.some.inj x; omega), h.i.kept hg (fun x => by have := Option.some.inj x; omega), h.u.kept hg (fun x => by have := Option.some.inj x; omega), below_grown h.bl hg h.bl.size (by omega), Nat.le_trans h.sz hg.size⟩
theorem HdG.made (W : World) (a b c g f : Int) (i : IdentI) : HdG W (boxes W [(73, segC a b c g f), (26, #[.int .i64 i.idx, .int .i64 i.term, .int .i64 i.kind]), (34, #[.int .i64 0, .int .i64 0, .slice none 0 0])]) a b c g f i := by
  have hb := boxes_below [(73, segC a b c g f), (26, #[.int .i64 i.idx, .int .i64 i.term, .int .i64 i.kind]), (34, #[.int .i64 0, .int .i64 0, .slice none 0 0])] W
  have hs := boxes_size [(73, segC a b c g f), (26, #[.int .i64 i.idx, .int .i64 i.term, .int .i64 i.kind]), (34, #[.int .i64 0, .int .i64 0, .slice none 0 0])] W
  simp only [List.length_cons, List.length_nil] at hs
  exact ⟨boxes_at _ W 0 _ _ rfl, boxes_at _ W 1 _ _ rfl, boxes_at _ W 2 _ _ rfl, hb, by omega⟩
theorem HdG.cells (h : HdG W w a b c g f i) : w.cell? ⟨W.heap.size, 0, none⟩ = some (.int .i64 a) ∧ w.cell? ⟨W.heap.size, 1, none⟩ = some (.int .i64 b) ∧ w.cell? ⟨W.heap.size, 2, none⟩ = some (.int .i64 c) ∧ w.cell? ⟨W.heap.size, 3, none⟩ = some (.int .i64 g) ∧ w.cell? ⟨W.heap.size, 4, none⟩ = some (.int .i64 f) :=
  ⟨h.s.cell 0, h.s.cell 1, h.s.cell 2, h.s.cell 3, h.s.cell 4⟩
end
set_option maxRecDepth 100000 in
set_option maxHeartbeats 4000000 in
theorem ghead_none (σ : SenQ) (W : World) (hG : GlQ σ W) (hM : GlM σ W) (a b c g f : Int) (i : IdentI) (hf : f < 0) :
    Calls Tryz.prog 41 #[.agg (segC a b c g f), i.val] W fun r w' => Faults σ 2 r ∧ Below W.heap.size W w' := by
  have M0 := Lib.hid (HdG.made W a b c g f i)
  have HE := Lib.hid (GlQ.err_sg hG)
  have HMu := Lib.hid (fun n w => gmust_err σ n _ _ (GlQ.err_sg hG) w)
  have HL := Lib.hid (fun w (hb : Below W.heap.size W w) => glackH_any σ w (hM.below hb) a b c g f none 0 0)
  rw [show σ.none f = errK σ.sg from if_pos hf] at HL
  obtain ⟨w0, hw0⟩ : ∃ w0, boxes W [(73, segC a b c g f), (26, #[.int .i64 i.idx, .int .i64 i.term, .int .i64 i.kind]), (34, #[.int .i64 0, .int .i64 0, .slice none 0 0])] = w0 := ⟨_, rfl⟩
  rw [hw0] at M0
  simp only [boxes] at hw0
  have Hw0 := Lib.hid hw0
  clear hG hM hf hw0
  unfold IdentI.val
  go_enter Tryz.func41, Tryz.ntmps41
  go_wp2_with fail
  rw [Hw0.out]
  have HL0 := Lib.hid (HL.out w0.drew (M0.out.bl.trans ((Below.refl _ _).drew)))
  obtain ⟨c0, c1, c2, c3, c4⟩ := M0.out.cells
  have HS := Lib.hid (fun w1 (b1 : Below w0.drew.heap.size w0.drew w1) => (M0.out.on ((Below.refl _ _).drew.trans (b1.mono M0.out.sz))).cells)
  have HBl := Lib.hid (fun w1 (b1 : Below w0.drew.heap.size w0.drew w1) => (M0.out.on ((Below.refl _ _).drew.trans (b1.mono M0.out.sz))).bl)
  clear HL
  go_region_with (first
    | (go_at_call 73; refine HL0.out.mono ?_; rintro r w1 ⟨rfl, b1⟩; have hs1 := HS.out _ b1; obtain ⟨d0, d1, d2, d3, d4⟩ := hs1; have hb1 := HBl.out _ b1)
    | (go_at_call 72; refine (HMu.out _ _).mono ?_; rintro r w2 ⟨rfl, rfl⟩; refine have _hx : wpAny Tryz.prog .any #[] (fun _ _ _ => True) 0 #[] { tmps := #[], defers := [] } W := ?_; ⟨rfl, ⟨_, _, rfl, HE.out⟩, hb1⟩))
  all_goals trivial
set_option maxRecDepth 100000 in
set_option maxHeartbeats 8000000 in
theorem ghead_some (σ : SenQ) (W : World) (hG : GlQ σ W) (hM : GlM σ W) (a b c g f : Int) (i : IdentI) (hf : 0 ≤ f) (hf2 : f ≤ 1099511627776 * 64) :
    Calls Tryz.prog 41 #[.agg (segC a b c g f), i.val] W fun r w' => ((¬ aheadI i f ∧ Faults σ 12 r) ∨ (aheadI i f ∧ ∃ v, r = .returned (.agg #[.int .i64 4, .int .i64 g, v]) ∧ w'.ownsRow (W.heap.size + 3) 5 1 v 13 (u8s (headBody i)))) ∧ Below W.heap.size W w' := by
  have M0 := Lib.hid (HdG.made W a b c g f i)
  have HE := Lib.hid (GlQ.err_od hG)
  have HO := Lib.hid (fun w (hb : Below W.heap.size W w) => (hG.below hb).od)
  have HMu := Lib.hid (fun n w => gmust_err σ n _ _ (GlQ.err_od hG) w)
  have HL := Lib.hid (fun w (hb : Below W.heap.size W w) => glackH_any σ w (hM.below hb) a b c g f none 0 0)
  rw [show σ.none f = .nilIface from if_neg (by omega)] at HL
  have HA := Lib.hid (fun w => gahead_any w i f hf hf2)
  obtain ⟨w0, hw0⟩ : ∃ w0, boxes W [(73, segC a b c g f), (26, #[.int .i64 i.idx, .int .i64 i.term, .int .i64 i.kind]), (34, #[.int .i64 0, .int .i64 0, .slice none 0 0])] = w0 := ⟨_, rfl⟩
  rw [hw0] at M0
  simp only [boxes] at hw0
  have Hw0 := Lib.hid hw0
  clear hG hM hf hf2 hw0
  unfold IdentI.val at *
  go_enter Tryz.func41, Tryz.ntmps41
  go_wp2_with fail
  rw [Hw0.out]
  have HL0 := Lib.hid (HL.out w0.drew (M0.out.bl.trans ((Below.refl _ _).drew)))
  obtain ⟨c0, c1, c2, c3, c4⟩ := M0.out.cells
  have HS := Lib.hid (fun w1 (b1 : Below w0.drew.heap.size w0.drew w1) => (M0.out.on ((Below.refl _ _).drew.trans (b1.mono M0.out.sz))))
  clear HL
  go_region_held3 (fun w' => w'.cell? ⟨W.heap.size, 0, none⟩ = some (.int .i64 a) ∧ w'.cell? ⟨W.heap.size, 1, none⟩ = some (.int .i64 b) ∧ w'.cell? ⟨W.heap.size, 2, none⟩ = some (.int .i64 c) ∧ w'.cell? ⟨W.heap.size, 3, none⟩ = some (.int .i64 g) ∧ w'.cell? ⟨W.heap.size, 4, none⟩ = some (.int .i64 f)) (first | exact ⟨c0, c1, c2, c3, c4⟩ | exact hs1) (first
    | (go_at_call 73; refine HL0.out.mono ?_; rintro r w1 ⟨rfl, b1⟩; have hm1 := HS.out _ b1; have hs1 := hm1.cells)
    | (go_at_call 72; refine (gmust_nil _ _).mono ?_; rintro r w2 ⟨rfl, rfl⟩))
  rename_i hHeld
  clear hHeld c0 c1 c2 c3 c4 b1 hs1
  have M1 := Lib.hid hm1
  clear hm1 HS HL0
  obtain ⟨c0, c1, c2, c3, c4⟩ := M1.out.cells
  obtain ⟨i0, i1, i2, _⟩ := M1.out.i.three
  go_wp2_with fail
  refine (HA.out _).mono ?_
  rintro r w2 ⟨rfl, b2⟩
  have M2 := Lib.hid (M1.out.on (b2.mono M1.out.sz))
  clear b2 c0 c1 c2 c3 c4 i0 i1 i2 M1 HA
  obtain ⟨c0, c1, c2, c3, c4⟩ := M2.out.cells
  obtain ⟨i0, i1, i2, _⟩ := M2.out.i.three
  by_cases ha : aheadI i f
  · rw [decide_eq_true ha]
    have hk := known_bd ha.1
    have hx := ha.2
    have FI := Lib.hid (show i.fits ∧ 0 ≤ i.idx ∧ i.idx ≤ 1099511627776 from ⟨⟨hk.2.1, hk.2.2.1, by have := hk.2.2.2; omega⟩, hk.1⟩)
    have HA2 := Lib.hid ha
    have hb3 := below_new w2 (.cells #[.pointer none, .bool false] 116)
    have N3 := WrN.new w2 116
    have M3 := M2.out.on (hb3.mono M2.out.sz)
    have hb4 := below_new (w2.alloc (.cells #[.pointer none, .bool false] 116)) (.cells #[.int .i64 i.idx] 3)
    have Q4 := BlockIs.made (w2.alloc (.cells #[.pointer none, .bool false] 116)) 3 #[.int .i64 i.idx]
    have N4 := N3.below hb4
    have M4 := M3.on (hb4.mono M3.sz)
    have hs4 : (w2.alloc (.cells #[.pointer none, .bool false] 116)).heap.size = w2.heap.size + 1 := by simp
    rw [hs4] at Q4
    clear c0 c1 c2 c3 c4 i0 i1 i2
    obtain ⟨i0, i1, i2, _⟩ := M3.i.three
    have t6 : top 6 = 1099511627776 := rfl
    have HFd := Lib.hid (N4.put (by have := hb3.size; have := hb4.size; omega) Q4 (wd := 6) (by decide) FI.out.2.1 (by rw [t6]; exact FI.out.2.2))
    have M4h := Lib.hid M4
    have L2 := Lib.hid M2.out.sz
    clear hb3 hb4 N3 N4 M3 M4 Q4 t6 hk hx ha HMu HE HO
    go_wp2_with fail
    refine HFd.out.mono ?_
    rintro r w5 ⟨rfl, n5, g5⟩
    have hs5 : w2.heap.size + 2 ≤ w5.heap.size := by
      have := g5.size
      simp only [World.size_alloc] at this
      omega
    have M5 := Lib.hid (M4h.out.grown g5 L2.out)
    have hb6 := below_new w5 (.cells #[.int .i64 i.idx, .int .i64 i.term, .int .i64 i.kind] 26)
    have M6 := Lib.hid (M5.out.on (hb6.mono M5.out.sz))
    have HI6 := Lib.hid (gidents1 w2.heap.size w2.heap.size w5.heap.size _ _ (n5.below hb6) (by have := hb6.size; omega) i FI.out.1 (BlockIs.made w5 26 #[.int .i64 i.idx, .int .i64 i.term, .int .i64 i.kind]) (by omega))
    have HR := Lib.hid (show ([] ++ le (6 : Int).toNat i.idx) ++ (le 6 i.term ++ le 1 i.kind) = headBody i by unfold headBody; simp)
    have L5 := Lib.hid hs5
    clear HFd n5 g5 hs5 M4h hb6 i0 i1 i2 hs4
    obtain ⟨i0, i1, i2, _⟩ := M5.out.i.three
    go_wp2_with fail
    refine HI6.out.mono ?_
    rintro r w7 ⟨rfl, n7, g7⟩
    rw [HR.out] at n7
    have M7 := Lib.hid (M6.out.grown g7 L2.out)
    have HU := Lib.hid (gwunit_any _ _ w7 _ n7 (by rw [headBody_len]; decide) 4 g)
    rw [headBody_len] at HU
    clear HI6 n7 g7 M5 M6 i0 i1 i2
    obtain ⟨c0, c1, c2, c3, c4⟩ := M7.out.cells
    go_wp2_with fail
    refine HU.out.mono ?_
    rintro r w8 ⟨v, rfl, ho, b8⟩
    obtain ⟨X, cap, rfl, _, _⟩ := own_slice ho
    have M8 := Lib.hid (M7.out.on (b8.mono M7.out.sz))
    have Z := Lib.hid (M8.out.u.put3 (.int .i64 4) (.int .i64 g) (.slice X 13 cap))
    have HO8 := Lib.hid (own_lift (B' := W.heap.size + 3) ho (fun b x => by have := (ho.lt b x).1; have := M7.out.sz; omega))
    obtain ⟨u0, u1, u2, f0, f1, f2⟩ := M8.out.u.three
    clear ho b8 HU c0 c1 c2 c3 c4
    go_wp2_with fail
    clear u0 u1 u2 f0 f1 f2
    obtain ⟨z0, z1, z2, _⟩ := Z.out.1.three
    refine bodyPost_ret (v := .agg #[.int .i64 4, .int .i64 g, .slice X 13 cap]) (by simp [results, Tryz.results41, go_sem, z0, z1, z2]) rfl ⟨.inr ⟨HA2.out, _, rfl, ?_⟩, below_grown M8.out.bl Z.out.2 M8.out.bl.size (by omega)⟩
    exact HO8.out.kept Z.out.2 (.inr (fun x => by have := (HO8.out.lt _ x).1; omega))
  · rw [decide_eq_false ha]
    have od := HO.out _ M2.out.bl
    go_wp2_with fail
    refine (HMu.out _ _).mono ?_
    rintro r w3 ⟨rfl, rfl⟩
    exact ⟨rfl, .inl ⟨ha, ⟨_, _, rfl, HE.out⟩⟩, M2.out.bl⟩
end Go.Proofs.YtpdfmpegcejmkaaGreatDoor
