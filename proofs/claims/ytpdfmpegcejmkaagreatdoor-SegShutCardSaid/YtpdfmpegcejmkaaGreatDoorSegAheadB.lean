/- seg: whether a body was read to its end. -/
/- seg: by what bytes are a head's block. -/
/- seg: by what bytes are a head's block: what the body tells. -/
import Derived.Test.YtpdfmpegcejmkaaGreatDoorUnitLaid
import Derived.Test.YtpdfmpegcejmkaaGreatDoorUnitErr
import Derived.Test.YtpdfmpegcejmkaaGreatDoorKitBoxes
import Derived.Test.YtpdfmpegcejmkaaGreatDoorSegHeadC
namespace Go.Proofs.YtpdfmpegcejmkaaGreatDoor
open Go.RowKit
/-- All could be got, and nothing stands behind it. -/
def endedB (bs : List Int) (s : RSt) : Bool := decide (errNo s = 0) && decide (leftR bs s = 0)
set_option maxRecDepth 100000 in
set_option maxHeartbeats 2000000 in
theorem gended_any (σ : Sen) (w0 w : World) (g : Nat) (bs : List Int) (s : RSt) (Y : Option Addr) (cy : Nat) (h : RdAt σ w g bs s) (hG : Env σ w0 g w) :
    Calls Tryz.prog 84 #[.agg #[.pointer (some ⟨g, 0, none⟩), .slice Y bs.length cy]] w fun e w' => e = .returned (.bool (endedB bs s)) ∧ Below w.heap.size w w' := by
  have hb1 := below_new w (.cells #[.pointer (some ⟨g, 0, none⟩), .slice Y bs.length cy] 122)
  have X1 := BlockIs.made w 122 #[.pointer (some ⟨g, 0, none⟩), .slice Y bs.length cy]
  have HE := Lib.hid (rerr_any σ w0 _ g bs s (h.below hb1) (hG.below hb1))
  have HL := Lib.hid (fun w' (hb : Below (w.alloc (.cells #[.pointer (some ⟨g, 0, none⟩), .slice Y bs.length cy] 122)).heap.size (w.alloc (.cells #[.pointer (some ⟨g, 0, none⟩), .slice Y bs.length cy] 122)) w') => rleft_any σ w' g bs s ((h.below hb1).below hb))
  have HX := Lib.hid (And.intro hb1 X1)
  unfold endedB
  obtain ⟨L, hL⟩ : ∃ L, leftR bs s = L := ⟨_, rfl⟩
  obtain ⟨E, hE⟩ : ∃ E, errNo s = E := ⟨_, rfl⟩
  obtain ⟨Q, hQ⟩ : ∃ Q, errPos s = Q := ⟨_, rfl⟩
  rw [hL] at HL ⊢
  rw [hE] at HE ⊢
  rw [hQ] at HE
  clear h hG hb1 X1 hL hE hQ
  by_cases hE : E = 0
  · rw [decide_eq_true hE, Bool.true_and]
    subst hE
    go_enter Tryz.func84, Tryz.ntmps84
    go_wp2_with fail
    refine HE.out.mono ?_
    rintro e w1 ⟨rfl, b1⟩
    have X2 := Lib.hid (HX.out.2.below b1 HX.out.2.lt)
    have HB := Lib.hid (HX.out.1.trans (b1.mono HX.out.1.size))
    have HL1 := Lib.hid (HL.out _ b1)
    clear HE HL b1
    have x0 := X2.out.cell 0
    go_wp2_with fail
    refine HL1.out.mono ?_
    rintro e w2 ⟨rfl, n, rfl⟩
    have B2 := Lib.hid (drewN_below HB.out n)
    go_wp2_with fail
    go_ret
    exact ⟨rfl, B2.out⟩
  · rw [decide_eq_false hE, Bool.false_and]
    go_enter Tryz.func84, Tryz.ntmps84
    go_wp2_with fail
    refine HE.out.mono ?_
    rintro e w1 ⟨rfl, b1⟩
    have X2 := Lib.hid (HX.out.2.below b1 HX.out.2.lt)
    have HB := Lib.hid (HX.out.1.trans (b1.mono HX.out.1.size))
    have HL1 := Lib.hid (HL.out _ b1)
    clear HE HL b1
    have x0 := X2.out.cell 0
    go_wp2_with fail
    go_ret
    exact ⟨rfl, HB.out⟩
end Go.Proofs.YtpdfmpegcejmkaaGreatDoor
namespace Go.Proofs.YtpdfmpegcejmkaaGreatDoor
open Go.RowKit
/-- The boxes of a segment's call that makes an ident. -/
structure AhG (W w : World) (a b c g f : Int) : Prop where
  s : BlockIs w W.heap.size 73 (segC a b c g f)
  i : BlockIs w (W.heap.size + 1) 26 #[.int .i64 0, .int .i64 0, .int .i64 0]
  bl : Below W.heap.size W w
  sz : W.heap.size + 2 ≤ w.heap.size
section
variable {W w w' : World} {a b c g f : Int}
theorem AhG.on (h : AhG W w a b c g f) (hb : Below (W.heap.size + 2) w w') : AhG W w' a b c g f := ⟨h.s.below hb (by omega), h.i.below hb (by omega), h.bl.trans (hb.mono (by omega)), Nat.le_trans h.sz hb.size⟩
theorem AhG.grown {q : Nat} (h : AhG W w a b c g f) (hg : w.grownBy w' (some q)) (hq : W.heap.size + 2 ≤ q) : AhG W w' a b c g f := ⟨h.s.kept hg (fun x => by have := Option.some.inj x; omega), h.i.kept hg (fun x => by have := Option.some.inj x; omega), below_grown h.bl hg h.bl.size (by omega), Nat.le_trans h.sz hg.size⟩
theorem AhG.made (W : World) (a b c g f : Int) : AhG W (boxes W [(73, segC a b c g f), (26, #[.int .i64 0, .int .i64 0, .int .i64 0])]) a b c g f := by
  have hb := boxes_below [(73, segC a b c g f), (26, #[.int .i64 0, .int .i64 0, .int .i64 0])] W
  have hs := boxes_size [(73, segC a b c g f), (26, #[.int .i64 0, .int .i64 0, .int .i64 0])] W
  simp only [List.length_cons, List.length_nil] at hs
  exact ⟨boxes_at _ W 0 _ _ rfl, boxes_at _ W 1 _ _ rfl, hb, by omega⟩
theorem AhG.cells (h : AhG W w a b c g f) : w.cell? ⟨W.heap.size, 0, none⟩ = some (.int .i64 a) ∧ w.cell? ⟨W.heap.size, 1, none⟩ = some (.int .i64 b) ∧ w.cell? ⟨W.heap.size, 2, none⟩ = some (.int .i64 c) ∧ w.cell? ⟨W.heap.size, 3, none⟩ = some (.int .i64 g) ∧ w.cell? ⟨W.heap.size, 4, none⟩ = some (.int .i64 f) :=
  ⟨h.s.cell 0, h.s.cell 1, h.s.cell 2, h.s.cell 3, h.s.cell 4⟩
end
set_option maxRecDepth 100000 in
set_option maxHeartbeats 4000000 in
theorem gahead_none (σ : SenQ) (W : World) (hG : GlQ σ W) (hM : GlM σ W) (a b c g f : Int) (A : Option Addr) (m k : Nat) (hf : f < 0) :
    Calls Tryz.prog 46 #[.agg (segC a b c g f), .slice A m k] W fun r w' => Faults σ 2 r ∧ Below W.heap.size W w' := by
  have M0 := Lib.hid (AhG.made W a b c g f)
  have HE := Lib.hid (GlQ.err_sg hG)
  have HMu := Lib.hid (fun n w => gmust_err σ n _ _ (GlQ.err_sg hG) w)
  have HL := Lib.hid (fun w (hb : Below W.heap.size W w) => glackH_any σ w (hM.below hb) a b c g f none 0 0)
  rw [show σ.none f = errK σ.sg from if_pos hf] at HL
  obtain ⟨w0, hw0⟩ : ∃ w0, boxes W [(73, segC a b c g f), (26, #[.int .i64 0, .int .i64 0, .int .i64 0])] = w0 := ⟨_, rfl⟩
  rw [hw0] at M0
  simp only [boxes] at hw0
  have Hw0 := Lib.hid hw0
  clear hG hM hf hw0
  go_enter Tryz.func46, Tryz.ntmps46
  go_wp2_with fail
  rw [Hw0.out]
  have HL0 := Lib.hid (HL.out w0.drew (M0.out.bl.trans ((Below.refl _ _).drew)))
  obtain ⟨c0, c1, c2, c3, c4⟩ := M0.out.cells
  have HS := Lib.hid (fun w1 (b1 : Below w0.drew.heap.size w0.drew w1) => (M0.out.on ((Below.refl _ _).drew.trans (b1.mono M0.out.sz))).cells)
  have HBl := Lib.hid (fun w1 (b1 : Below w0.drew.heap.size w0.drew w1) => (M0.out.on ((Below.refl _ _).drew.trans (b1.mono M0.out.sz))).bl)
  clear HL
  go_region_with (first
    | (go_at_call 73; refine HL0.out.mono ?_; rintro r w1 ⟨rfl, b1⟩; have hs1 := HS.out _ b1; obtain ⟨d0, d1, d2, d3, d4⟩ := hs1; have hb1 := HBl.out _ b1)
    | (go_at_call 72; refine (HMu.out _ _).mono ?_; rintro r w2 ⟨rfl, rfl⟩; refine have _hx : wpAny Tryz.prog .any #[] (fun _ _ _ => True) 0 #[] { tmps := #[], defers := [] } W := ?_; ⟨rfl, ⟨_, _, rfl, HE.out⟩, hb1⟩))
  all_goals trivial
set_option maxRecDepth 100000 in
set_option maxHeartbeats 4000000 in
theorem gahead_as (σ : Sen) (τ : SenU) (ρ : SenQ) (W : World) (hC : GlAt σ W) (hU : GlU τ W) (hM : GlM ρ W) (a b c g f : Int) (A : Option Addr) (bs : List Int) (k : Nat) (hb : BytesAt W A bs) (hbc : bs.length ≤ k) (hm : k ≤ 9223372036854775807) (hf : 0 ≤ f) (he : (asB bs 4 g).2 ≠ 0) :
    Calls Tryz.prog 46 #[.agg (segC a b c g f), .slice A bs.length k] W fun r w' => Faults ρ (asB bs 4 g).2 r ∧ Below W.heap.size W w' := by
  have M0 := Lib.hid (AhG.made W a b c g f)
  have HO := Lib.hid (fun w (h : Below W.heap.size W w) => gopened_bad σ τ ρ w (hC.below h) (hU.below h) A bs k (hb.below h) hbc hm 4 g he)
  have HL := Lib.hid (fun w (hb : Below W.heap.size W w) => glackH_any ρ w (hM.below hb) a b c g f none 0 0)
  rw [show ρ.none f = .nilIface from if_neg (by omega)] at HL
  obtain ⟨w0, hw0⟩ : ∃ w0, boxes W [(73, segC a b c g f), (26, #[.int .i64 0, .int .i64 0, .int .i64 0])] = w0 := ⟨_, rfl⟩
  rw [hw0] at M0
  simp only [boxes] at hw0
  have Hw0 := Lib.hid hw0
  clear hC hU hM hb hbc hm hf he hw0
  go_enter Tryz.func46, Tryz.ntmps46
  go_wp2_with fail
  rw [Hw0.out]
  have HL0 := Lib.hid (HL.out w0.drew (M0.out.bl.trans ((Below.refl _ _).drew)))
  obtain ⟨c0, c1, c2, c3, c4⟩ := M0.out.cells
  have HS := Lib.hid (fun w1 (b1 : Below w0.drew.heap.size w0.drew w1) => (M0.out.on ((Below.refl _ _).drew.trans (b1.mono M0.out.sz))))
  clear HL
  go_region_held3 (fun w' => w'.cell? ⟨W.heap.size, 0, none⟩ = some (.int .i64 a) ∧ w'.cell? ⟨W.heap.size, 1, none⟩ = some (.int .i64 b) ∧ w'.cell? ⟨W.heap.size, 2, none⟩ = some (.int .i64 c) ∧ w'.cell? ⟨W.heap.size, 3, none⟩ = some (.int .i64 g) ∧ w'.cell? ⟨W.heap.size, 4, none⟩ = some (.int .i64 f)) (first | exact ⟨c0, c1, c2, c3, c4⟩ | exact hs1) (first
    | (go_at_call 73; refine HL0.out.mono ?_; rintro r w1 ⟨rfl, b1⟩; have hm1 := HS.out _ b1; have hs1 := hm1.cells)
    | (go_at_call 72; refine (gmust_nil _ _).mono ?_; rintro r w2 ⟨rfl, rfl⟩))
  rename_i hHeld
  clear hHeld c0 c1 c2 c3 c4 b1 hs1
  have M1 := Lib.hid hm1
  clear hm1 HS HL0
  obtain ⟨c0, c1, c2, c3, c4⟩ := M1.out.cells
  go_wp2_with fail
  refine (HO.out _ M1.out.bl).mono ?_
  rintro e w2 ⟨⟨n, v, rfl, hv⟩, b2⟩
  exact ⟨rfl, ⟨n, v, rfl, hv⟩, M1.out.bl.trans (b2.mono M1.out.bl.size)⟩
end Go.Proofs.YtpdfmpegcejmkaaGreatDoor
namespace Go.Proofs.YtpdfmpegcejmkaaGreatDoor
open Go.RowKit
/-- Amid ahead, behind opened: the boxes, the reader's box, the reader. -/
structure RaG (σ : Sen) (W : World) (a b c g f : Int) (r p : Nat) (Y : Option Addr) (cy : Nat) (xs : List Int) (s : RSt) (w : World) : Prop where
  h : AhG W w a b c g f
  b : BlockIs w p 122 #[.pointer (some ⟨r, 0, none⟩), .slice Y xs.length cy]
  rd : RdAt σ w r xs s
  n1 : W.heap.size + 2 ≤ r
  n2 : r < p
section
variable {σ : Sen} {W w w' : World} {a b c g f : Int} {r p q : Nat} {Y : Option Addr} {cy : Nat} {xs : List Int} {s s2 : RSt}
theorem RaG.got (k : RaG σ W a b c g f r p Y cy xs s w) (h : Got σ w r xs s2 w') : RaG σ W a b c g f r p Y cy xs s2 w' :=
  ⟨k.h.grown h.fr k.n1, k.b.kept h.fr (fun e => by have := Option.some.inj e; have := k.n2; omega), h.rd, k.n1, k.n2⟩
theorem RaG.below (k : RaG σ W a b c g f r p Y cy xs s w) (h : Below w.heap.size w w') : RaG σ W a b c g f r p Y cy xs s w' :=
  ⟨k.h.on (h.mono k.h.sz), k.b.below h k.b.lt, k.rd.below h, k.n1, k.n2⟩
theorem RaG.grown (k : RaG σ W a b c g f r p Y cy xs s w) (h : w.grownBy w' (some q)) (hq : p < q) : RaG σ W a b c g f r p Y cy xs s w' :=
  ⟨k.h.grown h (by have := k.n1; have := k.n2; omega), k.b.kept h (fun e => by have := Option.some.inj e; omega), k.rd.newer h (fun b e => by have := Option.some.inj e; have := k.n2; omega), k.n1, k.n2⟩
theorem RaG.env (k : RaG σ W a b c g f r p Y cy xs s w) (hC : GlAt σ W) : Env σ W r w := ⟨hC, k.h.bl, by have := k.n1; omega⟩
theorem RaG.cells (k : RaG σ W a b c g f r p Y cy xs s w) : w.cell? ⟨p, 0, none⟩ = some (.pointer (some ⟨r, 0, none⟩)) ∧ w.cell? ⟨p, 1, none⟩ = some (.slice Y xs.length cy) := ⟨k.b.cell 0, k.b.cell 1⟩
end
theorem reader_load {w : World} {p r n cy : Nat} {Y : Option Addr} (h : BlockIs w p 122 #[.pointer (some ⟨r, 0, none⟩), .slice Y n cy]) : (Instr.loadAt 122 (.pointer (some ⟨p, 0, none⟩))).run Tryz.prog w = .ok (.agg #[.pointer (some ⟨r, 0, none⟩), .slice Y n cy]) w := by
  have d0 := h.cell 0
  have d1 := h.cell 1
  go_simp
theorem ptr_load {w : World} {p r n cy : Nat} {Y : Option Addr} (h : BlockIs w p 122 #[.pointer (some ⟨r, 0, none⟩), .slice Y n cy]) : (Instr.loadAt 120 (.pointer (some ⟨p, 0, none⟩))).run Tryz.prog w = .ok (.pointer (some ⟨r, 0, none⟩)) w := by
  have d0 := h.cell 0
  go_simp
theorem reader_field (g : Nat) (w : World) : (Instr.fieldAt 122 (.pointer (some ⟨g, 0, none⟩)) 0).run Tryz.prog w = .ok (.pointer (some ⟨g, 0, none⟩)) w := by go_simp
/-- The region that gets the ident, as far as it has come up. -/
structure AiI (σ : Sen) (W w0 : World) (a b c g f : Int) (r p : Nat) (Y : Option Addr) (cy : Nat) (xs : List Int) (s1 s3 : RSt) (i : IdentI) (D : Nat → Bool) (V : Nat → Value) (w : World) : Prop where
  r0 : D 3 = false → RaG σ W a b c g f r p Y cy xs (.ok 0) w
  r1 : D 3 = true → D 4 = false → RaG σ W a b c g f r p Y cy xs s1 w
  r3 : D 4 = true → RaG σ W a b c g f r p Y cy xs s3 w
  s43 : D 4 = true → D 3 = true
  v0 : D 0 = true → V 0 = .agg #[.pointer (some ⟨r, 0, none⟩), .slice Y xs.length cy]
  v1 : D 1 = true → V 1 = .pointer (some ⟨p, 0, none⟩)
  v2 : D 2 = true → V 2 = .pointer (some ⟨r, 0, none⟩)
  v3 : D 3 = true → V 3 = .int .i64 i.idx
  v4 : D 4 = true → V 4 = i.val
  v5 : D 5 = true → ∃ q, V 5 = .pointer (some ⟨q, 0, none⟩) ∧ p < q ∧ (D 6 = false → BlockIs w q 26 #[.int .i64 0, .int .i64 0, .int .i64 0]) ∧ (D 6 = true → BlockIs w q 26 #[.int .i64 i.idx, .int .i64 i.term, .int .i64 i.kind])
  s65 : D 6 = true → D 5 = true
  sz : p < w.heap.size
section
variable {σ : Sen} {W w0 w w' : World} {a b c g f : Int} {r p : Nat} {Y : Option Addr} {cy : Nat} {xs : List Int} {s1 s3 : RSt} {i : IdentI} {D : Nat → Bool} {V : Nat → Value}
theorem AiI.any (k : AiI σ W w0 a b c g f r p Y cy xs s1 s3 i D V w) : ∃ s, RaG σ W a b c g f r p Y cy xs s w := by
  cases h4 : D 4 with
  | true => exact ⟨_, k.r3 h4⟩
  | false =>
    cases h3 : D 3 with
    | true => exact ⟨_, k.r1 h3 h4⟩
    | false => exact ⟨_, k.r0 h3⟩
theorem AiI.world (k : AiI σ W w0 a b c g f r p Y cy xs s1 s3 i D V w) (hb : Below w.heap.size w w') : AiI σ W w0 a b c g f r p Y cy xs s1 s3 i D V w' :=
  { k with r0 := fun h => (k.r0 h).below hb, r1 := fun h h' => (k.r1 h h').below hb, r3 := fun h => (k.r3 h).below hb, sz := Nat.lt_of_lt_of_le k.sz hb.size, v5 := fun h => (by
      obtain ⟨q, h1, h2, h3, h4⟩ := k.v5 h
      exact ⟨q, h1, h2, fun x => (h3 x).below hb (h3 x).lt, fun x => (h4 x).below hb (h4 x).lt⟩) }
theorem AiI.box (k : AiI σ W w0 a b c g f r p Y cy xs s1 s3 i D V w) (hr : r < p) (hg : w.grownBy w' (some r)) : D 5 = true → ∃ q, V 5 = .pointer (some ⟨q, 0, none⟩) ∧ p < q ∧ (D 6 = false → BlockIs w' q 26 #[.int .i64 0, .int .i64 0, .int .i64 0]) ∧ (D 6 = true → BlockIs w' q 26 #[.int .i64 i.idx, .int .i64 i.term, .int .i64 i.kind]) := fun h => by
  obtain ⟨q, h1, h2, h3, h4⟩ := k.v5 h
  exact ⟨q, h1, h2, fun x => (h3 x).kept hg (fun e => by have := Option.some.inj e; omega), fun x => (h4 x).kept hg (fun e => by have := Option.some.inj e; omega)⟩
end
theorem ident_new8 (w : World) : (Instr.alloc 26 true (.tuple #[])).run Tryz.prog w = .ok (.pointer (some ⟨w.heap.size, 0, none⟩)) (w.alloc (.cells #[.int .i64 0, .int .i64 0, .int .i64 0] 26)) := by go_simp
theorem ident_store8 {w : World} {g : Nat} {i : IdentI} (h : BlockIs w g 26 #[.int .i64 0, .int .i64 0, .int .i64 0]) : (Instr.storeAt 26 (.pointer (some ⟨g, 0, none⟩)) i.val).run Tryz.prog w = .ok () (((w.setCell ⟨g, 0, none⟩ (.int .i64 i.idx)).setCell ⟨g, 1, none⟩ (.int .i64 i.term)).setCell ⟨g, 2, none⟩ (.int .i64 i.kind)) := by
  obtain ⟨h0, h1, h2, f0, f1, f2⟩ := h.three
  unfold IdentI.val
  go_simp
/-- The ident that a head's body tells, and how far it was read. -/
def readH (xs : List Int) : IdentI := ⟨(fieldR xs 6 (.ok 0)).1, (fieldR xs 6 (fieldR xs 6 (.ok 0)).2).1, (fieldR xs 1 (fieldR xs 6 (fieldR xs 6 (.ok 0)).2).2).1⟩
def readS (xs : List Int) : RSt := (fieldR xs 1 (fieldR xs 6 (fieldR xs 6 (.ok 0)).2).2).2
set_option maxRecDepth 100000 in
set_option maxHeartbeats 8000000 in
theorem gahead_body (σ : Sen) (τ : SenU) (ρ : SenQ) (W : World) (hC : GlAt σ W) (hU : GlU τ W) (hQ : GlQ ρ W) (hM : GlM ρ W) (a b c g f : Int) (A : Option Addr) (bs : List Int) (k : Nat) (hb : BytesAt W A bs) (hbc : bs.length ≤ k) (hm : k ≤ 9223372036854775807) (hf : 0 ≤ f) (hf2 : f ≤ 1099511627776 * 64) (he : (asB bs 4 g).2 = 0) :
    Calls Tryz.prog 46 #[.agg (segC a b c g f), .slice A bs.length k] W fun r w' => (((endedB (asB bs 4 g).1 (readS (asB bs 4 g).1) = true ∧ aheadI (readH (asB bs 4 g).1) f) ∧ r = .returned (readH (asB bs 4 g).1).val) ∨ (¬(endedB (asB bs 4 g).1 (readS (asB bs 4 g).1) = true ∧ aheadI (readH (asB bs 4 g).1) f) ∧ Faults ρ 4 r)) ∧ Below W.heap.size W w' := by
  have M0 := Lib.hid (AhG.made W a b c g f)
  have HO := Lib.hid (fun w (h : Below W.heap.size W w) => gopened_good σ τ w (hC.below h) (hU.below h) A bs k (hb.below h) hbc hm 4 g he)
  obtain ⟨hl, hbd⟩ := asB_len hb.1 (k := 4) (n := g)
  have HL := Lib.hid (fun w (hb : Below W.heap.size W w) => glackH_any ρ w (hM.below hb) a b c g f none 0 0)
  rw [show ρ.none f = .nilIface from if_neg (by omega)] at HL
  have HMu := Lib.hid (fun n w => gmust_err ρ n _ _ (GlQ.err_bd hQ) w)
  have HE := Lib.hid (GlQ.err_bd hQ)
  have HBd := Lib.hid (fun w (hb : Below W.heap.size W w) => (hQ.below hb).bd)
  have HC := Lib.hid hC
  obtain ⟨xs, hxs⟩ : ∃ r, (asB bs 4 g).1 = r := ⟨_, rfl⟩
  rw [hxs] at HO hl hbd ⊢
  have HA := Lib.hid (fun w => gahead_any w (readH xs) f hf hf2)
  have HXl := Lib.hid hl
  clear hxs hbd hl hQ hC hf hf2
  obtain ⟨w0, hw0⟩ : ∃ w0, boxes W [(73, segC a b c g f), (26, #[.int .i64 0, .int .i64 0, .int .i64 0])] = w0 := ⟨_, rfl⟩
  rw [hw0] at M0
  simp only [boxes] at hw0
  have Hw0 := Lib.hid hw0
  clear hU hM hb hbc hm he hw0
  go_enter Tryz.func46, Tryz.ntmps46
  go_wp2_with fail
  rw [Hw0.out]
  have HL0 := Lib.hid (HL.out w0.drew (M0.out.bl.trans ((Below.refl _ _).drew)))
  obtain ⟨c0, c1, c2, c3, c4⟩ := M0.out.cells
  have HS := Lib.hid (fun w1 (b1 : Below w0.drew.heap.size w0.drew w1) => (M0.out.on ((Below.refl _ _).drew.trans (b1.mono M0.out.sz))))
  clear HL
  go_region_held3 (fun w' => w'.cell? ⟨W.heap.size, 0, none⟩ = some (.int .i64 a) ∧ w'.cell? ⟨W.heap.size, 1, none⟩ = some (.int .i64 b) ∧ w'.cell? ⟨W.heap.size, 2, none⟩ = some (.int .i64 c) ∧ w'.cell? ⟨W.heap.size, 3, none⟩ = some (.int .i64 g) ∧ w'.cell? ⟨W.heap.size, 4, none⟩ = some (.int .i64 f)) (first | exact ⟨c0, c1, c2, c3, c4⟩ | exact hs1) (first
    | (go_at_call 73; refine HL0.out.mono ?_; rintro r w1 ⟨rfl, b1⟩; have hm1 := HS.out _ b1; have hs1 := hm1.cells)
    | (go_at_call 72; refine (gmust_nil _ _).mono ?_; rintro r w2 ⟨rfl, rfl⟩))
  rename_i hHeld
  clear hHeld c0 c1 c2 c3 c4 b1 hs1
  have M1 := Lib.hid hm1
  clear hm1 HS HL0
  obtain ⟨c0, c1, c2, c3, c4⟩ := M1.out.cells
  go_wp2_with fail
  refine (HO.out _ M1.out.bl).mono ?_
  rintro e w2 ⟨r, Y, cy, rfl, n1, rd, ho, n3, b2⟩
  have hb0 := below_new w2 (.cells #[.pointer none, .slice none 0 0] 122)
  have hbx := below_new w2 (.cells #[.pointer (some ⟨r, 0, none⟩), .slice Y xs.length cy] 122)
  have L1 := M1.out.sz
  have M2 := M1.out.on (b2.mono L1)
  have NL := rd.lt
  have R0 := Lib.hid (show RaG σ W a b c g f r w2.heap.size Y cy xs (.ok 0) (w2.alloc (.cells #[.pointer (some ⟨r, 0, none⟩), .slice Y xs.length cy] 122)) from ⟨M2.on (hbx.mono M2.sz), BlockIs.made w2 122 #[.pointer (some ⟨r, 0, none⟩), .slice Y xs.length cy], rd.below hbx, by omega, NL⟩)
  have B0 := BlockIs.made w2 122 #[.pointer none, .slice none 0 0]
  have z0 := B0.cell 0
  have z1 := B0.cell 1
  have y0 := B0.free 0
  have y1 := B0.free 1
  have sz0 : w2.heap.size < (w2.alloc (.cells #[.pointer (some ⟨r, 0, none⟩), .slice Y xs.length cy] 122)).heap.size := by simp
  have HSz := Lib.hid sz0
  clear c0 c1 c2 c3 c4 n1 rd ho n3 b2 hbx hb0 L1 M2 B0 M1 HO M0 NL sz0
  have HFd := Lib.hid (fun w (k : RaG σ W a b c g f r w2.heap.size Y cy xs (.ok 0) w) => rfield_any σ W w r xs (.ok 0) 6 k.rd (k.env HC.out).f (by have := HXl.out; omega))
  have HId := Lib.hid (fun w n (k : RaG σ W a b c g f r w2.heap.size Y cy xs (fieldR xs 6 (.ok 0)).2 w) => gident_any σ W w r xs _ Y cy n k.rd (k.env HC.out).f HXl.out k.rd.lt)
  have HEd := Lib.hid (fun w (k : RaG σ W a b c g f r w2.heap.size Y cy xs (readS xs) w) => gended_any σ W w r xs (readS xs) Y cy k.rd (k.env HC.out))
  go_wp2_with fail
  obtain ⟨w3, hw3⟩ : ∃ w3, w2.alloc (.cells #[.pointer (some ⟨r, 0, none⟩), .slice Y xs.length cy] 122) = w3 := ⟨_, rfl⟩
  rw [hw3] at R0 HSz ⊢
  clear hw3 z0 z1 y0 y1
  refine Ssa.wp_region_ops (AiI σ W w3 a b c g f r w2.heap.size Y cy xs (fieldR xs 6 (.ok 0)).2 (readS xs) (readH xs)) (by kernel_rfl) (by kernel_rfl) (by kernel_rfl) (by kernel_rfl) (fun V => ⟨fun _ => R0.out.below (Below.refl _ _).drew, fun h => (by cases h), fun h => (by cases h), fun h => (by cases h), fun h => (by cases h), fun h => (by cases h), fun h => (by cases h), fun h => (by cases h), fun h => (by cases h), fun h => (by cases h), fun h => (by cases h), HSz.out⟩) ?_ ?_
  · intro hd
    refine Ssa.OpsInv.cons (Ssa.opInv rfl fun D V w hi hall K => ?_) ?_
    · obtain ⟨s, ks⟩ := K.any
      exact Ssa.ov_val (Ssa.exec_load rfl (Ssa.evT rfl rfl) (reader_load ks.b)) { K with v0 := fun _ => rfl }
    refine Ssa.OpsInv.cons (Ssa.opInv rfl fun D V w hi hall K => ?_) ?_
    · exact Ssa.ov_val (Ssa.exec_field rfl (Ssa.evT rfl rfl) (reader_field _ w)) { K with v1 := fun _ => rfl }
    refine Ssa.OpsInv.cons (Ssa.opInv rfl fun D V w hi hall K => ?_) ?_
    · have d1 : D 1 = true := Ssa.dep hall 0 rfl rfl
      obtain ⟨s, ks⟩ := K.any
      exact Ssa.ov_val (Ssa.exec_load rfl ((Ssa.evM hd 1 rfl rfl).trans (K.v1 d1)) (ptr_load ks.b)) { K with v2 := fun _ => rfl }
    refine Ssa.OpsInv.cons (Ssa.opInv rfl fun D V w hi hall K => ?_) ?_
    · have d2 : D 2 = true := Ssa.dep hall 0 rfl rfl
      have d4 : D 4 = false := by
        cases h : D 4 with
        | false => rfl
        | true => rw [K.s43 h] at hi; cases hi
      have k0 := K.r0 hi
      refine Ssa.ov_call (Ssa.exec_call rfl rfl (Ssa.evs_cons ((Ssa.evM hd 2 rfl rfl).trans (K.v2 d2)) (Ssa.evs_cons rfl Ssa.evs_nil)) Tryz.func83 (by kernel_rfl) rfl) ((HFd.out w k0).mono ?_)
      rintro e w' ⟨rfl, hg⟩
      exact ⟨_, rfl, { K with r0 := fun h => (by cases h), r1 := fun _ _ => k0.got hg, r3 := fun h => (by have h' : D 4 = true := h; rw [d4] at h'; cases h'), s43 := fun _ => rfl, v3 := fun _ => rfl, v5 := K.box k0.n2 hg.fr, sz := Nat.lt_of_lt_of_le K.sz hg.fr.size }⟩
    refine Ssa.OpsInv.cons (Ssa.opInv rfl fun D V w hi hall K => ?_) ?_
    · have d0 : D 0 = true := Ssa.dep hall 0 rfl rfl
      have d3 : D 3 = true := Ssa.dep hall 1 rfl rfl
      have k1 := K.r1 d3 hi
      refine Ssa.ov_call (Ssa.exec_call rfl rfl (Ssa.evs_cons ((Ssa.evM hd 0 rfl rfl).trans (K.v0 d0)) (Ssa.evs_cons ((Ssa.evM hd 3 rfl rfl).trans (K.v3 d3)) Ssa.evs_nil)) Tryz.func82 (by kernel_rfl) rfl) ((HId.out w _ k1).mono ?_)
      rintro e w' ⟨rfl, hg⟩
      exact ⟨_, rfl, { K with r0 := fun h => (by have h' : D 3 = false := h; rw [d3] at h'; cases h'), r1 := fun _ h => (by cases h), r3 := fun _ => k1.got hg, s43 := fun _ => d3, v4 := fun _ => rfl, v5 := K.box k1.n2 hg.fr, sz := Nat.lt_of_lt_of_le K.sz hg.fr.size }⟩
    refine Ssa.OpsInv.cons (Ssa.opInv rfl fun D V w hi hall K => ?_) ?_
    · have d6 : D 6 = false := by
        cases h : D 6 with
        | false => rfl
        | true => rw [K.s65 h] at hi; cases hi
      exact Ssa.ov_val (Ssa.exec_alloc rfl (ident_new8 w)) { K.world (below_new w _) with v5 := fun _ => ⟨_, rfl, K.sz, fun _ => BlockIs.made w _ _, fun h => (by have h' : D 6 = true := h; rw [d6] at h'; cases h')⟩, s65 := fun _ => rfl }
    refine Ssa.OpsInv.cons (Ssa.opInv rfl fun D V w hi hall K => ?_) ?_
    · have d5 : D 5 = true := Ssa.dep hall 0 rfl rfl
      have d4 : D 4 = true := Ssa.dep hall 1 rfl rfl
      have d3 := K.s43 d4
      obtain ⟨q, e5, hq, hq0, _⟩ := K.v5 d5
      have hB := hq0 hi
      obtain ⟨hZ, hg⟩ := BlockIs.put3 hB (.int .i64 (readH xs).idx) (.int .i64 (readH xs).term) (.int .i64 (readH xs).kind)
      exact Ssa.ov_skip (Ssa.exec_store rfl ((Ssa.evM hd 5 rfl rfl).trans e5) ((Ssa.evM hd 4 rfl rfl).trans (K.v4 d4)) (ident_store8 hB)) { K with r0 := fun h => (by have h' : D 3 = false := h; rw [d3] at h'; cases h'), r1 := fun _ h => (by have h' : D 4 = false := h; rw [d4] at h'; cases h'), r3 := fun _ => (K.r3 d4).grown hg hq, v5 := fun _ => ⟨q, e5, hq, fun h => (by cases h), fun _ => hZ⟩, s65 := fun _ => d5, sz := Nat.lt_of_lt_of_le K.sz hg.size }
    exact Ssa.OpsInv.nil
  intro D V w5 hall K
  obtain ⟨q, e5, hq, _, hq1⟩ := K.v5 (hall 5 (by decide))
  have I5 := Lib.hid (hq1 (hall 6 (by decide)))
  have R5 := Lib.hid (K.r3 (hall 4 (by decide)))
  clear K hall hq1 R0 HSz HFd HId
  simp only [Ssa.mixV, Ssa.putV, List.setIfInBounds_toArray, List.set_cons_zero, List.set_cons_succ, Nat.zero_add, Nat.reduceAdd]
  rw [e5]
  clear e5
  obtain ⟨k0, k1⟩ := R5.out.cells
  go_wp2_with fail
  obtain ⟨en, hen⟩ : ∃ x, endedB xs (readS xs) = x := ⟨_, rfl⟩
  rw [hen] at HEd
  refine (HEd.out w5 R5.out).mono ?_
  rintro e w6 ⟨rfl, b6⟩
  have R6 := Lib.hid (R5.out.below b6)
  have I6 := Lib.hid (I5.out.below b6 I5.out.lt)
  have Hen := Lib.hid hen
  clear hen b6 R5 I5 HEd k0 k1
  obtain ⟨c0, c1, c2, c3, c4⟩ := R6.out.h.cells
  cases en
  · have bd := HBd.out _ R6.out.h.bl
    unfold errK at *
    go_wp2_with fail
    refine (HMu.out _ _).mono ?_
    rintro e w9 ⟨rfl, rfl⟩
    exact ⟨rfl, .inr ⟨fun h => (by rw [Hen.out] at h; cases h.1), ⟨_, _, rfl, HE.out⟩⟩, R6.out.h.bl⟩
  · obtain ⟨i0, i1, i2, _⟩ := I6.out.three
    go_wp2_with fail
    refine (HA.out _).mono ?_
    rintro e w7 ⟨rfl, b7⟩
    have R7 := Lib.hid (R6.out.below b7)
    have I7 := Lib.hid (I6.out.below b7 I6.out.lt)
    clear b7 R6 I6 HA c0 c1 c2 c3 c4 i0 i1 i2
    obtain ⟨c0, c1, c2, c3, c4⟩ := R7.out.h.cells
    obtain ⟨i0, i1, i2, _⟩ := I7.out.three
    by_cases ha : aheadI (readH xs) f
    · rw [decide_eq_true ha]
      obtain ⟨u0, u1, u2, f0, f1, f2⟩ := R7.out.h.i.three
      have Z := Lib.hid (R7.out.h.i.put3 (.int .i64 (readH xs).idx) (.int .i64 (readH xs).term) (.int .i64 (readH xs).kind))
      go_wp2_with fail
      clear u0 u1 u2 f0 f1 f2
      obtain ⟨z0, z1, z2, _⟩ := Z.out.1.three
      refine bodyPost_ret (v := (readH xs).val) (by simp [results, Tryz.results46, go_sem, IdentI.val, z0, z1, z2]) rfl ⟨.inl ⟨⟨Hen.out, ha⟩, rfl⟩, below_grown R7.out.h.bl Z.out.2 R7.out.h.bl.size (by omega)⟩
    · rw [decide_eq_false ha]
      have bd := HBd.out _ R7.out.h.bl
      unfold errK at *
      go_wp2_with fail
      refine (HMu.out _ _).mono ?_
      rintro e w9 ⟨rfl, rfl⟩
      exact ⟨rfl, .inr ⟨fun h => ha h.2, ⟨_, _, rfl, HE.out⟩⟩, R7.out.h.bl⟩
end Go.Proofs.YtpdfmpegcejmkaaGreatDoor
