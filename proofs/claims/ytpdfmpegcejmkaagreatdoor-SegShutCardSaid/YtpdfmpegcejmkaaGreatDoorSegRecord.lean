/- seg.Of, of anything. -/
/- seg.Record, of anything. -/
import Derived.Test.YtpdfmpegcejmkaaGreatDoorSegRecOf
import Derived.Test.YtpdfmpegcejmkaaGreatDoorKitBoxes
namespace Go.Proofs.YtpdfmpegcejmkaaGreatDoor
open Go.RowKit
theorem ofR_none {b : List Int} {n : Int} (h : (ofR b n).2.2 ≠ 0) : (ofR b n).1 = noEnt ∧ (ofR b n).2.1 = noIdent := by
  unfold ofR at *
  split
  · exact ⟨rfl, rfl⟩
  · next h1 =>
    rw [if_neg h1] at h
    split
    · exact ⟨rfl, rfl⟩
    · next h2 =>
      rw [if_neg h2] at h
      unfold partedE at *
      split
      · next h3 => rw [if_pos h3] at h; exact absurd rfl h
      · exact ⟨rfl, rfl⟩
/-- What a call that tells a record has in its box. -/
structure ReBox (B : Nat) (w : World) (z : Nat) (e : Ent) (a : IdentI) : Prop where
  ex : ∃ v, BlockIs w z 95 #[.int .i64 e.index, .int .i64 e.term, .int .i64 e.kind, v, .int .i64 a.idx, .int .i64 a.term, .int .i64 a.kind] ∧ PartOf B w v e.body
theorem ReBox.kept {B z q : Nat} {w w' : World} {e : Ent} {a : IdentI} (h : ReBox B w z e a) (hg : w.grownBy w' (some q)) (hz : z ≠ q) (hq : q < B) : ReBox B w' z e a := by
  obtain ⟨v, h1, h2⟩ := h.ex
  exact ⟨v, h1.kept hg (fun x => hz (Option.some.inj x)), h2.kept hg hq⟩
theorem ReBox.mono {B B' z : Nat} {w : World} {e : Ent} {a : IdentI} (h : ReBox B w z e a) (hB : B' ≤ B) : ReBox B' w z e a := by
  obtain ⟨v, h1, h2⟩ := h.ex
  exact ⟨v, h1, h2.mono hB⟩
theorem BlockIs.four {w : World} {g : Nat} {t : TypeId} {a b c d : Value} (k : BlockIs w g t #[a, b, c, d]) (x y z u : Value) :
    BlockIs ((((w.setCell ⟨g, 0, none⟩ x).setCell ⟨g, 1, none⟩ y).setCell ⟨g, 2, none⟩ z).setCell ⟨g, 3, none⟩ u) g t #[x, y, z, u] ∧ w.grownBy ((((w.setCell ⟨g, 0, none⟩ x).setCell ⟨g, 1, none⟩ y).setCell ⟨g, 2, none⟩ z).setCell ⟨g, 3, none⟩ u) (some g) :=
  ⟨(((k.set1 0 x).set1 1 y).set1 2 z).set1 3 u, grown_at (grown_at (grown_at (grown_at (World.grownBy.refl w (some g)) 0 x) 1 y) 2 z) 3 u⟩
set_option maxRecDepth 100000 in
set_option maxHeartbeats 4000000 in
theorem gof1_any (σ : Sen) (τ : SenU) (ρ : SenQ) (W : World) (hC : GlAt σ W) (hU : GlU τ W) (hQ : GlQ ρ W) (A : Option Addr) (b : List Int) (c : Nat) (hb : BytesAt W A b) (hbc : b.length ≤ c) (hm : c ≤ 9223372036854775807) (n : Int) (hn2 : n ≤ 9223372036854775807) (x y z : Nat)
    (hx : BlockIs W x 27 #[.slice A b.length c]) (hy : BlockIs W y 3 #[.int .i64 n]) (hu : BlockIs W z 95 zero7) :
    Calls Tryz.prog 63 #[.pointer (some ⟨x, 0, none⟩), .pointer (some ⟨y, 0, none⟩), .pointer (some ⟨z, 0, none⟩)] W fun r w' => (((ofR b n).2.2 = 0 ∧ r = .returned (.tuple #[])) ∨ Faults ρ (ofR b n).2.2 r) ∧ ReBox W.heap.size w' z (ofR b n).1 (ofR b n).2.1 ∧ W.grownBy w' (some z) := by
  have x0 : W.cell? ⟨x, 0, none⟩ = some (.slice A b.length c) := hx.cell 0
  have y0 : W.cell? ⟨y, 0, none⟩ = some (.int .i64 n) := hy.cell 0
  have HR := Lib.hid (grecOf_any σ τ ρ W hC hU hQ A b c hb hbc hm n hn2)
  have HN := Lib.hid (fun h => ofR_none (b := b) (n := n) h)
  have HB := Lib.hid hu
  obtain ⟨r, hr⟩ : ∃ r, ofR b n = r := ⟨_, rfl⟩
  rw [hr] at HR HN ⊢
  obtain ⟨⟨e0, e1, e2, eb⟩, ⟨a0, a1, a2⟩, rc⟩ := r
  simp only at HR HN ⊢
  clear hC hU hQ hb hbc hm hn2 hx hy hu hr
  go_enter Tryz.func63, Tryz.ntmps63
  go_wp2_with fail
  refine HR.out.mono ?_
  rintro r w2 ⟨⟨h0, v, rfl, hp⟩ | ⟨h0, n', v', rfl, hv⟩, b2⟩
  · obtain ⟨X, cx, rfl, _, _⟩ := hp.reads
    have B2 := HB.out.below b2 HB.out.lt
    have Z := Lib.hid (B2.put7 (.int .i64 e0) (.int .i64 e1) (.int .i64 e2) (.slice X eb.length cx) (.int .i64 a0) (.int .i64 a1) (.int .i64 a2))
    have G2 := Lib.hid (And.intro hp b2)
    have H0 := Lib.hid h0
    obtain ⟨c0, c1, c2, c3, c4, c5, c6⟩ := B2.seven
    obtain ⟨f0, f1, f2, f3, f4, f5, f6⟩ := B2.free7
    clear b2 B2 HR hp x0 y0 h0
    go_wp2_with fail
    go_end0
    exact ⟨.inl ⟨H0.out, rfl⟩, ⟨_, Z.out.1, (G2.out.1.kept Z.out.2 (by have := HB.out.lt; omega)).mono (by omega)⟩, (grown_below G2.out.2 _).trans Z.out.2⟩
  · refine ⟨rfl, .inr ⟨n', v', rfl, hv⟩, ⟨.slice none 0 0, ?_⟩, grown_below b2 _⟩
    obtain ⟨k1, k2⟩ := HN.out h0
    obtain ⟨rfl, rfl, rfl, rfl⟩ : e0 = 0 ∧ e1 = 0 ∧ e2 = 0 ∧ eb = [] := by unfold noEnt at k1; simpa using k1
    obtain ⟨rfl, rfl, rfl⟩ : a0 = 0 ∧ a1 = 0 ∧ a2 = 0 := by unfold noIdent at k2; simpa using k2
    exact ⟨HB.out.below b2 HB.out.lt, PartOf.nil _ _⟩
set_option maxRecDepth 100000 in
set_option maxHeartbeats 4000000 in
theorem gof_any (σ : Sen) (τ : SenU) (ρ : SenQ) (W : World) (hC : GlAt σ W) (hU : GlU τ W) (hQ : GlQ ρ W) (A : Option Addr) (b : List Int) (c : Nat) (hb : BytesAt W A b) (hbc : b.length ≤ c) (hm : c ≤ 9223372036854775807) (n : Int) (hn2 : n ≤ 9223372036854775807) :
    Calls Tryz.prog 29 #[.slice A b.length c, .int .i64 n] W fun r w' => ∃ v, r = .returned (.tuple #[.agg #[.int .i64 (ofR b n).1.index, .int .i64 (ofR b n).1.term, .int .i64 (ofR b n).1.kind, v], (ofR b n).2.1.val, .int .i64 (ofR b n).2.2]) ∧ PartOf W.heap.size w' v (ofR b n).1.body ∧ Below W.heap.size W w' := by
  have hmf : ∀ (fn : Fn) (first cap : Array Value) (w : World), (Instr.makeFunc fn first cap).run Tryz.prog w = .ok (.func fn first cap) w := fun _ _ _ _ => rfl
  have hb0 := boxes_below [(27, #[.slice A b.length c]), (3, #[.int .i64 n]), (50, #[.int .i64 0, .int .i64 0, .int .i64 0, .slice none 0 0]), (26, #[.int .i64 0, .int .i64 0, .int .i64 0]), (95, zero7)] W
  have hs := boxes_size [(27, #[.slice A b.length c]), (3, #[.int .i64 n]), (50, #[.int .i64 0, .int .i64 0, .int .i64 0, .slice none 0 0]), (26, #[.int .i64 0, .int .i64 0, .int .i64 0]), (95, zero7)] W
  have h0 := boxes_at [(27, #[.slice A b.length c]), (3, #[.int .i64 n]), (50, #[.int .i64 0, .int .i64 0, .int .i64 0, .slice none 0 0]), (26, #[.int .i64 0, .int .i64 0, .int .i64 0]), (95, zero7)] W 0 _ _ rfl
  have h1 := boxes_at [(27, #[.slice A b.length c]), (3, #[.int .i64 n]), (50, #[.int .i64 0, .int .i64 0, .int .i64 0, .slice none 0 0]), (26, #[.int .i64 0, .int .i64 0, .int .i64 0]), (95, zero7)] W 1 _ _ rfl
  have h2 := boxes_at [(27, #[.slice A b.length c]), (3, #[.int .i64 n]), (50, #[.int .i64 0, .int .i64 0, .int .i64 0, .slice none 0 0]), (26, #[.int .i64 0, .int .i64 0, .int .i64 0]), (95, zero7)] W 2 _ _ rfl
  have h3 := boxes_at [(27, #[.slice A b.length c]), (3, #[.int .i64 n]), (50, #[.int .i64 0, .int .i64 0, .int .i64 0, .slice none 0 0]), (26, #[.int .i64 0, .int .i64 0, .int .i64 0]), (95, zero7)] W 3 _ _ rfl
  have h4 := boxes_at [(27, #[.slice A b.length c]), (3, #[.int .i64 n]), (50, #[.int .i64 0, .int .i64 0, .int .i64 0, .slice none 0 0]), (26, #[.int .i64 0, .int .i64 0, .int .i64 0]), (95, zero7)] W 4 _ _ rfl
  obtain ⟨w4, hw4⟩ : ∃ w4, boxes W [(27, #[.slice A b.length c]), (3, #[.int .i64 n]), (50, #[.int .i64 0, .int .i64 0, .int .i64 0, .slice none 0 0]), (26, #[.int .i64 0, .int .i64 0, .int .i64 0]), (95, zero7)] = w4 := ⟨_, rfl⟩
  rw [hw4] at hb0 hs h0 h1 h2 h3 h4
  simp only [boxes] at hw4
  simp only [List.length_cons, List.length_nil] at hs
  have HB := Lib.hid (And.intro hb0 (And.intro hs (And.intro (show BlockIs w4 (W.heap.size + 1 + 1) 50 #[.int .i64 0, .int .i64 0, .int .i64 0, .slice none 0 0] from h2) (show BlockIs w4 (W.heap.size + 1 + 1 + 1) 26 #[.int .i64 0, .int .i64 0, .int .i64 0] from h3))))
  have Hw4 := Lib.hid hw4
  have HT := Lib.hid (tried_any ρ w4 63 #[.pointer (some ⟨W.heap.size, 0, none⟩), .pointer (some ⟨W.heap.size + 1, 0, none⟩), .pointer (some ⟨W.heap.size + 1 + 1 + 1 + 1, 0, none⟩)] (fun _ => by simp [go_sem]) (some (W.heap.size + 4)) (fun b x => by have := Option.some.inj x; omega) (fun k w2 => k = (ofR b n).2.2 ∧ ReBox (w4.heap.size + 1) w2 (W.heap.size + 4) (ofR b n).1 (ofR b n).2.1) (fun w1 b1 l1 => (gof1_any σ τ ρ w1 (hC.below (hb0.trans (b1.mono hb0.size))) (hU.below (hb0.trans (b1.mono hb0.size))) (hQ.below (hb0.trans (b1.mono hb0.size))) A b c (hb.below (hb0.trans (b1.mono hb0.size))) hbc hm n hn2 W.heap.size (W.heap.size + 1) (W.heap.size + 4) (h0.below b1 h0.lt) (h1.below b1 h1.lt) (h4.below b1 h4.lt)).mono (by
      rintro r w2 ⟨hr, hu, hg⟩
      have bw := hb0.trans (b1.mono hb0.size)
      exact ⟨_, hr, hg, hQ.below (below_grown bw hg bw.size (by omega)), rfl, hu.mono (by omega)⟩)))
  obtain ⟨rr, hrr⟩ : ∃ rr, ofR b n = rr := ⟨_, rfl⟩
  rw [hrr] at HT ⊢
  obtain ⟨⟨e0, e1, e2, eb⟩, ⟨a0, a1, a2⟩, rc⟩ := rr
  simp only at HT ⊢
  clear hb0 hs h0 h1 h2 h3 h4 hw4 hC hU hQ hb hbc hm hn2 hrr
  unfold IdentI.val
  go_enter Tryz.func29, Tryz.ntmps29
  go_wp2_with fail
  rw [Hw4.out]
  refine HT.out.mono ?_
  rintro r w6 ⟨k, w5, rfl, ⟨rfl, hu⟩, g5, g6, l5⟩
  have HS := Lib.hid HB.out.2.1
  have ha4 : Hid (Below W.heap.size W w5) := Lib.hid (HB.out.1.trans ⟨g5.os, g5.tape, g5.output, by have := g5.size; have := HS.out; omega, fun k hk => g5.block k (by have := HS.out; omega) (fun x => by have := Option.some.inj x; omega)⟩)
  have hb6 := Lib.hid (below_grown ha4.out g6 ha4.out.size (by have := HS.out; omega))
  have hu6 := (show ReBox (w4.heap.size + 1) w5 (W.heap.size + 1 + 1 + 1 + 1) ⟨e0, e1, e2, eb⟩ ⟨a0, a1, a2⟩ from hu).kept g6 (by have := HS.out; omega) (by omega)
  have r6 := (HB.out.2.2.1.kept g5 (fun x => by have := Option.some.inj x; omega)).kept g6 (fun x => by have := Option.some.inj x; have := HS.out; omega)
  have s6 := (HB.out.2.2.2.kept g5 (fun x => by have := Option.some.inj x; omega)).kept g6 (fun x => by have := Option.some.inj x; have := HS.out; omega)
  obtain ⟨v, k1, k2⟩ := hu6.ex
  obtain ⟨X, cap, rfl, _, _⟩ := k2.reads
  simp only at k1 k2 ⊢
  have HK := Lib.hid (And.intro k1 k2)
  have HR6 := Lib.hid (And.intro r6 s6)
  obtain ⟨u0, u1, u2, u3, u4, u5, u6⟩ := k1.seven
  have c0 := r6.cell 0
  have c1 := r6.cell 1
  have c2 := r6.cell 2
  have c3 := r6.cell 3
  have f0 := r6.free 0
  have f1 := r6.free 1
  have f2 := r6.free 2
  have f3 := r6.free 3
  obtain ⟨d0, d1, d2, fd0, fd1, fd2⟩ := s6.three
  clear k1 k2 r6 s6 hu hu6 g5 g6 l5 ha4
  go_wp2_with fail
  go_region
  all_goals
    go_wp2_with fail
    clear u0 u1 u2 u3 u4 u5 u6 c0 c1 c2 c3 f0 f1 f2 f3 d0 d1 d2 fd0 fd1 fd2
    obtain ⟨p1, q1⟩ := HR6.out.1.four (.int .i64 e0) (.int .i64 e1) (.int .i64 e2) (.slice X eb.length cap)
    have p2 := HR6.out.2.kept q1 (fun x => by have := Option.some.inj x; omega)
    have p3 := HK.out.2.kept q1 (by have := HS.out; omega)
    have p4 := below_grown hb6.out q1 hb6.out.size (by omega)
    generalize ((((w6.setCell ⟨W.heap.size + 1 + 1, 0, none⟩ (.int .i64 e0)).setCell ⟨W.heap.size + 1 + 1, 1, none⟩ (.int .i64 e1)).setCell ⟨W.heap.size + 1 + 1, 2, none⟩ (.int .i64 e2)).setCell ⟨W.heap.size + 1 + 1, 3, none⟩ (.slice X eb.length cap)) = w7 at *
    obtain ⟨p5, q5⟩ := p2.put3 (.int .i64 a0) (.int .i64 a1) (.int .i64 a2)
    have p6 := p1.kept q5 (fun x => by have := Option.some.inj x; omega)
    have p7 := p3.kept q5 (by have := HS.out; omega)
    have p8 := below_grown p4 q5 p4.size (by omega)
    generalize ((w7.setCell ⟨W.heap.size + 1 + 1 + 1, 0, none⟩ (.int .i64 a0)).setCell ⟨W.heap.size + 1 + 1 + 1, 1, none⟩ (.int .i64 a1)).setCell ⟨W.heap.size + 1 + 1 + 1, 2, none⟩ (.int .i64 a2) = w8 at *
    have y0 := p6.cell 0
    have y1 := p6.cell 1
    have y2 := p6.cell 2
    have y3 := p6.cell 3
    obtain ⟨z0, z1, z2, _⟩ := p5.three
    exact bodyPost_ret (v := .tuple #[.agg #[.int .i64 e0, .int .i64 e1, .int .i64 e2, .slice X eb.length cap], .agg #[.int .i64 a0, .int .i64 a1, .int .i64 a2], .int .i64 k]) (by simp [results, Tryz.results29, go_sem, y0, y1, y2, y3, z0, z1, z2]) rfl ⟨_, rfl, p7.mono (by have := HS.out; omega), p8.drew⟩
end Go.Proofs.YtpdfmpegcejmkaaGreatDoor
namespace Go.Proofs.YtpdfmpegcejmkaaGreatDoor
open Go.RowKit
/-- What a call that makes a unit has in its box: the unit, with a row of its own. -/
structure UnBox (B : Nat) (w : World) (z : Nat) (u : UnitV) : Prop where
  ex : ∃ v, BlockIs w z 34 #[.int .i64 u.kind, .int .i64 u.num, v] ∧ w.ownsRow B 5 1 v u.body.length (u8s u.body)
theorem UnBox.kept {B z q : Nat} {w w' : World} {u : UnitV} (h : UnBox B w z u) (hg : w.grownBy w' (some q)) (hz : z ≠ q) (hq : q < B) : UnBox B w' z u := by
  obtain ⟨v, h1, h2⟩ := h.ex
  exact ⟨v, h1.kept hg (fun x => hz (Option.some.inj x)), h2.kept hg (.inr (fun x => by have := (h2.lt _ x).1; omega))⟩
theorem UnBox.mono {B B' z : Nat} {w : World} {u : UnitV} (h : UnBox B w z u) (hB : B' ≤ B) : UnBox B' w z u := by
  obtain ⟨v, h1, h2⟩ := h.ex
  exact ⟨v, h1, own_lift h2 (fun b x => Nat.le_trans hB (h2.lt b x).1)⟩
theorem recordR_none {a : IdentI} {e : Ent} (h : (recordR a e).2 ≠ 0) : (recordR a e).1 = noUnit := by
  unfold recordR at *
  split
  · rfl
  · next h1 =>
    rw [if_neg h1] at h
    split
    · rfl
    · next h2 => rw [if_neg h2] at h; exact absurd rfl h
theorem recordR_some {a : IdentI} {e : Ent} (h : (recordR a e).2 = 0) : (recordR a e).1 = recU a e := by
  obtain ⟨h1, h2⟩ := record_zero.1 h
  unfold recordR
  rw [if_neg (by rw [h1]; decide), if_neg (fun x => x h2)]
set_option maxRecDepth 100000 in
set_option maxHeartbeats 4000000 in
theorem grec1_any (σ : SenQ) (W : World) (hG : GlQ σ W) (e : Ent) (A : Option Addr) (c : Nat) (a : IdentI) (hl : e.body.length ≤ 9223372036854775807) (hz : BytesAt W A e.body) (hA : A = none → c = 0) (x y z : Nat)
    (hx : BlockIs W x 50 #[.int .i64 e.index, .int .i64 e.term, .int .i64 e.kind, .slice A e.body.length c]) (hy : BlockIs W y 26 #[.int .i64 a.idx, .int .i64 a.term, .int .i64 a.kind]) (hu : BlockIs W z 34 #[.int .i64 0, .int .i64 0, .slice none 0 0]) :
    Calls Tryz.prog 61 #[.pointer (some ⟨x, 0, none⟩), .pointer (some ⟨y, 0, none⟩), .pointer (some ⟨z, 0, none⟩)] W fun r w' => (((recordR a e).2 = 0 ∧ r = .returned (.tuple #[])) ∨ Faults σ (recordR a e).2 r) ∧ UnBox W.heap.size w' z (recordR a e).1 ∧ W.grownBy w' (some z) := by
  have x0 := hx.cell 0
  have x1 := hx.cell 1
  have x2 := hx.cell 2
  have x3 := hx.cell 3
  have y0 := hy.cell 0
  have y1 := hy.cell 1
  have y2 := hy.cell 2
  by_cases hr : (recordR a e).2 = 0
  · obtain ⟨h1, h2⟩ := record_zero.1 hr
    have HU := Lib.hid (gunit_good σ W hG e A c a hz hA h1 h2)
    have HB := Lib.hid hu
    have HE := Lib.hid (And.intro hr (recordR_some hr))
    have HL := Lib.hid (recBody_len a e)
    clear hG hl hz hA hx hy hu hr h1 h2
    unfold recV at HU
    go_enter Tryz.func61, Tryz.ntmps61
    go_wp2_with fail
    refine HU.out.mono ?_
    rintro r w2 ⟨v, rfl, ho, b2⟩
    obtain ⟨g, cap, rfl, _, _, _, _⟩ := own_form ho (by omega)
    have B2 := HB.out.below b2 HB.out.lt
    have Z := Lib.hid (B2.put3 (.int .i64 5) (.int .i64 e.index) (.slice (some ⟨g, 0, none⟩) (14 + e.body.length) cap))
    have G2 := Lib.hid (And.intro ho b2)
    obtain ⟨c0, c1, c2, f0, f1, f2⟩ := B2.three
    clear b2 B2 HU ho x0 x1 x2 x3 y0 y1 y2
    go_wp2_with fail
    go_end0
    refine ⟨.inl ⟨HE.out.1, rfl⟩, ⟨.slice (some ⟨g, 0, none⟩) (14 + e.body.length) cap, ?_⟩, (grown_below G2.out.2 _).trans Z.out.2⟩
    rw [HE.out.2]
    refine ⟨Z.out.1, ?_⟩
    have h := G2.out.1.kept Z.out.2 (.inr (fun x => by have := (G2.out.1.lt _ x).1; have := HB.out.lt; omega))
    rw [show (recU a e).body.length = 14 + e.body.length from HL.out]
    exact own_lift h (fun b x => by have := (G2.out.1.lt _ x).1; omega)
  · have HU := Lib.hid (gunit_bad σ W hG e A c hl a hr)
    have HB := Lib.hid hu
    have HE := Lib.hid (recordR_none hr)
    clear hG hl hz hA hx hy hu hr
    unfold recV at HU
    obtain ⟨k, hk⟩ : ∃ k, (recordR a e).2 = k := ⟨_, rfl⟩
    rw [hk] at HU ⊢
    clear hk
    go_enter Tryz.func61, Tryz.ntmps61
    go_wp2_with fail
    refine HU.out.mono ?_
    rintro r w2 ⟨⟨n, v, rfl, hv⟩, b2⟩
    refine ⟨rfl, .inr ⟨n, v, rfl, hv⟩, ⟨.slice none 0 0, ?_⟩, grown_below b2 _⟩
    rw [HE.out]
    exact ⟨HB.out.below b2 HB.out.lt, World.ownsRow_nil _ _ _ _⟩
set_option maxRecDepth 100000 in
set_option maxHeartbeats 4000000 in
theorem grecord_any (σ : SenQ) (W : World) (hG : GlQ σ W) (a : IdentI) (e : Ent) (A : Option Addr) (c : Nat) (hl : e.body.length ≤ 9223372036854775807) (hz : BytesAt W A e.body) (hA : A = none → c = 0) :
    Calls Tryz.prog 27 #[a.val, .agg #[.int .i64 e.index, .int .i64 e.term, .int .i64 e.kind, .slice A e.body.length c]] W fun r w' => ∃ v, r = .returned (.tuple #[.agg #[.int .i64 (recordR a e).1.kind, .int .i64 (recordR a e).1.num, v], .int .i64 (recordR a e).2]) ∧ w'.ownsRow W.heap.size 5 1 v (recordR a e).1.body.length (u8s (recordR a e).1.body) ∧ Below W.heap.size W w' := by
  have hmf : ∀ (fn : Fn) (first cap : Array Value) (w : World), (Instr.makeFunc fn first cap).run Tryz.prog w = .ok (.func fn first cap) w := fun _ _ _ _ => rfl
  have hb := boxes_below [(26, #[.int .i64 a.idx, .int .i64 a.term, .int .i64 a.kind]), (50, #[.int .i64 e.index, .int .i64 e.term, .int .i64 e.kind, .slice A e.body.length c]), (34, #[.int .i64 0, .int .i64 0, .slice none 0 0]), (34, #[.int .i64 0, .int .i64 0, .slice none 0 0])] W
  have hs := boxes_size [(26, #[.int .i64 a.idx, .int .i64 a.term, .int .i64 a.kind]), (50, #[.int .i64 e.index, .int .i64 e.term, .int .i64 e.kind, .slice A e.body.length c]), (34, #[.int .i64 0, .int .i64 0, .slice none 0 0]), (34, #[.int .i64 0, .int .i64 0, .slice none 0 0])] W
  have h0 := boxes_at [(26, #[.int .i64 a.idx, .int .i64 a.term, .int .i64 a.kind]), (50, #[.int .i64 e.index, .int .i64 e.term, .int .i64 e.kind, .slice A e.body.length c]), (34, #[.int .i64 0, .int .i64 0, .slice none 0 0]), (34, #[.int .i64 0, .int .i64 0, .slice none 0 0])] W 0 _ _ rfl
  have h1 := boxes_at [(26, #[.int .i64 a.idx, .int .i64 a.term, .int .i64 a.kind]), (50, #[.int .i64 e.index, .int .i64 e.term, .int .i64 e.kind, .slice A e.body.length c]), (34, #[.int .i64 0, .int .i64 0, .slice none 0 0]), (34, #[.int .i64 0, .int .i64 0, .slice none 0 0])] W 1 _ _ rfl
  have h2 := boxes_at [(26, #[.int .i64 a.idx, .int .i64 a.term, .int .i64 a.kind]), (50, #[.int .i64 e.index, .int .i64 e.term, .int .i64 e.kind, .slice A e.body.length c]), (34, #[.int .i64 0, .int .i64 0, .slice none 0 0]), (34, #[.int .i64 0, .int .i64 0, .slice none 0 0])] W 2 _ _ rfl
  have h3 := boxes_at [(26, #[.int .i64 a.idx, .int .i64 a.term, .int .i64 a.kind]), (50, #[.int .i64 e.index, .int .i64 e.term, .int .i64 e.kind, .slice A e.body.length c]), (34, #[.int .i64 0, .int .i64 0, .slice none 0 0]), (34, #[.int .i64 0, .int .i64 0, .slice none 0 0])] W 3 _ _ rfl
  obtain ⟨w4, hw4⟩ : ∃ w4, boxes W [(26, #[.int .i64 a.idx, .int .i64 a.term, .int .i64 a.kind]), (50, #[.int .i64 e.index, .int .i64 e.term, .int .i64 e.kind, .slice A e.body.length c]), (34, #[.int .i64 0, .int .i64 0, .slice none 0 0]), (34, #[.int .i64 0, .int .i64 0, .slice none 0 0])] = w4 := ⟨_, rfl⟩
  rw [hw4] at hb hs h0 h1 h2 h3
  simp only [boxes] at hw4
  simp only [List.length_cons, List.length_nil] at hs
  have HB := Lib.hid (And.intro hb (And.intro hs (And.intro h0 (And.intro h1 (And.intro h2 h3)))))
  have Hw4 := Lib.hid hw4
  have HT := Lib.hid (tried_any σ w4 61 #[.pointer (some ⟨W.heap.size + 1, 0, none⟩), .pointer (some ⟨W.heap.size, 0, none⟩), .pointer (some ⟨W.heap.size + 1 + 1 + 1, 0, none⟩)] (fun _ => by simp [go_sem]) (some (W.heap.size + 3)) (fun b x => by have := Option.some.inj x; omega) (fun k w2 => k = (recordR a e).2 ∧ UnBox (w4.heap.size + 1) w2 (W.heap.size + 3) (recordR a e).1) (fun w1 b1 l1 => (grec1_any σ w1 (hG.below (hb.trans (b1.mono hb.size))) e A c a hl (hz.below (hb.trans (b1.mono hb.size))) hA (W.heap.size + 1) W.heap.size (W.heap.size + 3) (h1.below b1 h1.lt) (h0.below b1 h0.lt) (h3.below b1 h3.lt)).mono (by
      rintro r w2 ⟨hr, hu, hg⟩
      have bw := hb.trans (b1.mono hb.size)
      exact ⟨_, hr, hg, hG.below (below_grown bw hg bw.size (by omega)), rfl, hu.mono (by omega)⟩)))
  obtain ⟨rr, hrr⟩ : ∃ rr, recordR a e = rr := ⟨_, rfl⟩
  rw [hrr] at HT ⊢
  obtain ⟨⟨uk, un, ub⟩, rc⟩ := rr
  simp only at HT ⊢
  clear hb hs h0 h1 h2 h3 hw4 hG hl hz hA hrr
  unfold IdentI.val
  go_enter Tryz.func27, Tryz.ntmps27
  go_wp2_with fail
  rw [Hw4.out]
  refine HT.out.mono ?_
  rintro r w6 ⟨k, w5, rfl, ⟨rfl, hu⟩, g5, g6, l5⟩
  have HS := Lib.hid HB.out.2.1
  have ha4 : Hid (Below W.heap.size W w5) := Lib.hid (HB.out.1.trans ⟨g5.os, g5.tape, g5.output, by have := g5.size; have := HS.out; omega, fun k hk => g5.block k (by have := HS.out; omega) (fun x => by have := Option.some.inj x; omega)⟩)
  have hb6 := Lib.hid (below_grown ha4.out g6 ha4.out.size (by have := HS.out; omega))
  have hu6 := (show UnBox (w4.heap.size + 1) w5 (W.heap.size + 1 + 1 + 1) ⟨uk, un, ub⟩ from hu).kept g6 (by have := HS.out; omega) (by omega)
  have r5 := (show BlockIs w4 (W.heap.size + 1 + 1) 34 #[.int .i64 0, .int .i64 0, .slice none 0 0] from HB.out.2.2.2.2.1).kept g5 (fun x => by have := Option.some.inj x; omega)
  have r6 := r5.kept g6 (fun x => by have := Option.some.inj x; have := HS.out; omega)
  obtain ⟨v, k1, k2⟩ := hu6.ex
  obtain ⟨X, cap, rfl, _, _⟩ := own_slice k2
  simp only at k1 k2 ⊢
  have HK := Lib.hid (And.intro k1 k2)
  have HR6 := Lib.hid r6
  have u0 := k1.cell 0
  have u1 := k1.cell 1
  have u2 := k1.cell 2
  obtain ⟨c0, c1, c2, f0, f1, f2⟩ := r6.three
  have Z := Lib.hid (r6.put3 (.int .i64 uk) (.int .i64 un) (.slice X ub.length cap))
  clear k1 k2 r5 r6 hu hu6 g5 g6 l5 ha4
  go_wp2_with fail
  clear u0 u1 u2 c0 c1 c2 f0 f1 f2
  obtain ⟨z0, z1, z2, _⟩ := Z.out.1.three
  refine bodyPost_ret (v := .tuple #[.agg #[.int .i64 uk, .int .i64 un, .slice X ub.length cap], .int .i64 k]) (by simp [results, Tryz.results27, go_sem, z0, z1, z2]) rfl ⟨_, rfl, ?_, below_grown hb6.out Z.out.2 hb6.out.size (by omega)⟩
  have h := HK.out.2.kept Z.out.2 (.inr (fun x => by have := (HK.out.2.lt _ x).1; have := HS.out; omega))
  exact own_lift h (fun b x => by have := (HK.out.2.lt _ x).1; have := HS.out; omega)
end Go.Proofs.YtpdfmpegcejmkaaGreatDoor
