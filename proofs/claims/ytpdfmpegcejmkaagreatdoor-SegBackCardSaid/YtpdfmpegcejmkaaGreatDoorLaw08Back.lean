/- SegBack: what is recorded is told again. -/
import Derived.Test.YtpdfmpegcejmkaaGreatDoorLaw08Awake
import Derived.Test.YtpdfmpegcejmkaaGreatDoorLaw08Of
import Derived.Deep.RegionWith
namespace Go.Proofs.YtpdfmpegcejmkaaGreatDoor
open Go.RowKit
/-- The boxes of the law's arguments. -/
structure B4 (w : World) (a b : IdentI) (e f : Ent) (A A' : Option Addr) (c c' : Nat) (W : World) : Prop where
  a : BlockIs W w.heap.size 26 #[.int .i64 a.idx, .int .i64 a.term, .int .i64 a.kind]
  b : BlockIs W (w.heap.size + 1) 26 #[.int .i64 b.idx, .int .i64 b.term, .int .i64 b.kind]
  e : BlockIs W (w.heap.size + 1 + 1) 50 #[.int .i64 e.index, .int .i64 e.term, .int .i64 e.kind, .slice A e.body.length c]
  f : BlockIs W (w.heap.size + 1 + 1 + 1) 50 #[.int .i64 f.index, .int .i64 f.term, .int .i64 f.kind, .slice A' f.body.length c']
  bl : Below w.heap.size w W
  sz : w.heap.size + 4 ≤ W.heap.size
section
variable {w : World} {a b : IdentI} {e f : Ent} {A A' : Option Addr} {c c' : Nat} {W W' : World}
theorem B4.on (k : B4 w a b e f A A' c c' W) (h : Below W.heap.size W W') : B4 w a b e f A A' c c' W' :=
  ⟨k.a.below h k.a.lt, k.b.below h k.b.lt, k.e.below h k.e.lt, k.f.below h k.f.lt, k.bl.trans (h.mono k.bl.size), Nat.le_trans k.sz h.size⟩
theorem B4.ce (k : B4 w a b e f A A' c c' W) : W.cell? ⟨w.heap.size + 1 + 1, 0, none⟩ = some (.int .i64 e.index) ∧ W.cell? ⟨w.heap.size + 1 + 1, 1, none⟩ = some (.int .i64 e.term) ∧ W.cell? ⟨w.heap.size + 1 + 1, 2, none⟩ = some (.int .i64 e.kind) ∧ W.cell? ⟨w.heap.size + 1 + 1, 3, none⟩ = some (.slice A e.body.length c) := ⟨k.e.cell 0, k.e.cell 1, k.e.cell 2, k.e.cell 3⟩
theorem B4.cf (k : B4 w a b e f A A' c c' W) : W.cell? ⟨w.heap.size + 1 + 1 + 1, 0, none⟩ = some (.int .i64 f.index) ∧ W.cell? ⟨w.heap.size + 1 + 1 + 1, 1, none⟩ = some (.int .i64 f.term) ∧ W.cell? ⟨w.heap.size + 1 + 1 + 1, 2, none⟩ = some (.int .i64 f.kind) ∧ W.cell? ⟨w.heap.size + 1 + 1 + 1, 3, none⟩ = some (.slice A' f.body.length c') := ⟨k.f.cell 0, k.f.cell 1, k.f.cell 2, k.f.cell 3⟩
/-- The indices of the idents are stored. -/
theorem B4.set (k : B4 w a b e f A A' c c' W) (x y : Int) : B4 w ⟨x, a.term, a.kind⟩ ⟨y, b.term, b.kind⟩ e f A A' c c' ((W.setCell ⟨w.heap.size, 0, none⟩ (.int .i64 x)).setCell ⟨w.heap.size + 1, 0, none⟩ (.int .i64 y)) ∧ B4 w ⟨x, a.term, a.kind⟩ ⟨y, b.term, b.kind⟩ e f A A' c c' ((W.setCell ⟨w.heap.size + 1, 0, none⟩ (.int .i64 y)).setCell ⟨w.heap.size, 0, none⟩ (.int .i64 x)) := by
  have g1 := grown_at (World.grownBy.refl W (some w.heap.size)) 0 (.int .i64 x)
  have g2 := grown_at (World.grownBy.refl (W.setCell ⟨w.heap.size, 0, none⟩ (.int .i64 x)) (some (w.heap.size + 1))) 0 (.int .i64 y)
  have g3 := grown_at (World.grownBy.refl W (some (w.heap.size + 1))) 0 (.int .i64 y)
  have g4 := grown_at (World.grownBy.refl (W.setCell ⟨w.heap.size + 1, 0, none⟩ (.int .i64 y)) (some w.heap.size)) 0 (.int .i64 x)
  have a1 := k.a.set1 0 (.int .i64 x)
  have b1 := (k.b.kept g1 (fun e => by have := Option.some.inj e; omega)).set1 0 (.int .i64 y)
  have b3 := k.b.set1 0 (.int .i64 y)
  have a3 := (k.a.kept g3 (fun e => by have := Option.some.inj e; omega)).set1 0 (.int .i64 x)
  have n1 := g1.size
  have n2 := g2.size
  have n3 := g3.size
  have n4 := g4.size
  have := k.sz
  refine ⟨⟨a1.kept g2 (fun e => by have := Option.some.inj e; omega), b1, (k.e.kept g1 (fun e => by have := Option.some.inj e; omega)).kept g2 (fun e => by have := Option.some.inj e; omega), (k.f.kept g1 (fun e => by have := Option.some.inj e; omega)).kept g2 (fun e => by have := Option.some.inj e; omega), below_grown (below_grown k.bl g1 k.bl.size (by omega)) g2 (by omega) (by omega), by omega⟩,
    ⟨a3, b3.kept g4 (fun e => by have := Option.some.inj e; omega), (k.e.kept g3 (fun e => by have := Option.some.inj e; omega)).kept g4 (fun e => by have := Option.some.inj e; omega), (k.f.kept g3 (fun e => by have := Option.some.inj e; omega)).kept g4 (fun e => by have := Option.some.inj e; omega), below_grown (below_grown k.bl g3 k.bl.size (by omega)) g4 (by omega) (by omega), by omega⟩⟩
end
set_option maxRecDepth 100000 in
set_option maxHeartbeats 8000000 in
theorem segBack_any (σ : Sen) (τ : SenU) (ρ : SenQ) (w : World) (hG : Gl8 σ τ ρ w) (a b : IdentI) (e f : Ent) (A A' : Option Addr) (c c' : Nat) (hz : BytesAt w A e.body) (hz' : BytesAt w A' f.body) (hA : A = none → c = 0) (hA' : A' = none → c' = 0) (hl : e.body.length ≤ 9223372036854775807) (hl' : f.body.length ≤ 9223372036854775807) :
    Calls Tryz.prog 5 #[a.val, b.val, entV e A c, entV f A' c'] w fun r w' => r = .returned (.bool true) ∧ Below w.heap.size w w' := by
  have hb0 := boxes_below [(26, #[.int .i64 a.idx, .int .i64 a.term, .int .i64 a.kind]), (26, #[.int .i64 b.idx, .int .i64 b.term, .int .i64 b.kind]), (50, #[.int .i64 e.index, .int .i64 e.term, .int .i64 e.kind, .slice A e.body.length c]), (50, #[.int .i64 f.index, .int .i64 f.term, .int .i64 f.kind, .slice A' f.body.length c'])] w
  have hs := boxes_size [(26, #[.int .i64 a.idx, .int .i64 a.term, .int .i64 a.kind]), (26, #[.int .i64 b.idx, .int .i64 b.term, .int .i64 b.kind]), (50, #[.int .i64 e.index, .int .i64 e.term, .int .i64 e.kind, .slice A e.body.length c]), (50, #[.int .i64 f.index, .int .i64 f.term, .int .i64 f.kind, .slice A' f.body.length c'])] w
  have h0 := boxes_at [(26, #[.int .i64 a.idx, .int .i64 a.term, .int .i64 a.kind]), (26, #[.int .i64 b.idx, .int .i64 b.term, .int .i64 b.kind]), (50, #[.int .i64 e.index, .int .i64 e.term, .int .i64 e.kind, .slice A e.body.length c]), (50, #[.int .i64 f.index, .int .i64 f.term, .int .i64 f.kind, .slice A' f.body.length c'])] w 0 _ _ rfl
  have h1 := boxes_at [(26, #[.int .i64 a.idx, .int .i64 a.term, .int .i64 a.kind]), (26, #[.int .i64 b.idx, .int .i64 b.term, .int .i64 b.kind]), (50, #[.int .i64 e.index, .int .i64 e.term, .int .i64 e.kind, .slice A e.body.length c]), (50, #[.int .i64 f.index, .int .i64 f.term, .int .i64 f.kind, .slice A' f.body.length c'])] w 1 _ _ rfl
  have h2 := boxes_at [(26, #[.int .i64 a.idx, .int .i64 a.term, .int .i64 a.kind]), (26, #[.int .i64 b.idx, .int .i64 b.term, .int .i64 b.kind]), (50, #[.int .i64 e.index, .int .i64 e.term, .int .i64 e.kind, .slice A e.body.length c]), (50, #[.int .i64 f.index, .int .i64 f.term, .int .i64 f.kind, .slice A' f.body.length c'])] w 2 _ _ rfl
  have h3 := boxes_at [(26, #[.int .i64 a.idx, .int .i64 a.term, .int .i64 a.kind]), (26, #[.int .i64 b.idx, .int .i64 b.term, .int .i64 b.kind]), (50, #[.int .i64 e.index, .int .i64 e.term, .int .i64 e.kind, .slice A e.body.length c]), (50, #[.int .i64 f.index, .int .i64 f.term, .int .i64 f.kind, .slice A' f.body.length c'])] w 3 _ _ rfl
  obtain ⟨w4, hw4⟩ : ∃ w4, boxes w [(26, #[.int .i64 a.idx, .int .i64 a.term, .int .i64 a.kind]), (26, #[.int .i64 b.idx, .int .i64 b.term, .int .i64 b.kind]), (50, #[.int .i64 e.index, .int .i64 e.term, .int .i64 e.kind, .slice A e.body.length c]), (50, #[.int .i64 f.index, .int .i64 f.term, .int .i64 f.kind, .slice A' f.body.length c'])] = w4 := ⟨_, rfl⟩
  rw [hw4] at hb0 hs h0 h1 h2 h3
  simp only [List.length_cons, List.length_nil] at hs
  have K4 := Lib.hid (show B4 w a b e f A A' c c' w4 from ⟨h0, h1, h2, h3, hb0, by omega⟩)
  have HG := Lib.hid (fun W (h : Below w.heap.size w W) => hG.below h)
  have HZ := Lib.hid (fun W (h : Below w.heap.size w W) => And.intro (hz.below h) (hz'.below h))
  have HA := Lib.hid (And.intro hA (And.intro hA' (And.intro hl hl')))
  have H0 := Lib.hid (awake_any σ τ ρ w4 (hG.below hb0))
  have Hre := Lib.hid (fun W => right_any W e A c hl)
  have Hrf := Lib.hid (fun W => right_any W f A' c' hl')
  have Hka := Lib.hid (fun W => known_any W a.idx a.term a.kind)
  have Hkb := Lib.hid (fun W => known_any W b.idx b.term b.kind)
  have Hka' := Lib.hid (fun W => known_any W (e.index - 1) a.term a.kind)
  have Hkb' := Lib.hid (fun W => known_any W (f.index - 1) b.term b.kind)
  unfold identV at Hka Hkb Hka' Hkb'
  obtain ⟨re, hre⟩ : ∃ r, rightB e = r := ⟨_, rfl⟩
  obtain ⟨rf, hrf⟩ : ∃ r, rightB f = r := ⟨_, rfl⟩
  obtain ⟨ka, hka⟩ : ∃ r, decide (knownI a.idx a.term a.kind) = r := ⟨_, rfl⟩
  obtain ⟨kb, hkb⟩ : ∃ r, decide (knownI b.idx b.term b.kind) = r := ⟨_, rfl⟩
  obtain ⟨ja, hja⟩ : ∃ r, decide (knownI (e.index - 1) a.term a.kind) = r := ⟨_, rfl⟩
  obtain ⟨jb, hjb⟩ : ∃ r, decide (knownI (f.index - 1) b.term b.kind) = r := ⟨_, rfl⟩
  rw [hre] at Hre
  rw [hrf] at Hrf
  rw [hka] at Hka
  rw [hkb] at Hkb
  rw [hja] at Hka'
  rw [hjb] at Hkb'
  have Ere := Lib.hid hre
  have Erf := Lib.hid hrf
  have Eja := Lib.hid hja
  have Ejb := Lib.hid hjb
  simp only [boxes] at hw4
  have Hw4 := Lib.hid hw4
  clear hb0 hs h0 h1 h2 h3 hw4 hz hz' hA hA' hl hl' hG hre hrf hka hkb hja hjb
  unfold IdentI.val entV
  go_enter Tryz.func5, Tryz.ntmps5
  go_wp2_with fail
  rw [Hw4.out]
  refine H0.out.mono ?_
  rintro r w5 ⟨rfl, b5⟩
  have K5 := Lib.hid (K4.out.on b5)
  clear b5 H0
  obtain ⟨e0, e1, e2, e3⟩ := K5.out.ce
  go_wp2_with fail
  refine (Hre.out _).mono ?_
  rintro r w6 ⟨rfl, b6⟩
  have K6 := Lib.hid (K5.out.on b6)
  clear b6 e0 e1 e2 e3
  cases re
  · go_wp2_with fail
    go_ret
    exact ⟨rfl, K6.out.bl⟩
  obtain ⟨e0, e1, e2, e3⟩ := K6.out.cf
  go_wp2_with fail
  refine (Hrf.out _).mono ?_
  rintro r w7 ⟨rfl, b7⟩
  have K7 := Lib.hid (K6.out.on b7)
  clear b7 e0 e1 e2 e3
  cases rf
  · go_wp2_with fail
    go_ret
    exact ⟨rfl, K7.out.bl⟩
  obtain ⟨i0, i1, i2, _⟩ := K7.out.a.three
  go_wp2_with fail
  refine (Hka.out _).mono ?_
  rintro r w8 ⟨rfl, b8⟩
  have K8 := Lib.hid (K7.out.on b8)
  clear b8 i0 i1 i2
  cases ka
  · go_wp2_with fail
    go_ret
    exact ⟨rfl, K8.out.bl⟩
  obtain ⟨i0, i1, i2, _⟩ := K8.out.b.three
  go_wp2_with fail
  refine (Hkb.out _).mono ?_
  rintro r w9 ⟨rfl, b9⟩
  have K9 := Lib.hid (K8.out.on b9)
  clear b9 i0 i1 i2
  cases kb
  · go_wp2_with fail
    go_ret
    exact ⟨rfl, K9.out.bl⟩
  have e0 := K9.out.ce.1
  have f0 := K9.out.cf.1
  have i0 := K9.out.a.cell 0
  have i1 := K9.out.b.cell 0
  have z0 := K9.out.a.free 0
  have z1 := K9.out.b.free 0
  obtain ⟨_, ⟨re0, re1⟩, _⟩ := ent_right Ere.out
  obtain ⟨_, ⟨rf0, rf1⟩, _⟩ := ent_right Erf.out
  go_wp2_with fail
  go_region
  have K10 := Lib.hid ((K9.out.set (e.index - 1) (f.index - 1)).1.on (Below.refl _ _).drew)
  clear e0 f0 i0 i1 z0 z1
  obtain ⟨w10, hw10⟩ : ∃ w10, ((w9.setCell ⟨w.heap.size, 0, none⟩ (.int .i64 (e.index - 1))).setCell ⟨w.heap.size + 1, 0, none⟩ (.int .i64 (f.index - 1))).drew = w10 := ⟨_, rfl⟩
  rw [hw10] at K10
  have Hw10 := Lib.hid hw10
  clear hw10
  obtain ⟨i0, i1, i2, _⟩ := K10.out.a.three
  rw [← Hw10.out] at i0 i1 i2
  go_wp2_with fail
  rw [Hw10.out]
  refine (Hka'.out _).mono ?_
  rintro r w11 ⟨rfl, b11⟩
  have K11 := Lib.hid (K10.out.on b11)
  clear b11 i0 i1 i2
  cases ja
  · go_wp2_with fail
    go_ret
    exact ⟨rfl, K11.out.bl⟩
  obtain ⟨i0, i1, i2, _⟩ := K11.out.b.three
  go_wp2_with fail
  refine (Hkb'.out _).mono ?_
  rintro r w12 ⟨rfl, b12⟩
  have K12 := Lib.hid (K11.out.on b12)
  clear b12 i0 i1 i2
  cases jb
  · go_wp2_with fail
    go_ret
    exact ⟨rfl, K12.out.bl⟩
  have ha : aheadI ⟨e.index - 1, a.term, a.kind⟩ e.index := ⟨of_decide_eq_true Eja.out, rfl⟩
  have hb : aheadI ⟨f.index - 1, b.term, b.kind⟩ f.index := ⟨of_decide_eq_true Ejb.out, rfl⟩
  have hre := Ere.out
  have hrf := Erf.out
  have hre4 := (ent_right hre).2.2.2
  have hrf4 := (ent_right hrf).2.2.2
  have ER : recordR ⟨e.index - 1, a.term, a.kind⟩ e = (recU ⟨e.index - 1, a.term, a.kind⟩ e, 0) := by unfold recordR; rw [if_neg (by rw [hre]; decide), if_neg (fun h => h ha)]
  have FR : recordR ⟨f.index - 1, b.term, b.kind⟩ f = (recU ⟨f.index - 1, b.term, b.kind⟩ f, 0) := by unfold recordR; rw [if_neg (by rw [hrf]; decide), if_neg (fun h => h hb)]
  have UR := recU_right (a := ⟨e.index - 1, a.term, a.kind⟩) hre
  have OE := of_rec hre ha
  have OX : ofR (sealB (recU ⟨e.index - 1, a.term, a.kind⟩ e)) (e.index + 1) = (noEnt, noIdent, 6) := by
    have h6 := of_rec_other (a := ⟨e.index - 1, a.term, a.kind⟩) hre (n := e.index + 1) (by omega) (by omega)
    obtain ⟨h1, h2⟩ := ofR_none (b := sealB (recU ⟨e.index - 1, a.term, a.kind⟩ e)) (n := e.index + 1) (by rw [h6]; decide)
    rw [← h1, ← h2, ← h6]
  have SS : sameU (recU ⟨e.index - 1, a.term, a.kind⟩ e) (recU ⟨f.index - 1, b.term, b.kind⟩ f) = ((decide (e.index - 1 = f.index - 1) && (decide (a.term = b.term) && decide (a.kind = b.kind))) && sameE e f) := by
    rw [Bool.eq_iff_iff, sameU_iff, rec_inj hre ha hrf hb]
    unfold sameE
    obtain ⟨x, y, z, l⟩ := e
    obtain ⟨x', y', z', l'⟩ := f
    simp
    constructor
    · rintro ⟨⟨h1, h2, h3, h4⟩, h5, h6, h7⟩
      exact ⟨⟨h5, h6, h7⟩, h1, h2, h3, h4⟩
    · rintro ⟨⟨h1, h2, h3⟩, h4, h5, h6, h7⟩
      exact ⟨⟨h4, h5, h6, h7⟩, h1, h2, h3⟩
  have UD := recordR_bd (a := ⟨e.index - 1, a.term, a.kind⟩) (HZ.out _ (Below.refl _ _)).1.1
  have VD := recordR_bd (a := ⟨f.index - 1, b.term, b.kind⟩) (HZ.out _ (Below.refl _ _)).2.1
  rw [ER] at UD
  rw [FR] at VD
  have US : sealR (recU ⟨e.index - 1, a.term, a.kind⟩ e) = (sealB (recU ⟨e.index - 1, a.term, a.kind⟩ e), 0) := by unfold sealR; rw [if_pos UR]
  have SL := seal_len UR.2.2
  have SD := seal_bd UR UD
  have R1 := Lib.hid (fun W (h : Below w.heap.size w W) => grecord_any ρ W (HG.out W h).q ⟨e.index - 1, a.term, a.kind⟩ e A c HA.out.2.2.1 (HZ.out W h).1 HA.out.1)
  have R2 := Lib.hid (fun W (h : Below w.heap.size w W) => grecord_any ρ W (HG.out W h).q ⟨f.index - 1, b.term, b.kind⟩ f A' c' HA.out.2.2.2 (HZ.out W h).2 HA.out.2.1)
  rw [ER] at R1
  rw [FR] at R2
  unfold IdentI.val at R1 R2
  obtain ⟨U, hU⟩ : ∃ U, recU ⟨e.index - 1, a.term, a.kind⟩ e = U := ⟨_, rfl⟩
  obtain ⟨V, hV⟩ : ∃ V, recU ⟨f.index - 1, b.term, b.kind⟩ f = V := ⟨_, rfl⟩
  rw [hU] at R1 SS UD US OE OX UR SL SD
  rw [hV] at R2 SS VD
  have UL : U.body.length ≤ 239 := UR.2.2
  have HRt := Lib.hid (fun W X k => uright_any W U X k)
  rw [decide_eq_true UR] at HRt
  have HSl := Lib.hid (fun W X k hz hc hm => lsealed_any W U X k hz hc hm)
  rw [US] at HSl
  have HSU := Lib.hid (fun W X Y k m hz hz' => sameUnit_any W U V X Y k m hz hz' (by omega))
  rw [SS] at HSU
  have HSE := Lib.hid (fun W => fun (h : Below w.heap.size w W) => sameEntry_any e f A A' c c' W (HZ.out W h).1 (HZ.out W h).2 HA.out.2.2.1)
  have HSP := Lib.hid (fun W (h : Below w.heap.size w W) X k (hx : BytesAt W X e.body) => sameEntry_any e e X A k c W hx (HZ.out W h).1 HA.out.2.2.1)
  rw [show sameE e e = true by unfold sameE; simp] at HSP
  have HO1 := Lib.hid (fun W (h : Below w.heap.size w W) X k (hz : BytesAt W X (sealB U)) (hk : 256 ≤ k) (hm : k ≤ 9223372036854775807) => gof_any σ τ ρ W (HG.out W h).c (HG.out W h).u (HG.out W h).q X (sealB U) k hz (by rw [SL]; exact hk) hm e.index (by omega))
  have HO2 := Lib.hid (fun W (h : Below w.heap.size w W) X k (hz : BytesAt W X (sealB U)) (hk : 256 ≤ k) (hm : k ≤ 9223372036854775807) => gof_any σ τ ρ W (HG.out W h).c (HG.out W h).u (HG.out W h).q X (sealB U) k hz (by rw [SL]; exact hk) hm (e.index + 1) (by omega))
  rw [OE] at HO1
  rw [OX] at HO2
  rw [SL] at HSl HO1 HO2
  have HD := Lib.hid (And.intro UD (And.intro VD SD))
  have HI := Lib.hid (And.intro re0 re1)
  unfold IdentI.val noEnt noIdent at HO2
  unfold IdentI.val at HO1
  unfold entV at HSE HSP
  unfold UnitV.val at HRt HSl HSU
  simp only at R1 R2 HO1 HO2
  obtain ⟨uk, un, ub⟩ := U
  obtain ⟨vk, vn, vb⟩ := V
  simp only at R1 R2 HRt HSl HSU HD
  generalize sealB ⟨uk, un, ub⟩ = sb at *
  clear ha hb hre hrf hre4 hrf4 ER FR UR OE OX SS UD VD US SL SD hU hV UL re0 re1 rf0 rf1 Hre Hrf Hka Hkb Hka' Hkb' Ere Erf Eja Ejb
  obtain ⟨i0, i1, i2, _⟩ := K12.out.a.three
  obtain ⟨e0, e1, e2, e3⟩ := K12.out.ce
  go_wp2_with fail
  refine (R1.out _ K12.out.bl).mono ?_
  rintro r w13 ⟨v, rfl, ho, b13⟩
  obtain ⟨X, kx, rfl, hkx, hmx⟩ := own_slice ho
  have hb14 := below_new w13 (.cells #[.int .i64 uk, .int .i64 un, .slice X ub.length kx] 34)
  have K14 := Lib.hid (K12.out.on (b13.trans (hb14.mono b13.size)))
  have U14 := Lib.hid (BlockIs.made w13 34 #[.int .i64 uk, .int .i64 un, .slice X ub.length kx])
  have X14 := Lib.hid ((own_reads ho HD.out.1).below hb14)
  have HX := Lib.hid (And.intro hkx (show kx ≤ 9223372036854775807 by unfold maxLen at hmx; omega))
  obtain ⟨w14, hw14⟩ : ∃ w14, w13.alloc (.cells #[.int .i64 uk, .int .i64 un, .slice X ub.length kx] 34) = w14 := ⟨_, rfl⟩
  rw [hw14] at K14 U14 X14
  have Hw14 := Lib.hid hw14
  clear ho b13 hkx hmx hb14 hw14 i0 i1 i2 e0 e1 e2 e3 R1
  obtain ⟨i0, i1, i2, _⟩ := K14.out.b.three
  obtain ⟨e0, e1, e2, e3⟩ := K14.out.cf
  rw [← Hw14.out] at i0 i1 i2 e0 e1 e2 e3
  go_wp2_with fail
  rw [Hw14.out]
  refine (R2.out _ K14.out.bl).mono ?_
  rintro r w15 ⟨v, rfl, ho, b15⟩
  obtain ⟨Y, ky, rfl, _, _⟩ := own_slice ho
  have hb16 := below_new w15 (.cells #[.int .i64 vk, .int .i64 vn, .slice Y vb.length ky] 34)
  have K16 := Lib.hid (K14.out.on (b15.trans (hb16.mono b15.size)))
  have U16 := Lib.hid (U14.out.below (b15.trans (hb16.mono b15.size)) U14.out.lt)
  have V16 := Lib.hid (BlockIs.made w15 34 #[.int .i64 vk, .int .i64 vn, .slice Y vb.length ky])
  have X16 := Lib.hid (X14.out.below (b15.trans (hb16.mono b15.size)))
  have Y16 := Lib.hid ((own_reads ho HD.out.2.1).below hb16)
  obtain ⟨w16, hw16⟩ : ∃ w16, w15.alloc (.cells #[.int .i64 vk, .int .i64 vn, .slice Y vb.length ky] 34) = w16 := ⟨_, rfl⟩
  rw [hw16] at K16 U16 V16 X16 Y16
  have Hw16 := Lib.hid hw16
  clear ho b15 hb16 hw16 i0 i1 i2 e0 e1 e2 e3 R2
  obtain ⟨u0, u1, u2, _⟩ := U16.out.three
  rw [← Hw16.out] at u0 u1 u2
  go_wp2_with fail
  rw [Hw16.out]
  refine (HRt.out _ _ _).mono ?_
  rintro r w17 ⟨rfl, b17⟩
  have K17 := Lib.hid (K16.out.on b17)
  have U17 := Lib.hid (U16.out.below b17 U16.out.lt)
  have V17 := Lib.hid (V16.out.below b17 V16.out.lt)
  have X17 := Lib.hid (X16.out.below b17)
  have Y17 := Lib.hid (Y16.out.below b17)
  clear b17 u0 u1 u2 HRt
  go_wp2_with fail
  refine Ssa.wp_region_ops (rgA w17 (.agg #[.int .i64 uk, .int .i64 un, .slice X ub.length kx]) (.pointer (some ⟨w.heap.size + 1 + 1, 0, none⟩)) e.index sb e ⟨e.index - 1, a.term, a.kind⟩ 0) (by kernel_rfl) (by kernel_rfl) (by kernel_rfl) (by kernel_rfl) (fun V => And.intro (RgI.start _) (fun h => by cases h)) ?_ ?_
  · intro hd
    refine Ssa.OpsInv.cons (Ssa.opInv rfl fun D V W hi hall K => ?_) ?_
    · exact Ssa.ov_val (Ssa.exec_load rfl (Ssa.evT rfl rfl) (unit_load (U17.out.below K.1.bl U17.out.lt))) (And.intro (RgI.op0 K.1) K.2)
    refine Ssa.OpsInv.cons (Ssa.opInv rfl fun D V W hi hall K => ?_) ?_
    · have d0 : D 0 = true := Ssa.dep hall 0 rfl rfl
      refine Ssa.ov_call (Ssa.exec_call rfl rfl (Ssa.evs_cons ((Ssa.evM hd 0 rfl rfl).trans (K.1.h0 d0)) Ssa.evs_nil) Tryz.func30 (by kernel_rfl) rfl) ((HSl.out W X kx (X17.out.below K.1.bl) HX.out.1 HX.out.2).mono ?_)
      rintro r w' ⟨v, rfl, ho, hb⟩
      obtain ⟨Z, cz, rfl, h1, h2⟩ := own_slice ho
      exact ⟨_, rfl, And.intro (RgI.op1 (K.1.world hb) (own_reads ho HD.out.2.2) h1 (by unfold maxLen at h2; omega)) K.2⟩
    refine Ssa.OpsInv.cons (Ssa.opInv rfl fun D V W hi hall K => ?_) ?_
    · exact Ssa.ov_val (Ssa.exec_field rfl (Ssa.evT rfl rfl) (entry_field _ W)) (And.intro (RgI.op2 K.1) K.2)
    refine Ssa.OpsInv.cons (Ssa.opInv rfl fun D V W hi hall K => ?_) ?_
    · have d2 : D 2 = true := Ssa.dep hall 0 rfl rfl
      exact Ssa.ov_val (Ssa.exec_load rfl ((Ssa.evM hd 2 rfl rfl).trans (K.1.h2 d2)) (int_load (K17.out.on K.1.bl).ce.1)) (And.intro (RgI.opN (RgI.op3 K.1)) K.2)
    refine Ssa.OpsInv.cons (Ssa.opInv rfl fun D V W hi hall K => ?_) ?_
    · have d1 : D 1 = true := Ssa.dep hall 0 rfl rfl
      have d3 : D 3 = true := Ssa.dep hall 1 rfl rfl
      obtain ⟨Z, cz, e1, hz, h1, h2⟩ := K.1.h1 d1 hi
      refine Ssa.ov_call (Ssa.exec_call rfl rfl (Ssa.evs_cons ((Ssa.evM hd 1 rfl rfl).trans e1) (Ssa.evs_cons ((Ssa.evM hd 3 rfl rfl).trans (K.1.hN d3)) Ssa.evs_nil)) Tryz.func29 (by kernel_rfl) rfl) ((HO1.out W (K17.out.on K.1.bl).bl Z cz hz h1 h2).mono ?_)
      rintro r w' ⟨v, rfl, hp, hb⟩
      obtain ⟨X2, c2, rfl, hx, _⟩ := hp.reads
      exact ⟨_, rfl, And.intro (RgI.opO (K.1.world hb) ⟨rfl, rfl, rfl, _, _, rfl, hx⟩) K.2⟩
    refine Ssa.OpsInv.cons (Ssa.opInv rfl fun D V W hi hall K => ?_) ?_
    · have d4 : D 4 = true := Ssa.dep hall 0 rfl rfl
      exact Ssa.ov_val (Ssa.exec_move (.inl rfl) (Ssa.evM hd 4 rfl rfl)) (And.intro (RgI.opM K.1 d4) K.2)
    refine Ssa.OpsInv.cons (Ssa.opInv rfl fun D V W hi hall K => ?_) ?_
    · have d5 : D 5 = true := Ssa.dep hall 0 rfl rfl
      obtain ⟨x, y, z, v, e1, k1⟩ := RgI.opE K.1 d5
      exact Ssa.ov_val (Ssa.exec_extract rfl ((Ssa.evM hd 5 rfl rfl).trans e1) rfl) (And.intro k1 K.2)
    refine Ssa.OpsInv.cons (Ssa.opInv rfl fun D V W hi hall K => ?_) ?_
    · have d5 : D 5 = true := Ssa.dep hall 0 rfl rfl
      obtain ⟨x, y, z, v, e1, _⟩ := K.1.hM d5
      exact Ssa.ov_val (Ssa.exec_extract rfl ((Ssa.evM hd 5 rfl rfl).trans e1) rfl) (And.intro (RgI.opI K.1) K.2)
    refine Ssa.OpsInv.cons (Ssa.opInv rfl fun D V W hi hall K => ?_) ?_
    · have d5 : D 5 = true := Ssa.dep hall 0 rfl rfl
      obtain ⟨x, y, z, v, e1, _⟩ := K.1.hM d5
      exact Ssa.ov_val (Ssa.exec_extract rfl ((Ssa.evM hd 5 rfl rfl).trans e1) rfl) (And.intro (RgI.opC K.1) K.2)
    refine Ssa.OpsInv.cons (Ssa.opInv rfl fun D V W hi hall K => ?_) ?_
    · exact Ssa.ov_val (Ssa.exec_alloc rfl (entry_new W)) (And.intro (RgI.opP K.1 hi) K.2)
    refine Ssa.OpsInv.cons (Ssa.opInv rfl fun D V W hi hall K => ?_) ?_
    · exact Ssa.ov_val (Ssa.exec_alloc rfl (ident_new W)) (And.intro (RgI.opQ K.1 hi) K.2)
    refine Ssa.OpsInv.cons (Ssa.opInv rfl fun D V W hi hall K => ?_) ?_
    · have d9 : D 9 = true := Ssa.dep hall 0 rfl rfl
      have d6 : D 6 = true := Ssa.dep hall 1 rfl rfl
      have d4 : D 4 = true := Ssa.dep hall 2 rfl rfl
      obtain ⟨p, x, y, z, v, e1, e2, hB, ⟨Xv, cv, rfl⟩, rfl, rfl, rfl, k1⟩ := RgI.storeP K.1 d4 d6 d9 hi
      exact Ssa.ov_skip (Ssa.exec_store rfl ((Ssa.evM hd 9 rfl rfl).trans e1) ((Ssa.evM hd 6 rfl rfl).trans e2) (entry_store hB)) (And.intro k1 K.2)
    refine Ssa.OpsInv.cons (Ssa.opInv rfl fun D V W hi hall K => ?_) ?_
    · have d10 : D 10 = true := Ssa.dep hall 0 rfl rfl
      have d7 : D 7 = true := Ssa.dep hall 1 rfl rfl
      have d11 : D 11 = true := Ssa.dep hall 2 rfl rfl
      obtain ⟨q, e1, e2, hB, k1⟩ := RgI.storeQ K.1 (K.1.sO d11) d7 d10 hi
      exact Ssa.ov_skip (Ssa.exec_store rfl ((Ssa.evM hd 10 rfl rfl).trans e1) ((Ssa.evM hd 7 rfl rfl).trans e2) (ident_store hB)) (And.intro k1 K.2)
    refine Ssa.OpsInv.cons (Ssa.opInv rfl fun D V W hi hall K => ?_) ?_
    · have d8 : D 8 = true := Ssa.dep hall 0 rfl rfl
      exact Ssa.ov_val (Ssa.exec_move (.inr rfl) ((Ssa.evM hd 8 rfl rfl).trans (K.1.hC d8))) (And.intro K.1 (fun _ => rfl))
    exact Ssa.OpsInv.nil
  intro D V w18 hall K
  obtain ⟨p, e1, _, _, e3⟩ := K.1.hP (hall 9 (by decide))
  obtain ⟨q, e4, _, _, e5⟩ := K.1.hQ (hall 10 (by decide))
  have e2 := e3 (hall 11 (by decide))
  have e6 := e5 (hall 12 (by decide))
  have e7 := K.2 (hall 13 (by decide))
  have hb := K.1.bl
  simp only [Ssa.mixV, Ssa.putV, List.setIfInBounds_toArray, List.set_cons_zero, List.set_cons_succ, Nat.zero_add, Nat.reduceAdd]
  rw [e1, e4, e7]
  have K18 := Lib.hid (K17.out.on hb)
  have U18 := Lib.hid (U17.out.below hb U17.out.lt)
  have V18 := Lib.hid (V17.out.below hb V17.out.lt)
  have X18 := Lib.hid (X17.out.below hb)
  have Y18 := Lib.hid (Y17.out.below hb)
  have P18 := Lib.hid e2
  have Q18 := Lib.hid e6
  clear e1 e2 e3 e4 e5 e6 e7 hb hall K
  go_wp2_with fail
  refine Ssa.wp_region_ops (rgB w18 (.agg #[.int .i64 uk, .int .i64 un, .slice X ub.length kx]) (.pointer (some ⟨w.heap.size + 1 + 1, 0, none⟩)) e.index (e.index + 1) sb noEnt noIdent 6) (by kernel_rfl) (by kernel_rfl) (by kernel_rfl) (by kernel_rfl) (fun V => And.intro (RgI.start _) (fun h => by cases h)) ?_ ?_
  · intro hd
    refine Ssa.OpsInv.cons (Ssa.opInv rfl fun D V W hi hall K => ?_) ?_
    · exact Ssa.ov_val (Ssa.exec_load rfl (Ssa.evT rfl rfl) (unit_load (U18.out.below K.1.bl U18.out.lt))) (And.intro (RgI.op0 K.1) K.2)
    refine Ssa.OpsInv.cons (Ssa.opInv rfl fun D V W hi hall K => ?_) ?_
    · have d0 : D 0 = true := Ssa.dep hall 0 rfl rfl
      refine Ssa.ov_call (Ssa.exec_call rfl rfl (Ssa.evs_cons ((Ssa.evM hd 0 rfl rfl).trans (K.1.h0 d0)) Ssa.evs_nil) Tryz.func30 (by kernel_rfl) rfl) ((HSl.out W X kx (X18.out.below K.1.bl) HX.out.1 HX.out.2).mono ?_)
      rintro r w' ⟨v, rfl, ho, hb⟩
      obtain ⟨Z, cz, rfl, h1, h2⟩ := own_slice ho
      exact ⟨_, rfl, And.intro (RgI.op1 (K.1.world hb) (own_reads ho HD.out.2.2) h1 (by unfold maxLen at h2; omega)) K.2⟩
    refine Ssa.OpsInv.cons (Ssa.opInv rfl fun D V W hi hall K => ?_) ?_
    · exact Ssa.ov_val (Ssa.exec_field rfl (Ssa.evT rfl rfl) (entry_field _ W)) (And.intro (RgI.op2 K.1) K.2)
    refine Ssa.OpsInv.cons (Ssa.opInv rfl fun D V W hi hall K => ?_) ?_
    · have d2 : D 2 = true := Ssa.dep hall 0 rfl rfl
      exact Ssa.ov_val (Ssa.exec_load rfl ((Ssa.evM hd 2 rfl rfl).trans (K.1.h2 d2)) (int_load (K18.out.on K.1.bl).ce.1)) (And.intro (RgI.op3 K.1) K.2)
    refine Ssa.OpsInv.cons (Ssa.opInv rfl fun D V W hi hall K => ?_) ?_
    · have d3 : D 3 = true := Ssa.dep hall 0 rfl rfl
      exact Ssa.ov_val (Ssa.exec_add rfl ((Ssa.evM hd 3 rfl rfl).trans (K.1.h3 d3)) rfl (wrap_one HI.out.1 HI.out.2)) (And.intro (RgI.opN K.1) K.2)
    refine Ssa.OpsInv.cons (Ssa.opInv rfl fun D V W hi hall K => ?_) ?_
    · have d1 : D 1 = true := Ssa.dep hall 0 rfl rfl
      have d4 : D 4 = true := Ssa.dep hall 1 rfl rfl
      obtain ⟨Z, cz, e1, hz, h1, h2⟩ := K.1.h1 d1 hi
      refine Ssa.ov_call (Ssa.exec_call rfl rfl (Ssa.evs_cons ((Ssa.evM hd 1 rfl rfl).trans e1) (Ssa.evs_cons ((Ssa.evM hd 4 rfl rfl).trans (K.1.hN d4)) Ssa.evs_nil)) Tryz.func29 (by kernel_rfl) rfl) ((HO2.out W (K18.out.on K.1.bl).bl Z cz hz h1 h2).mono ?_)
      rintro r w' ⟨v, rfl, hp, hb⟩
      obtain ⟨X2, c2, rfl, hx, _⟩ := hp.reads
      exact ⟨_, rfl, And.intro (RgI.opO (K.1.world hb) ⟨rfl, rfl, rfl, _, _, rfl, hx⟩) K.2⟩
    refine Ssa.OpsInv.cons (Ssa.opInv rfl fun D V W hi hall K => ?_) ?_
    · have d5 : D 5 = true := Ssa.dep hall 0 rfl rfl
      exact Ssa.ov_val (Ssa.exec_move (.inl rfl) (Ssa.evM hd 5 rfl rfl)) (And.intro (RgI.opM K.1 d5) K.2)
    refine Ssa.OpsInv.cons (Ssa.opInv rfl fun D V W hi hall K => ?_) ?_
    · have d6 : D 6 = true := Ssa.dep hall 0 rfl rfl
      obtain ⟨x, y, z, v, e1, k1⟩ := RgI.opE K.1 d6
      exact Ssa.ov_val (Ssa.exec_extract rfl ((Ssa.evM hd 6 rfl rfl).trans e1) rfl) (And.intro k1 K.2)
    refine Ssa.OpsInv.cons (Ssa.opInv rfl fun D V W hi hall K => ?_) ?_
    · have d6 : D 6 = true := Ssa.dep hall 0 rfl rfl
      obtain ⟨x, y, z, v, e1, _⟩ := K.1.hM d6
      exact Ssa.ov_val (Ssa.exec_extract rfl ((Ssa.evM hd 6 rfl rfl).trans e1) rfl) (And.intro (RgI.opI K.1) K.2)
    refine Ssa.OpsInv.cons (Ssa.opInv rfl fun D V W hi hall K => ?_) ?_
    · have d6 : D 6 = true := Ssa.dep hall 0 rfl rfl
      obtain ⟨x, y, z, v, e1, _⟩ := K.1.hM d6
      exact Ssa.ov_val (Ssa.exec_extract rfl ((Ssa.evM hd 6 rfl rfl).trans e1) rfl) (And.intro (RgI.opC K.1) K.2)
    refine Ssa.OpsInv.cons (Ssa.opInv rfl fun D V W hi hall K => ?_) ?_
    · exact Ssa.ov_val (Ssa.exec_alloc rfl (entry_new W)) (And.intro (RgI.opP K.1 hi) K.2)
    refine Ssa.OpsInv.cons (Ssa.opInv rfl fun D V W hi hall K => ?_) ?_
    · exact Ssa.ov_val (Ssa.exec_alloc rfl (ident_new W)) (And.intro (RgI.opQ K.1 hi) K.2)
    refine Ssa.OpsInv.cons (Ssa.opInv rfl fun D V W hi hall K => ?_) ?_
    · have d10 : D 10 = true := Ssa.dep hall 0 rfl rfl
      have d7 : D 7 = true := Ssa.dep hall 1 rfl rfl
      have d5 : D 5 = true := Ssa.dep hall 2 rfl rfl
      obtain ⟨p, x, y, z, v, e1, e2, hB, ⟨Xv, cv, rfl⟩, rfl, rfl, rfl, k1⟩ := RgI.storeP K.1 d5 d7 d10 hi
      exact Ssa.ov_skip (Ssa.exec_store rfl ((Ssa.evM hd 10 rfl rfl).trans e1) ((Ssa.evM hd 7 rfl rfl).trans e2) (entry_store hB)) (And.intro k1 K.2)
    refine Ssa.OpsInv.cons (Ssa.opInv rfl fun D V W hi hall K => ?_) ?_
    · have d11 : D 11 = true := Ssa.dep hall 0 rfl rfl
      have d8 : D 8 = true := Ssa.dep hall 1 rfl rfl
      have d12 : D 12 = true := Ssa.dep hall 2 rfl rfl
      obtain ⟨q, e1, e2, hB, k1⟩ := RgI.storeQ K.1 (K.1.sO d12) d8 d11 hi
      exact Ssa.ov_skip (Ssa.exec_store rfl ((Ssa.evM hd 11 rfl rfl).trans e1) ((Ssa.evM hd 8 rfl rfl).trans e2) (ident_store hB)) (And.intro k1 K.2)
    refine Ssa.OpsInv.cons (Ssa.opInv rfl fun D V W hi hall K => ?_) ?_
    · have d9 : D 9 = true := Ssa.dep hall 0 rfl rfl
      exact Ssa.ov_val (Ssa.exec_move (.inr rfl) ((Ssa.evM hd 9 rfl rfl).trans (K.1.hC d9))) (And.intro K.1 (fun _ => rfl))
    exact Ssa.OpsInv.nil
  intro D V w19 hall K
  obtain ⟨p2, e1, _, _, e3⟩ := K.1.hP (hall 10 (by decide))
  obtain ⟨q2, e4, _, _, e5⟩ := K.1.hQ (hall 11 (by decide))
  have e2 := e3 (hall 12 (by decide))
  have e6 := e5 (hall 13 (by decide))
  have e7 := K.2 (hall 14 (by decide))
  have hb := K.1.bl
  simp only [Ssa.mixV, Ssa.putV, List.setIfInBounds_toArray, List.set_cons_zero, List.set_cons_succ, Nat.zero_add, Nat.reduceAdd]
  rw [e1, e4, e7]
  have K19 := Lib.hid (K18.out.on hb)
  have U19 := Lib.hid (U18.out.below hb U18.out.lt)
  have V19 := Lib.hid (V18.out.below hb V18.out.lt)
  have X19 := Lib.hid (X18.out.below hb)
  have Y19 := Lib.hid (Y18.out.below hb)
  have P19 := Lib.hid (show ∃ X c, BlockIs w19 p 50 #[.int .i64 e.index, .int .i64 e.term, .int .i64 e.kind, .slice X e.body.length c] ∧ BytesAt w19 X e.body by
    obtain ⟨x, y, z, v, h1, rfl, rfl, rfl, X2, c2, rfl, h2⟩ := P18.out
    exact ⟨X2, c2, h1.below hb h1.lt, h2.below hb⟩)
  have Q19 := Lib.hid (Q18.out.below hb Q18.out.lt)
  clear e1 e2 e3 e4 e5 e6 e7 hb hall K P18 Q18 K18 U18 V18 X18 Y18 K17 U17 V17 X17 Y17 HO1 HO2 HSl
  obtain ⟨a0, a1, a2, _⟩ := K19.out.a.three
  obtain ⟨b0, b1, b2, _⟩ := K19.out.b.three
  obtain ⟨e0, e1, e2, e3⟩ := K19.out.ce
  by_cases hq : e.index - 1 = f.index - 1 ∧ a.term = b.term ∧ a.kind = b.kind
  · obtain ⟨h1, h2, h3⟩ := hq
    simp only [h1, h2, h3, decide_true, Bool.true_and] at HSU
    rw [← h1] at b0
    rw [← h2] at b1
    rw [← h3] at b2
    clear h1 h2 h3
    obtain ⟨f0, f1, f2, f3⟩ := K19.out.cf
    go_wp2_with fail
    refine (HSE.out _ K19.out.bl).mono ?_
    rintro r w20 ⟨rfl, b20⟩
    have K20 := Lib.hid (K19.out.on b20)
    have U20 := Lib.hid (U19.out.below b20 U19.out.lt)
    have V20 := Lib.hid (V19.out.below b20 V19.out.lt)
    have X20 := Lib.hid (X19.out.below b20)
    have Y20 := Lib.hid (Y19.out.below b20)
    have Q20 := Lib.hid (Q19.out.below b20 Q19.out.lt)
    have P20 := Lib.hid (show ∃ X c, BlockIs w20 p 50 #[.int .i64 e.index, .int .i64 e.term, .int .i64 e.kind, .slice X e.body.length c] ∧ BytesAt w20 X e.body by
      obtain ⟨X2, c2, h1, h2⟩ := P19.out
      exact ⟨X2, c2, h1.below b20 h1.lt, h2.below b20⟩)
    clear b20 f0 f1 f2 f3 a0 a1 a2 b0 b1 b2 e0 e1 e2 e3 K19 U19 V19 X19 Y19 Q19 P19
    obtain ⟨e0, e1, e2, e3⟩ := K20.out.ce
    obtain ⟨X2, c2, hP, hX2⟩ := P20.out
    have p0 := hP.cell 0
    have p1 := hP.cell 1
    have p2c := hP.cell 2
    have p3 := hP.cell 3
    have HX2 := Lib.hid hX2
    have HP2 := Lib.hid hP
    clear hX2 hP
    obtain ⟨ss, hss⟩ : ∃ x, sameE e f = x := ⟨_, rfl⟩
    rw [hss] at HSU
    rw [hss]
    clear hss
    go_wp2_with fail
    refine (HSP.out _ K20.out.bl _ _ HX2.out).mono ?_
    rintro r w21 ⟨rfl, b21⟩
    have K21 := Lib.hid (K20.out.on b21)
    have X21 := Lib.hid (X20.out.below b21)
    have Y21 := Lib.hid (Y20.out.below b21)
    obtain ⟨u0, u1, u2, _⟩ := (U20.out.below b21 U20.out.lt).three
    obtain ⟨v0, v1, v2, _⟩ := (V20.out.below b21 V20.out.lt).three
    obtain ⟨q0, q1, q2, _⟩ := (Q20.out.below b21 Q20.out.lt).three
    obtain ⟨a0, a1, a2, _⟩ := K21.out.a.three
    clear b21
    go_wp2_with fail
    refine (HSU.out _ _ _ _ _ X21.out Y21.out).mono ?_
    rintro r w22 ⟨rfl, b22⟩
    have B22 := Lib.hid (K21.out.bl.trans (b22.mono K21.out.bl.size))
    clear b22 u0 u1 u2 v0 v1 v2 q0 q1 q2 a0 a1 a2
    go_wp2_with fail
    go_ret
    exact ⟨by simp, B22.out⟩
  · have hn : (decide (e.index - 1 = f.index - 1) && (decide (a.term = b.term) && decide (a.kind = b.kind))) = false := by
      rw [Bool.eq_false_iff]
      intro h
      simp only [Bool.and_eq_true, decide_eq_true_eq] at h
      exact hq h
    rw [hn, Bool.false_and] at HSU
    have hd : e.index - 1 ≠ f.index - 1 ∨ (e.index - 1 = f.index - 1 ∧ a.term ≠ b.term) ∨ (e.index - 1 = f.index - 1 ∧ a.term = b.term ∧ a.kind ≠ b.kind) := by
      by_cases h1 : e.index - 1 = f.index - 1
      · by_cases h2 : a.term = b.term
        · exact .inr (.inr ⟨h1, h2, fun h3 => hq ⟨h1, h2, h3⟩⟩)
        · exact .inr (.inl ⟨h1, h2⟩)
      · exact .inl h1
    clear hn hq
    obtain ⟨X2, c2, hP, hX2⟩ := P19.out
    have p0 := hP.cell 0
    have p1 := hP.cell 1
    have p2c := hP.cell 2
    have p3 := hP.cell 3
    have HX2 := Lib.hid hX2
    have HP2 := Lib.hid hP
    clear hX2 hP
    rcases hd with h1 | ⟨h1, h2⟩ | ⟨h1, h2, h3⟩
    · go_wp2_with fail
      clear a0 a1 a2 b0 b1 b2
      refine (HSP.out _ K19.out.bl _ _ HX2.out).mono ?_
      rintro r w20 ⟨rfl, b20⟩
      have K20 := Lib.hid (K19.out.on b20)
      have X20 := Lib.hid (X19.out.below b20)
      have Y20 := Lib.hid (Y19.out.below b20)
      obtain ⟨u0, u1, u2, _⟩ := (U19.out.below b20 U19.out.lt).three
      obtain ⟨v0, v1, v2, _⟩ := (V19.out.below b20 V19.out.lt).three
      obtain ⟨q0, q1, q2, _⟩ := (Q19.out.below b20 Q19.out.lt).three
      obtain ⟨a0, a1, a2, _⟩ := K20.out.a.three
      clear b20 p0 p1 p2c p3 e0 e1 e2 e3
      go_wp2_with fail
      refine (HSU.out _ _ _ _ _ X20.out Y20.out).mono ?_
      rintro r w21 ⟨rfl, b21⟩
      have B21 := Lib.hid (K20.out.bl.trans (b21.mono K20.out.bl.size))
      clear b21 u0 u1 u2 v0 v1 v2 q0 q1 q2 a0 a1 a2
      go_wp2_with fail
      go_ret
      exact ⟨by simp, B21.out⟩
    · rw [← h1] at b0
      clear h1
      go_wp2_with fail
      clear a0 a1 a2 b0 b1 b2
      refine (HSP.out _ K19.out.bl _ _ HX2.out).mono ?_
      rintro r w20 ⟨rfl, b20⟩
      have K20 := Lib.hid (K19.out.on b20)
      have X20 := Lib.hid (X19.out.below b20)
      have Y20 := Lib.hid (Y19.out.below b20)
      obtain ⟨u0, u1, u2, _⟩ := (U19.out.below b20 U19.out.lt).three
      obtain ⟨v0, v1, v2, _⟩ := (V19.out.below b20 V19.out.lt).three
      obtain ⟨q0, q1, q2, _⟩ := (Q19.out.below b20 Q19.out.lt).three
      obtain ⟨a0, a1, a2, _⟩ := K20.out.a.three
      clear b20 p0 p1 p2c p3 e0 e1 e2 e3
      go_wp2_with fail
      refine (HSU.out _ _ _ _ _ X20.out Y20.out).mono ?_
      rintro r w21 ⟨rfl, b21⟩
      have B21 := Lib.hid (K20.out.bl.trans (b21.mono K20.out.bl.size))
      clear b21 u0 u1 u2 v0 v1 v2 q0 q1 q2 a0 a1 a2
      go_wp2_with fail
      go_ret
      exact ⟨by simp, B21.out⟩
    · rw [← h1] at b0
      rw [← h2] at b1
      clear h1 h2
      go_wp2_with fail
      clear a0 a1 a2 b0 b1 b2
      refine (HSP.out _ K19.out.bl _ _ HX2.out).mono ?_
      rintro r w20 ⟨rfl, b20⟩
      have K20 := Lib.hid (K19.out.on b20)
      have X20 := Lib.hid (X19.out.below b20)
      have Y20 := Lib.hid (Y19.out.below b20)
      obtain ⟨u0, u1, u2, _⟩ := (U19.out.below b20 U19.out.lt).three
      obtain ⟨v0, v1, v2, _⟩ := (V19.out.below b20 V19.out.lt).three
      obtain ⟨q0, q1, q2, _⟩ := (Q19.out.below b20 Q19.out.lt).three
      obtain ⟨a0, a1, a2, _⟩ := K20.out.a.three
      clear b20 p0 p1 p2c p3 e0 e1 e2 e3
      go_wp2_with fail
      refine (HSU.out _ _ _ _ _ X20.out Y20.out).mono ?_
      rintro r w21 ⟨rfl, b21⟩
      have B21 := Lib.hid (K20.out.bl.trans (b21.mono K20.out.bl.size))
      clear b21 u0 u1 u2 v0 v1 v2 q0 q1 q2 a0 a1 a2
      go_wp2_with fail
      go_ret
      exact ⟨by simp, B21.out⟩
end Go.Proofs.YtpdfmpegcejmkaaGreatDoor
