/- What a block must have besides its fields. -/
/- A block's reader: is the sum another one; the fields behind it. -/
import Derived.Test.YtpdfmpegcejmkaaGreatDoorMixShift
import Derived.Test.YtpdfmpegcejmkaaGreatDoorUnitReader
namespace Go.Proofs.YtpdfmpegcejmkaaGreatDoor
open Go.RowKit
theorem code_pos (σ : SenU) (a : Addr) : σ.code a ≠ 0 := by unfold SenU.code; split; decide; split <;> decide
theorem FlawOf.zero {σ : SenU} {v : Value} (h : FlawOf σ 0 v) : v = .nilIface := by
  rcases h with ⟨_, rfl⟩ | ⟨pos, a, rfl, _, e⟩
  · rfl
  · exact absurd e.symm (code_pos σ a)
theorem FlawOf.some_ {σ : SenU} {k : Int} {v : Value} (hk : k ≠ 0) (h : FlawOf σ k v) : ∃ pos a, v = flawV pos a ∧ FlawOf σ k (flawV pos a) := by
  rcases h with ⟨e, _⟩ | ⟨pos, a, rfl, h⟩
  · exact absurd e hk
  · exact ⟨pos, a, rfl, .inr ⟨pos, a, rfl, h⟩⟩
theorem FlawOf.four {σ : SenU} {v : Value} (h : FlawOf σ 4 v) : ∃ pos a, v = flawV pos a ∧ FlawOf σ 4 (flawV pos a) := h.some_ (by decide)
/-- bare, at two numbers. -/
def BareC (σ : SenU) (q : Option Addr) (b0 off c : Nat) (b : List Int) (w : World) (x y : Int) (i j : Nat) : Prop :=
  Calls Tryz.prog 179 #[.agg #[.pointer q, .slice (some ⟨b0, off, none⟩) 256 c], .int .i64 x, .int .i64 y] w fun e w' => ∃ v k, e = .returned v ∧ FlawOf σ k v ∧ ((Noughts b i j ∧ k = 0) ∨ (¬ Noughts b i j ∧ k = 4)) ∧ Below w.heap.size w w'
set_option maxRecDepth 100000 in
set_option maxHeartbeats 4000000 in
theorem lack_any (σ : SenU) (w : World) (hG : GlU σ w) (q : Option Addr) (b0 off : Nat) (b : List Int) (c many : Nat) (hb : BytesAt w (some ⟨b0, off, none⟩) b) (hl : b.length = 256) (hc : 256 ≤ c) (hm : c ≤ 9223372036854775807) (hmany : many ≤ 255) :
    Calls Tryz.prog 177 #[.agg #[.pointer q, .slice (some ⟨b0, off, none⟩) 256 c], .int .i64 (many : Int)] w fun e w' => ∃ v k, e = .returned v ∧ FlawOf σ k v ∧ ((lackOk b many ∧ k = 0) ∨ (¬ lackOk b many ∧ k = 4)) ∧ Below w.heap.size w w' := by
  have hbn := below_new w (.cells #[.pointer q, .slice (some ⟨b0, off, none⟩) 256 c] 273)
  obtain ⟨d0, d1⟩ := row2_cells w (.pointer q) (.slice (some ⟨b0, off, none⟩) 256 c) 273
  have HP := Lib.hid (parted_any (w.alloc (.cells #[.pointer q, .slice (some ⟨b0, off, none⟩) 256 c] 273)) many (by omega))
  have HB1 := Lib.hid (hb.below hbn)
  have HG1 := Lib.hid (hG.below hbn)
  have HD := Lib.hid (And.intro d0 d1)
  have Hb0 := Lib.hid hbn
  have Hl := Lib.hid hl
  have g1 := (hG.below hbn).bd
  unfold errK at g1
  clear hb hG hbn hl
  obtain ⟨w1, hw1⟩ : ∃ w1, w.alloc (.cells #[.pointer q, .slice (some ⟨b0, off, none⟩) 256 c] 273) = w1 := ⟨_, rfl⟩
  rw [hw1] at d0 d1 HP HB1 HG1 HD Hb0 g1
  have HBr := Lib.hid (fun (w' : World) (hb' : Below w1.heap.size w1 w') (x y : Int) (i j : Nat) (hij : i ≤ j) (hj : j < 256) (hx : x = (i : Int)) (hy : y = (j : Int)) => (show BareC σ q b0 off c b w' x y i j by
    subst hx hy
    exact bare_any σ w' (HG1.out.below hb') q b0 off b c i j (HB1.out.below hb') Hl.out hc hm hij hj))
  have Hw1 := Lib.hid hw1
  clear hw1
  by_cases h239 : 239 < many
  · have h239i : (239 : Int) < (many : Int) := by omega
    go_enter Tryz.func177, Tryz.ntmps177
    go_wp2_with fail
    rw [Hw1.out]
    refine HP.out.mono ?_
    rintro e w' ⟨rfl, rfl⟩
    go_wp2_with fail
    go_ret
    first
      | exact ⟨_, 4, rfl, HG1.out.flaw_bd 7, .inr ⟨fun hh => by have := hh.1; omega, rfl⟩, Hb0.out⟩
      | exact ⟨_, rfl, 4, HG1.out.flaw_bd 7, .inr ⟨fun hh => by have := hh.1; omega, rfl⟩, Hb0.out⟩
  · have h239i : ¬ (239 : Int) < (many : Int) := by omega
    by_cases h20 : many ≤ 20
    · have e1 : min many 20 = many := Nat.min_eq_left h20
      have e2 : many - 20 = 0 := Nat.sub_eq_zero_of_le h20
      rw [e1, e2] at HP
      go_enter Tryz.func177, Tryz.ntmps177
      go_wp2_with fail
      rw [Hw1.out]
      refine HP.out.mono ?_
      rintro e w' ⟨rfl, rfl⟩
      have hb1 := Below.refl w1.heap.size w1
      clear g1 d0 d1
      have HX := Lib.hid (HBr.out w1 hb1 (8 + (many : Int)) 28 (8 + many) 28 (by omega) (by decide) (by omega) rfl)
      unfold BareC at HX
      have d0 := cell_below HD.out.1 hb1
      have d1 := cell_below HD.out.2 hb1
      go_wp2_with fail
      clear d0 d1
      refine HX.out.mono ?_
      rintro e w5 ⟨v, k, rfl, hF, hN, hb'⟩
      have hb5 := (hb1).trans (hb'.mono (hb1).size)
      clear HX hb'
      by_cases hw5 : Noughts b (8 + many) 28
      rotate_left
      · obtain ⟨pos, a, rfl, ha⟩ := FlawOf.four (show FlawOf σ 4 v by rcases hN with ⟨h, _⟩ | ⟨_, rfl⟩; exact absurd h hw5; exact hF)
        have hbz := Lib.hid hb5
        have Hh := Lib.hid hw5
        clear hF hN hw5
        go_wp2_with fail
        go_ret
        first
          | exact ⟨_, 4, rfl, ha, .inr ⟨fun hh => Hh.out (hh.2.1 h20), rfl⟩, Hb0.out.trans (hbz.out.mono Hb0.out.size)⟩
          | exact ⟨_, rfl, 4, ha, .inr ⟨fun hh => Hh.out (hh.2.1 h20), rfl⟩, Hb0.out.trans (hbz.out.mono Hb0.out.size)⟩
      obtain rfl := FlawOf.zero (show FlawOf σ 0 v by rcases hN with ⟨_, rfl⟩ | ⟨h, _⟩; exact hF; exact absurd hw5 h)
      have Hw5 := Lib.hid hw5
      clear hF hN hw5
      have HX := Lib.hid (HBr.out w5 hb5 32 36 (32) 36 (by decide) (by decide) rfl rfl)
      unfold BareC at HX
      have d0 := cell_below HD.out.1 hb5
      have d1 := cell_below HD.out.2 hb5
      go_wp2_with fail
      clear d0 d1
      refine HX.out.mono ?_
      rintro e w6 ⟨v, k, rfl, hF, hN, hb'⟩
      have hb6 := (hb5).trans (hb'.mono (hb5).size)
      clear HX hb'
      by_cases hw6 : Noughts b 32 36
      rotate_left
      · obtain ⟨pos, a, rfl, ha⟩ := FlawOf.four (show FlawOf σ 4 v by rcases hN with ⟨h, _⟩ | ⟨_, rfl⟩; exact absurd h hw6; exact hF)
        have hbz := Lib.hid hb6
        have Hh := Lib.hid hw6
        clear hF hN hw6
        go_wp2_with fail
        go_ret
        first
          | exact ⟨_, 4, rfl, ha, .inr ⟨fun hh => Hh.out (hh.2.2.1), rfl⟩, Hb0.out.trans (hbz.out.mono Hb0.out.size)⟩
          | exact ⟨_, rfl, 4, ha, .inr ⟨fun hh => Hh.out (hh.2.2.1), rfl⟩, Hb0.out.trans (hbz.out.mono Hb0.out.size)⟩
      obtain rfl := FlawOf.zero (show FlawOf σ 0 v by rcases hN with ⟨_, rfl⟩ | ⟨h, _⟩; exact hF; exact absurd hw6 h)
      have Hw6 := Lib.hid hw6
      clear hF hN hw6
      have HX := Lib.hid (HBr.out w6 hb6 36 255 (36 + (many - 20)) 255 (by omega) (by decide) (by omega) rfl)
      unfold BareC at HX
      have d0 := cell_below HD.out.1 hb6
      have d1 := cell_below HD.out.2 hb6
      go_wp2_with fail
      clear d0 d1
      refine HX.out.mono ?_
      rintro e w7 ⟨v, k, rfl, hF, hN, hb'⟩
      have hb7 := (hb6).trans (hb'.mono (hb6).size)
      clear HX hb'
      by_cases hw7 : Noughts b (36 + (many - 20)) 255
      rotate_left
      · obtain ⟨pos, a, rfl, ha⟩ := FlawOf.four (show FlawOf σ 4 v by rcases hN with ⟨h, _⟩ | ⟨_, rfl⟩; exact absurd h hw7; exact hF)
        have hbz := Lib.hid hb7
        have Hh := Lib.hid hw7
        clear hF hN hw7
        go_wp2_with fail
        go_ret
        first
          | exact ⟨_, 4, rfl, ha, .inr ⟨fun hh => Hh.out (hh.2.2.2.1), rfl⟩, Hb0.out.trans (hbz.out.mono Hb0.out.size)⟩
          | exact ⟨_, rfl, 4, ha, .inr ⟨fun hh => Hh.out (hh.2.2.2.1), rfl⟩, Hb0.out.trans (hbz.out.mono Hb0.out.size)⟩
      obtain rfl := FlawOf.zero (show FlawOf σ 0 v by rcases hN with ⟨_, rfl⟩ | ⟨h, _⟩; exact hF; exact absurd hw7 h)
      have Hw7 := Lib.hid hw7
      clear hF hN hw7
      have d0 := cell_below HD.out.1 hb7
      have d1 := cell_below HD.out.2 hb7
      have c255 := (HB1.out.below hb7).one 255 (by rw [Hl.out]; decide)
      have g7 := (HG1.out.below hb7).en
      have HG7 := Lib.hid (HG1.out.below hb7)
      unfold errK at g7
      have Hb7 := Lib.hid hb7
      obtain ⟨z, hz⟩ : ∃ z, b.getD 255 0 = z := ⟨_, rfl⟩
      rw [hz] at c255
      have HZ := Lib.hid hz
      clear hz hb6 hb7
      by_cases he : z = 0
      · subst he
        go_wp2_with fail
        go_ret
        have hok : lackOk b many := ⟨by omega, fun h => by exact Hw5.out, Hw6.out, Hw7.out, by rw [HZ.out, if_neg (by omega)]⟩
        first
          | exact ⟨_, 0, rfl, FlawOf.none σ, .inl ⟨hok, rfl⟩, Hb0.out.trans (Hb7.out.mono Hb0.out.size)⟩
          | exact ⟨_, rfl, 0, FlawOf.none σ, .inl ⟨hok, rfl⟩, Hb0.out.trans (Hb7.out.mono Hb0.out.size)⟩
      · have he1 : (z != 0) = true := by simpa using he
        have He := Lib.hid he
        clear he
        go_wp2_with fail
        go_ret
        have hno : ¬ lackOk b many := fun hh => by
          have h5 := hh.2.2.2.2
          rw [HZ.out, if_neg (by omega)] at h5
          exact He.out h5
        first
          | exact ⟨_, 4, rfl, HG7.out.flaw_en 255, .inr ⟨hno, rfl⟩, Hb0.out.trans (Hb7.out.mono Hb0.out.size)⟩
          | exact ⟨_, rfl, 4, HG7.out.flaw_en 255, .inr ⟨hno, rfl⟩, Hb0.out.trans (Hb7.out.mono Hb0.out.size)⟩
    · have hbk : ¬ ((many - 20 : Nat) : Int) = 0 := by omega
      have hbk1 : (((many - 20 : Nat) : Int) == 0) = false := beq_eq_false_iff_ne.2 hbk
      go_enter Tryz.func177, Tryz.ntmps177
      go_wp2_with fail
      rw [Hw1.out]
      refine HP.out.mono ?_
      rintro e w' ⟨rfl, rfl⟩
      have hb1 := Below.refl w1.heap.size w1
      clear g1 d0 d1
      have HX := Lib.hid (HBr.out w1 hb1 32 36 (32) 36 (by decide) (by decide) rfl rfl)
      unfold BareC at HX
      have d0 := cell_below HD.out.1 hb1
      have d1 := cell_below HD.out.2 hb1
      go_wp2_with fail
      clear d0 d1
      refine HX.out.mono ?_
      rintro e w6 ⟨v, k, rfl, hF, hN, hb'⟩
      have hb6 := (hb1).trans (hb'.mono (hb1).size)
      clear HX hb'
      by_cases hw6 : Noughts b 32 36
      rotate_left
      · obtain ⟨pos, a, rfl, ha⟩ := FlawOf.four (show FlawOf σ 4 v by rcases hN with ⟨h, _⟩ | ⟨_, rfl⟩; exact absurd h hw6; exact hF)
        have hbz := Lib.hid hb6
        have Hh := Lib.hid hw6
        clear hF hN hw6
        go_wp2_with fail
        go_ret
        first
          | exact ⟨_, 4, rfl, ha, .inr ⟨fun hh => Hh.out (hh.2.2.1), rfl⟩, Hb0.out.trans (hbz.out.mono Hb0.out.size)⟩
          | exact ⟨_, rfl, 4, ha, .inr ⟨fun hh => Hh.out (hh.2.2.1), rfl⟩, Hb0.out.trans (hbz.out.mono Hb0.out.size)⟩
      obtain rfl := FlawOf.zero (show FlawOf σ 0 v by rcases hN with ⟨_, rfl⟩ | ⟨h, _⟩; exact hF; exact absurd hw6 h)
      have Hw6 := Lib.hid hw6
      clear hF hN hw6
      have HX := Lib.hid (HBr.out w6 hb6 (36 + ((many - 20 : Nat) : Int)) 255 (36 + (many - 20)) 255 (by omega) (by decide) (by omega) rfl)
      unfold BareC at HX
      have d0 := cell_below HD.out.1 hb6
      have d1 := cell_below HD.out.2 hb6
      go_wp2_with fail
      clear d0 d1
      refine HX.out.mono ?_
      rintro e w7 ⟨v, k, rfl, hF, hN, hb'⟩
      have hb7 := (hb6).trans (hb'.mono (hb6).size)
      clear HX hb'
      by_cases hw7 : Noughts b (36 + (many - 20)) 255
      rotate_left
      · obtain ⟨pos, a, rfl, ha⟩ := FlawOf.four (show FlawOf σ 4 v by rcases hN with ⟨h, _⟩ | ⟨_, rfl⟩; exact absurd h hw7; exact hF)
        have hbz := Lib.hid hb7
        have Hh := Lib.hid hw7
        clear hF hN hw7
        go_wp2_with fail
        go_ret
        first
          | exact ⟨_, 4, rfl, ha, .inr ⟨fun hh => Hh.out (hh.2.2.2.1), rfl⟩, Hb0.out.trans (hbz.out.mono Hb0.out.size)⟩
          | exact ⟨_, rfl, 4, ha, .inr ⟨fun hh => Hh.out (hh.2.2.2.1), rfl⟩, Hb0.out.trans (hbz.out.mono Hb0.out.size)⟩
      obtain rfl := FlawOf.zero (show FlawOf σ 0 v by rcases hN with ⟨_, rfl⟩ | ⟨h, _⟩; exact hF; exact absurd hw7 h)
      have Hw7 := Lib.hid hw7
      clear hF hN hw7
      have d0 := cell_below HD.out.1 hb7
      have d1 := cell_below HD.out.2 hb7
      have c255 := (HB1.out.below hb7).one 255 (by rw [Hl.out]; decide)
      have g7 := (HG1.out.below hb7).en
      have HG7 := Lib.hid (HG1.out.below hb7)
      unfold errK at g7
      have Hb7 := Lib.hid hb7
      obtain ⟨z, hz⟩ : ∃ z, b.getD 255 0 = z := ⟨_, rfl⟩
      rw [hz] at c255
      have HZ := Lib.hid hz
      clear hz hb6 hb7
      by_cases he : z = 1
      · subst he
        go_wp2_with fail
        go_ret
        have hok : lackOk b many := ⟨by omega, fun h => by omega, Hw6.out, Hw7.out, by rw [HZ.out, if_pos (by omega)]⟩
        first
          | exact ⟨_, 0, rfl, FlawOf.none σ, .inl ⟨hok, rfl⟩, Hb0.out.trans (Hb7.out.mono Hb0.out.size)⟩
          | exact ⟨_, rfl, 0, FlawOf.none σ, .inl ⟨hok, rfl⟩, Hb0.out.trans (Hb7.out.mono Hb0.out.size)⟩
      · have he1 : (z != 1) = true := by simpa using he
        have He := Lib.hid he
        clear he
        go_wp2_with fail
        go_ret
        have hno : ¬ lackOk b many := fun hh => by
          have h5 := hh.2.2.2.2
          rw [HZ.out, if_pos (by omega)] at h5
          exact He.out h5
        first
          | exact ⟨_, 4, rfl, HG7.out.flaw_en 255, .inr ⟨hno, rfl⟩, Hb0.out.trans (Hb7.out.mono Hb0.out.size)⟩
          | exact ⟨_, rfl, 4, HG7.out.flaw_en 255, .inr ⟨hno, rfl⟩, Hb0.out.trans (Hb7.out.mono Hb0.out.size)⟩
end Go.Proofs.YtpdfmpegcejmkaaGreatDoor
namespace Go.Proofs.YtpdfmpegcejmkaaGreatDoor
open Go.RowKit
/-- A call on an opener began in w: its box is block p, its reader block g is in this state. -/
structure OpW (σ : Sen) (w w' : World) (p g b0 off c : Nat) (b : List Int) (s : RSt) : Prop where
  rd : RdAt σ w' g (hdB b) s
  bx : BlockIs w' p 273 #[.pointer (some ⟨g, 0, none⟩), .slice (some ⟨b0, off, none⟩) 256 c]
  fr : w.grownBy w' (some g)
/-- Where it all began: the variables are laid, the block's bytes are there. -/
structure OpE (σ : Sen) (τ : SenU) (w0 w : World) (g b0 off c : Nat) (b : List Int) : Prop where
  env : Env σ w0 g w
  gl : GlU τ w0
  bytes : BytesAt w0 (some ⟨b0, off, none⟩) b
  len : b.length = 256
  cap : 256 ≤ c ∧ c ≤ 9223372036854775807
section
variable {σ : Sen} {τ : SenU} {w0 w w' w2 : World} {p g b0 off c : Nat} {b : List Int} {s : RSt}
theorem OpW.below (k : OpW σ w w' p g b0 off c b s) (E : OpE σ τ w0 w g b0 off c b) : Below w0.heap.size w0 w' := below_grown E.env.bl k.fr E.env.bl.size E.env.lo
theorem OpW.drew (k : OpW σ w w' p g b0 off c b s) : OpW σ w w'.drew p g b0 off c b s := ⟨k.rd.drew, k.bx, ⟨k.fr.os, k.fr.tape, k.fr.output, k.fr.size, k.fr.block⟩⟩
theorem OpW.on (k : OpW σ w w' p g b0 off c b s) (hb : Below w'.heap.size w' w2) : OpW σ w w2 p g b0 off c b s := ⟨k.rd.below hb, k.bx.below hb k.bx.lt, k.fr.trans (grown_below hb _)⟩
theorem OpW.cells (k : OpW σ w w' p g b0 off c b s) : w'.cell? ⟨p, 0, none⟩ = some (.pointer (some ⟨g, 0, none⟩)) ∧ w'.cell? ⟨p, 1, none⟩ = some (.slice (some ⟨b0, off, none⟩) 256 c) := ⟨k.bx.cell 0, k.bx.cell 1⟩
theorem OpW.envAt (k : OpW σ w w' p g b0 off c b s) (E : OpE σ τ w0 w g b0 off c b) : Env σ w0 g w' := ⟨E.env.gl, k.below E, E.env.lo⟩
theorem OpE.at_ (E : OpE σ τ w0 w g b0 off c b) (hs : w.grownBy w2 (some g)) : OpE σ τ w0 w2 g b0 off c b := ⟨E.env.grown hs, E.gl, E.bytes, E.len, E.cap⟩
theorem OpW.field (k : OpW σ w w' p g b0 off c b s) (E : OpE σ τ w0 w g b0 off c b) (hp : p ≠ g) (wd : Int) :
    Calls Tryz.prog 83 #[.pointer (some ⟨g, 0, none⟩), .int .i64 wd] w' fun e w2 => e = .returned (.int .i64 (fieldR (hdB b) wd s).1) ∧ OpW σ w w2 p g b0 off c b (fieldR (hdB b) wd s).2 := by
  refine (rfield_any σ w0 w' g (hdB b) s wd k.rd (k.envAt E).f (by rw [hdB_len E.len]; decide)).mono ?_
  rintro e w2 ⟨rfl, hG⟩
  exact ⟨rfl, hG.rd, k.bx.kept hG.fr (fun e => hp (Option.some.inj e)), k.fr.trans hG.fr⟩
theorem OpW.sum (k : OpW σ w w' p g b0 off c b s) (E : OpE σ τ w0 w g b0 off c b) :
    Calls Tryz.prog 134 #[.slice (some ⟨b0, off, none⟩) 256 c] w' fun e w2 => e = .returned (.int .u32 ((Mx.sum (unitRow b)).toNat : Int)) ∧ OpW σ w w2 p g b0 off c b s := by
  refine (usum_any w' _ b c (E.bytes.below (k.below E)) E.len E.cap.1 E.cap.2).mono ?_
  rintro e w2 ⟨rfl, hb⟩
  exact ⟨rfl, k.on hb⟩
end
theorem field4 {b : List Int} (hb : ∀ z ∈ b, 0 ≤ z ∧ z < 256) (hl : b.length = 256) : fieldR (hdB b) 4 (.ok 0) = (unle ((b.drop 28).take 4), .ok 4) := by
  have l4 : ((b.drop 28).take 4).length = 4 := by rw [List.length_take, List.length_drop, hl]; rfl
  have ht : (hdB b).take 4 = (b.drop 28).take 4 := by
    unfold hdB
    rw [List.take_append_of_le_length (by omega), List.take_of_length_le (by omega)]
  have hu := unle_bd ((b.drop 28).take 4) (fun z hz => hb z (List.mem_of_mem_drop (List.mem_of_mem_take hz)))
  rw [l4] at hu
  have h4 : top 4 = 4294967295 := rfl
  unfold fieldR
  simp only
  rw [if_neg (by rw [hdB_len hl, h4]; omega), List.drop_zero, show (4 : Int).toNat = 4 from rfl, ht, if_neg (by rw [h4]; have := hu.2; omega)]
set_option maxRecDepth 100000 in
set_option maxHeartbeats 4000000 in
theorem unsealed_any {σ : Sen} {τ : SenU} {w0 w : World} {g b0 off c : Nat} {b : List Int} (E : OpE σ τ w0 w g b0 off c b) (hr : RdAt σ w g (hdB b) (.ok 0)) (hgl : g < w.heap.size) :
    Calls Tryz.prog 166 #[.agg #[.pointer (some ⟨g, 0, none⟩), .slice (some ⟨b0, off, none⟩) 256 c]] w fun e w' => ∃ v, e = .returned v ∧ FlawOf τ (if fitsB b then 0 else 5) v ∧ RdAt σ w' g (hdB b) (.ok 4) ∧ w.grownBy w' (some g) := by
  have hbn := below_new w (.cells #[.pointer (some ⟨g, 0, none⟩), .slice (some ⟨b0, off, none⟩) 256 c] 273)
  have hB := BlockIs.made w 273 #[.pointer (some ⟨g, 0, none⟩), .slice (some ⟨b0, off, none⟩) 256 c]
  have KA : Hid (OpW σ w (w.alloc (.cells #[.pointer (some ⟨g, 0, none⟩), .slice (some ⟨b0, off, none⟩) 256 c] 273)) w.heap.size g b0 off c b (.ok 0)) := Lib.hid ⟨hr.below hbn, hB, grown_below hbn _⟩
  have hpg : w.heap.size ≠ g := by omega
  have HE := Lib.hid E
  have HF := Lib.hid (fun (w' : World) (k : OpW σ w w' w.heap.size g b0 off c b (.ok 0)) => k.field E hpg 4)
  rw [field4 E.bytes.1 E.len] at HF
  have HS := Lib.hid (fun (w' : World) (s : RSt) (k : OpW σ w w' w.heap.size g b0 off c b s) => k.sum E)
  have Hfit : Hid (fitsB b ↔ unle ((b.drop 28).take 4) = ((Mx.sum (unitRow b)).toNat : Int)) := Lib.hid Iff.rfl
  obtain ⟨x, hx⟩ : ∃ x, Mx.sum (unitRow b) = x := ⟨_, rfl⟩
  obtain ⟨n, hn⟩ : ∃ n, unle ((b.drop 28).take 4) = n := ⟨_, rfl⟩
  rw [hx] at HS Hfit
  rw [hn] at HF Hfit
  obtain ⟨r, hrr⟩ : ∃ r : Int, (if fitsB b then (0 : Int) else 5) = r := ⟨_, rfl⟩
  rw [hrr]
  have Hrr := Lib.hid hrr
  have hxl : (x.toNat : Int) < 4294967296 := by have := x.isLt; omega
  have hwx : IntKind.i64.wrap (x.toNat : Int) = x.toNat := IntWalk.i64_in _ (by omega)
  obtain ⟨w1, hw1⟩ : ∃ w1, w.alloc (.cells #[.pointer (some ⟨g, 0, none⟩), .slice (some ⟨b0, off, none⟩) 256 c] 273) = w1 := ⟨_, rfl⟩
  rw [hw1] at KA
  have Hw1 := Lib.hid hw1
  clear hx hn hr hbn hB hw1 E hrr
  go_enter Tryz.func166, Tryz.ntmps166
  go_wp2_with fail
  rw [Hw1.out]
  have m0 := KA.out.cells
  by_cases hf : n = (x.toNat : Int)
  · have hf1 : (n != (x.toNat : Int)) = false := by rw [hf]; simp
    have Hyes := Lib.hid (Hfit.out.2 hf)
    clear hf
    go_region_held3 (fun w' => w'.cell? ⟨w.heap.size, 0, none⟩ = some (.pointer (some ⟨g, 0, none⟩)) ∧ w'.cell? ⟨w.heap.size, 1, none⟩ = some (.slice (some ⟨b0, off, none⟩) 256 c)) (first | exact m0 | exact mE | exact mF | exact mS) (first
      | (go_at_call 83; refine (HF.out _ ?_).mono ?_; (first | exact KS.out | exact KS.out.drew); rintro e wE ⟨rfl, k⟩; have mE := k.cells; have KE := Lib.hid k; clear k)
      | (go_at_call 83; refine (HF.out _ ?_).mono ?_; (first | exact KA.out | exact KA.out.drew); rintro e wF ⟨rfl, k⟩; have mF := k.cells; have KF := Lib.hid k; clear k)
      | (go_at_call 134; refine (HS.out _ (.ok 4) ?_).mono ?_; (first | exact KF.out | exact KF.out.drew); rintro e wE ⟨rfl, k⟩; have mE := k.cells; have KE := Lib.hid k; clear k)
      | (go_at_call 134; refine (HS.out _ (.ok 0) ?_).mono ?_; (first | exact KA.out | exact KA.out.drew); rintro e wS ⟨rfl, k⟩; have mS := k.cells; have KS := Lib.hid k; clear k)
      | fail)
    all_goals
      go_wp2_with fail
      go_ret
      exact ⟨_, rfl, by rw [← Hrr.out, if_pos Hyes.out]; exact FlawOf.none τ, KE.out.rd, KE.out.fr⟩
  · have hf1 : (n != (x.toNat : Int)) = true := by simpa using hf
    have Hno := Lib.hid (fun h => hf (Hfit.out.1 h))
    clear hf
    go_region_held3 (fun w' => w'.cell? ⟨w.heap.size, 0, none⟩ = some (.pointer (some ⟨g, 0, none⟩)) ∧ w'.cell? ⟨w.heap.size, 1, none⟩ = some (.slice (some ⟨b0, off, none⟩) 256 c)) (first | exact m0 | exact mE | exact mF | exact mS) (first
      | (go_at_call 83; refine (HF.out _ ?_).mono ?_; (first | exact KS.out | exact KS.out.drew); rintro e wE ⟨rfl, k⟩; have mE := k.cells; have KE := Lib.hid k; clear k)
      | (go_at_call 83; refine (HF.out _ ?_).mono ?_; (first | exact KA.out | exact KA.out.drew); rintro e wF ⟨rfl, k⟩; have mF := k.cells; have KF := Lib.hid k; clear k)
      | (go_at_call 134; refine (HS.out _ (.ok 4) ?_).mono ?_; (first | exact KF.out | exact KF.out.drew); rintro e wE ⟨rfl, k⟩; have mE := k.cells; have KE := Lib.hid k; clear k)
      | (go_at_call 134; refine (HS.out _ (.ok 0) ?_).mono ?_; (first | exact KA.out | exact KA.out.drew); rintro e wS ⟨rfl, k⟩; have mS := k.cells; have KS := Lib.hid k; clear k)
      | fail)
    all_goals
      have gs := (HE.out.gl.below (KE.out.below HE.out)).sm
      have HGs := Lib.hid (HE.out.gl.below (KE.out.below HE.out))
      unfold errK at gs
      go_wp2_with fail
      go_ret
      exact ⟨_, rfl, by rw [← Hrr.out, if_neg Hno.out]; exact HGs.out.flaw_sm 28, KE.out.rd, KE.out.fr⟩
end Go.Proofs.YtpdfmpegcejmkaaGreatDoor
