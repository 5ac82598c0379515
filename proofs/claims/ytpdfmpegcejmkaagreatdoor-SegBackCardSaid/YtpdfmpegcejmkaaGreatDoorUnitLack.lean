/- A block's reader: begun; the sum; the fields behind it. -/
/- What a block must have besides its fields. -/
import Derived.Test.YtpdfmpegcejmkaaGreatDoorMixShift
import Derived.Test.YtpdfmpegcejmkaaGreatDoorCodeConcat
import Derived.Test.YtpdfmpegcejmkaaGreatDoorReadErr
import Derived.IntWalk
namespace Go.Proofs.YtpdfmpegcejmkaaGreatDoor
open Go.RowKit
/-- What the reader goes through: the sum, and what stands ahead of the body. -/
def hdB (b : List Int) : List Int := (b.drop 28).take 4 ++ b.take 8
theorem hdB_len {b : List Int} (hl : b.length = 256) : (hdB b).length = 12 := by unfold hdB; rw [List.length_append, List.length_take, List.length_drop, List.length_take, hl]; rfl
theorem hdB_bd {b : List Int} (hb : ∀ z ∈ b, 0 ≤ z ∧ z < 256) : ∀ z ∈ hdB b, 0 ≤ z ∧ z < 256 := by
  intro z hz
  unfold hdB at hz
  rcases List.mem_append.1 hz with h | h
  · exact hb z (List.mem_of_mem_drop (List.mem_of_mem_take h))
  · exact hb z (List.mem_of_mem_take h)
theorem concatHd (w : World) (b0 off : Nat) (b : List Int) (c : Nat) (hb : BytesAt w (some ⟨b0, off, none⟩) b) (hl : b.length = 256) (hc : 256 ≤ c) (hm : c ≤ 9223372036854775807) :
    Calls Tryz.prog 142 #[.slice (some ⟨w.heap.size, 0, none⟩) 2 2] (w.alloc (.cells #[.slice (some ⟨b0, off + 28, none⟩) 4 (c - 28), .slice (some ⟨b0, off, none⟩) 8 c] 27)) fun e w' => ∃ X k, e = .returned (.slice X 12 k) ∧ BytesAt w' X (hdB b) ∧ (X = none → k = 0) ∧ Below w.heap.size w w' := by
  have hbn := below_new w (.cells #[.slice (some ⟨b0, off + 28, none⟩) 4 (c - 28), .slice (some ⟨b0, off, none⟩) 8 c] 27)
  obtain ⟨r0, r1⟩ := row2_cells w (.slice (some ⟨b0, off + 28, none⟩) 4 (c - 28)) (.slice (some ⟨b0, off, none⟩) 8 c) 27
  have l4 : ((b.drop 28).take 4).length = 4 := by rw [List.length_take, List.length_drop, hl]; rfl
  have l8 : (b.take 8).length = 8 := by rw [List.length_take, hl]; rfl
  have hB := hb.below hbn
  have hcut := cut_reads (k := 28) hB (show b.length ≤ c by omega)
  rw [cut_some (show 28 < c by omega)] at hcut
  have hp : PartsAt (w.alloc (.cells #[.slice (some ⟨b0, off + 28, none⟩) 4 (c - 28), .slice (some ⟨b0, off, none⟩) 8 c] 27)) (some ⟨w.heap.size, 0, none⟩) [⟨some ⟨b0, off + 28, none⟩, (b.drop 28).take 4, c - 28⟩, ⟨some ⟨b0, off, none⟩, b.take 8, c⟩] := by
    refine ⟨fun x hx => ?_, fun _ => ⟨w.heap.size, 0, rfl, fun i x hx => ?_⟩⟩
    · simp only [List.mem_cons, List.not_mem_nil, or_false] at hx
      rcases hx with rfl | rfl
      · exact ⟨front_reads hcut, by show ((b.drop 28).take 4).length ≤ c - 28; omega, by show c - 28 ≤ _; omega⟩
      · exact ⟨front_reads hB, by show (b.take 8).length ≤ c; omega, hm⟩
    · match i, hx with
      | 0, hx =>
        obtain rfl : (⟨some ⟨b0, off + 28, none⟩, (b.drop 28).take 4, c - 28⟩ : Part) = x := by simpa using hx
        show _ = some (Value.slice (some ⟨b0, off + 28, none⟩) ((b.drop 28).take 4).length (c - 28))
        rw [l4]; exact r0
      | 1, hx =>
        obtain rfl : (⟨some ⟨b0, off, none⟩, b.take 8, c⟩ : Part) = x := by simpa using hx
        show _ = some (Value.slice (some ⟨b0, off, none⟩) (b.take 8).length c)
        rw [l8]; exact r1
      | i + 2, hx => simp at hx
  have ht : total [(⟨some ⟨b0, off + 28, none⟩, (b.drop 28).take 4, c - 28⟩ : Part), ⟨some ⟨b0, off, none⟩, b.take 8, c⟩] = 12 := by unfold total; simp [l4, l8]
  have hby : bytesOf [(⟨some ⟨b0, off + 28, none⟩, (b.drop 28).take 4, c - 28⟩ : Part), ⟨some ⟨b0, off, none⟩, b.take 8, c⟩] = hdB b := by unfold bytesOf hdB; simp
  refine (concat_any _ _ _ 2 hp (by simp) (by rw [ht]; decide) (by
    intro p hp
    simp only [List.mem_cons, List.not_mem_nil, or_false] at hp
    rcases hp with rfl | rfl <;> simp)).mono ?_
  rintro e w' ⟨v, rfl, ho, hb'⟩
  rw [ht, hby] at ho
  obtain ⟨X, k, rfl, hk, _⟩ := own_slice ho
  obtain ⟨g, cap, e, _⟩ := own_form ho (by decide)
  obtain ⟨rfl, rfl⟩ : X = some ⟨g, 0, none⟩ ∧ k = cap := by simpa using e
  exact ⟨_, _, rfl, own_reads ho (hdB_bd hb.1), (by intro e; cases e), hbn.trans (hb'.mono hbn.size)⟩
/-- Read: the reader's own bytes are new, too. -/
theorem cread_own (σ : Sen) (w : World) (bs : List Int) (A : Option Addr) (c : Nat) (hz : BytesAt w A bs) (hl : bs.length ≤ 140737488351232) (hA : A = none → c = 0) :
    Calls Tryz.prog 106 #[.slice A bs.length c] w fun e w' => ∃ g, e = .returned (.pointer (some ⟨g, 0, none⟩)) ∧ w.heap.size ≤ g ∧ (∃ x cap k ev, RdIs σ w' g bs (.ok 0) x cap k ev ∧ ∀ a, x = some a → w.heap.size ≤ a.block) ∧ Below w.heap.size w w' := by
  go_enter Tryz.func106, Tryz.ntmps106
  go_wp2_with fail
  refine (clone_any w bs A c hz hl hA).mono ?_
  rintro e w1 ⟨v, rfl, hown, hb⟩
  obtain ⟨X, cap, rfl, h1, h2⟩ := own_slice hown
  have Hown := Lib.hid hown
  clear hown
  go_wp2_with fail
  go_ret
  have hrd := own_reads Hown.out hz.1
  have hbn := below_new w1 (.cells #[.slice X bs.length cap, .int .i64 0, .bool true, .nilIface] 165)
  have hlo : ∀ a, X = some a → w.heap.size ≤ a.block ∧ a.block < w1.heap.size := fun a e => Hown.out.lt a.block (by rw [e]; rfl)
  exact ⟨w1.heap.size, rfl, hb.size, ⟨X, cap, 0, .nilIface, ⟨BlockIs.made _ _ _, hrd.below hbn, fun a e => (hlo a e).2, ⟨h1, h2, Nat.zero_le _⟩, rfl, rfl⟩, fun a e => (hlo a e).1⟩, hb.trans (hbn.mono hb.size)⟩
theorem opener_cells {w : World} {g : Nat} {x y : Value} (h : BlockIs w g 273 #[x, y]) : w.cell? ⟨g, 0, none⟩ = some x ∧ w.cell? ⟨g, 1, none⟩ = some y ∧ w.frozen? ⟨g, 0, none⟩ = false ∧ w.frozen? ⟨g, 1, none⟩ = false := ⟨h.cell 0, h.cell 1, h.free 0, h.free 1⟩
set_option maxRecDepth 100000 in
set_option maxHeartbeats 4000000 in
theorem newOpener_any (σ : Sen) (w : World) (b0 off : Nat) (b : List Int) (c : Nat) (hb : BytesAt w (some ⟨b0, off, none⟩) b) (hl : b.length = 256) (hc : 256 ≤ c) (hm : c ≤ 9223372036854775807) :
    Calls Tryz.prog 165 #[.slice (some ⟨b0, off, none⟩) 256 c] w fun e w' => ∃ g, e = .returned (.agg #[.pointer (some ⟨g, 0, none⟩), .slice (some ⟨b0, off, none⟩) 256 c]) ∧ w.heap.size ≤ g ∧ RdAt σ w' g (hdB b) (.ok 0) ∧ Below w.heap.size w w' := by
  have hbn := below_new w (.cells #[.pointer none, .slice none 0 0] 273)
  have hB := BlockIs.made w 273 #[.pointer none, .slice none 0 0]
  have h1 : ∀ w', (Instr.slice 27 (.slice (some ⟨b0, off, none⟩) 256 c) (some (.int .i64 28)) (some (.int .i64 32)) none).run Tryz.prog w' = .ok (.slice (some ⟨b0, off + 28, none⟩) 4 (c - 28)) w' := fun w' => by
    have := cut_mid (some ⟨b0, off, none⟩) 256 28 32 c w' (by decide) (by omega)
    rw [cut_some (show 28 < c by omega)] at this
    exact this
  have h2 : ∀ w', (Instr.slice 27 (.slice (some ⟨b0, off, none⟩) 256 c) none (some (.int .i64 8)) none).run Tryz.prog w' = .ok (.slice (some ⟨b0, off, none⟩) 8 c) w' := fun w' => cut_low (some ⟨b0, off, none⟩) 256 8 c w' (by decide) hc
  have H0 := Lib.hid (And.intro hbn hB)
  obtain ⟨w1, hw1⟩ : ∃ w1, w.alloc (.cells #[.pointer none, .slice none 0 0] 273) = w1 := ⟨_, rfl⟩
  have hB1 := hb.below hbn
  rw [hw1] at H0 hB1
  have HC : Hid (Calls Tryz.prog 142 #[.slice (some ⟨w1.heap.size, 0, none⟩) 2 2] (w1.alloc (.cells #[.slice (some ⟨b0, off + 28, none⟩) 4 (c - 28), .slice (some ⟨b0, off, none⟩) 8 c] 27)).drew fun e w' => ∃ X k, e = .returned (.slice X 12 k) ∧ BytesAt w' X (hdB b) ∧ (X = none → k = 0) ∧ Below w1.heap.size w1.drew w') := Lib.hid (concatHd w1.drew b0 off b c hB1 hl hc hm)
  have Hhl := Lib.hid (hdB_len hl)
  have Hw1 := Lib.hid hw1
  clear hb hbn hB hB1 hw1 hl
  go_enter Tryz.func165, Tryz.ntmps165
  go_wp2_with fail
  rw [Hw1.out]
  have HRd := Lib.hid (fun (w' : World) (X : Option Addr) (k : Nat) (h : BytesAt w' X (hdB b)) (hx : X = none → k = 0) => cread_own σ w' (hdB b) X k h (by rw [Hhl.out]; decide) hx)
  rw [Hhl.out] at HRd
  go_region_held3 (fun _ => True) (trivial) (first
    | (go_at_call 142; refine HC.out.mono ?_; rintro e w2 ⟨X, k, rfl, hx, hxn, hb2⟩; have H2 := Lib.hid (And.intro hx (And.intro hxn (H0.out.1.trans ((undrew hb2).mono H0.out.1.size)))); have B2 := Lib.hid (H0.out.2.below (undrew hb2) H0.out.2.lt); clear hx hxn hb2)
    | (go_at_call 106; refine (HRd.out _ X k H2.out.1 H2.out.2.1).mono ?_; rintro e w3 ⟨g, rfl, hg3, ⟨x3, cap3, k3, ev3, hr3, hlo3⟩, hb3⟩; have HL3 := Lib.hid hlo3; clear hlo3; have PL3 := Lib.hid B2.out.lt; have H3 := Lib.hid (And.intro hr3 (And.intro (H2.out.2.2.trans (hb3.mono H2.out.2.2.size)) (Nat.le_trans H2.out.2.2.size hg3))); have B3 := Lib.hid (B2.out.below hb3 B2.out.lt); obtain ⟨y0, y1, y2, y3⟩ := opener_cells B3.out; have G3 := Lib.hid (Nat.lt_of_lt_of_le B2.out.lt hg3); clear hr3 hb3 hg3)
    | fail)
  all_goals
    have BZ := Lib.hid ((B3.out.set1 0 (.pointer (some ⟨g, 0, none⟩))).set1 1 (.slice (some ⟨b0, off, none⟩) 256 c))
    have GZ := Lib.hid (grown_at (grown_at (World.grownBy.refl w3 (some w.heap.size)) 0 (.pointer (some ⟨g, 0, none⟩))) 1 (.slice (some ⟨b0, off, none⟩) 256 c))
    clear y0 y1 y2 y3
    generalize (w3.setCell ⟨w.heap.size, 0, none⟩ (.pointer (some ⟨g, 0, none⟩))).setCell ⟨w.heap.size, 1, none⟩ (.slice (some ⟨b0, off, none⟩) 256 c) = wz at *
    obtain ⟨z0, z1, _, _⟩ := opener_cells BZ.out
    go_wp2_with fail
    have hbz : Below w.heap.size w wz := below_grown H3.out.2.1 GZ.out H3.out.2.1.size (Nat.le_refl _)
    exact bodyPost_ret (v := .agg #[.pointer (some ⟨g, 0, none⟩), .slice (some ⟨b0, off, none⟩) 256 c]) (by simp [results, Tryz.results165, go_sem, z0, z1]) rfl ⟨g, rfl, H3.out.2.2, ⟨x3, cap3, k3, ev3, H3.out.1.kept GZ.out (fun e => by have := Option.some.inj e; have := G3.out; omega) (fun a ha e => by have := Option.some.inj e; have := HL3.out a ha; have := PL3.out; omega)⟩, hbz⟩
end Go.Proofs.YtpdfmpegcejmkaaGreatDoor
namespace Go.Proofs.YtpdfmpegcejmkaaGreatDoor
open Go.RowKit
theorem code_pos (σ : SenU) (a : Addr) : σ.code a ≠ 0 := by unfold SenU.code; split; decide; split <;> decide
theorem FlawOf.zero {σ : SenU} {v : Value} (h : FlawOf σ 0 v) : v = .nilIface := by
  rcases h with ⟨_, rfl⟩ | ⟨pos, a, rfl, _, e⟩
  · rfl
  · exact absurd e.symm (code_pos σ a)
theorem FlawOf.some_ {σ : SenU} {k : Int} {v : Value} (hk : k ≠ 0) (h : FlawOf σ k v) : ∃ pos a, v = flawV pos a ∧ FlawOf σ k (flawV pos a) := by
  rcases h with ⟨e, _⟩ | ⟨pos, a, rfl, h⟩
  · exact absurd e hk
  · exact ⟨pos, a, rfl, .inr ⟨pos, a, rfl, h⟩⟩
theorem FlawOf.four {σ : SenU} {v : Value} (h : FlawOf σ 4 v) : ∃ pos a, v = flawV pos a ∧ FlawOf σ 4 (flawV pos a) := h.some_ (by decide)
/-- bare, at two numbers. -/
def BareC (σ : SenU) (q : Option Addr) (b0 off c : Nat) (b : List Int) (w : World) (x y : Int) (i j : Nat) : Prop :=
  Calls Tryz.prog 179 #[.agg #[.pointer q, .slice (some ⟨b0, off, none⟩) 256 c], .int .i64 x, .int .i64 y] w fun e w' => ∃ v k, e = .returned v ∧ FlawOf σ k v ∧ ((Noughts b i j ∧ k = 0) ∨ (¬ Noughts b i j ∧ k = 4)) ∧ Below w.heap.size w w'
set_option maxRecDepth 100000 in
set_option maxHeartbeats 4000000 in
theorem lack_any (σ : SenU) (w : World) (hG : GlU σ w) (q : Option Addr) (b0 off : Nat) (b : List Int) (c many : Nat) (hb : BytesAt w (some ⟨b0, off, none⟩) b) (hl : b.length = 256) (hc : 256 ≤ c) (hm : c ≤ 9223372036854775807) (hmany : many ≤ 255) :
    Calls Tryz.prog 177 #[.agg #[.pointer q, .slice (some ⟨b0, off, none⟩) 256 c], .int .i64 (many : Int)] w fun e w' => ∃ v k, e = .returned v ∧ FlawOf σ k v ∧ ((lackOk b many ∧ k = 0) ∨ (¬ lackOk b many ∧ k = 4)) ∧ Below w.heap.size w w' := by
  have hbn := below_new w (.cells #[.pointer q, .slice (some ⟨b0, off, none⟩) 256 c] 273)
  obtain ⟨d0, d1⟩ := row2_cells w (.pointer q) (.slice (some ⟨b0, off, none⟩) 256 c) 273
  have HP := Lib.hid (parted_any (w.alloc (.cells #[.pointer q, .slice (some ⟨b0, off, none⟩) 256 c] 273)) many (by omega))
  have HB1 := Lib.hid (hb.below hbn)
  have HG1 := Lib.hid (hG.below hbn)
  have HD := Lib.hid (And.intro d0 d1)
  have Hb0 := Lib.hid hbn
  have Hl := Lib.hid hl
  have g1 := (hG.below hbn).bd
  unfold errK at g1
  clear hb hG hbn hl
  obtain ⟨w1, hw1⟩ : ∃ w1, w.alloc (.cells #[.pointer q, .slice (some ⟨b0, off, none⟩) 256 c] 273) = w1 := ⟨_, rfl⟩
  rw [hw1] at d0 d1 HP HB1 HG1 HD Hb0 g1
  have HBr := Lib.hid (fun (w' : World) (hb' : Below w1.heap.size w1 w') (x y : Int) (i j : Nat) (hij : i ≤ j) (hj : j < 256) (hx : x = (i : Int)) (hy : y = (j : Int)) => (show BareC σ q b0 off c b w' x y i j by
    subst hx hy
    exact bare_any σ w' (HG1.out.below hb') q b0 off b c i j (HB1.out.below hb') Hl.out hc hm hij hj))
  have Hw1 := Lib.hid hw1
  clear hw1
  by_cases h239 : 239 < many
  · have h239i : (239 : Int) < (many : Int) := by omega
    go_enter Tryz.func177, Tryz.ntmps177
    go_wp2_with fail
    rw [Hw1.out]
    refine HP.out.mono ?_
    rintro e w' ⟨rfl, rfl⟩
    go_wp2_with fail
    go_ret
    first
      | exact ⟨_, 4, rfl, HG1.out.flaw_bd 7, .inr ⟨fun hh => by have := hh.1; omega, rfl⟩, Hb0.out⟩
      | exact ⟨_, rfl, 4, HG1.out.flaw_bd 7, .inr ⟨fun hh => by have := hh.1; omega, rfl⟩, Hb0.out⟩
  · have h239i : ¬ (239 : Int) < (many : Int) := by omega
    by_cases h20 : many ≤ 20
    · have e1 : min many 20 = many := Nat.min_eq_left h20
      have e2 : many - 20 = 0 := Nat.sub_eq_zero_of_le h20
      rw [e1, e2] at HP
      go_enter Tryz.func177, Tryz.ntmps177
      go_wp2_with fail
      rw [Hw1.out]
      refine HP.out.mono ?_
      rintro e w' ⟨rfl, rfl⟩
      have hb1 := Below.refl w1.heap.size w1
      clear g1 d0 d1
      have HX := Lib.hid (HBr.out w1 hb1 (8 + (many : Int)) 28 (8 + many) 28 (by omega) (by decide) (by omega) rfl)
      unfold BareC at HX
      have d0 := cell_below HD.out.1 hb1
      have d1 := cell_below HD.out.2 hb1
      go_wp2_with fail
      clear d0 d1
      refine HX.out.mono ?_
      rintro e w5 ⟨v, k, rfl, hF, hN, hb'⟩
      have hb5 := (hb1).trans (hb'.mono (hb1).size)
      clear HX hb'
      by_cases hw5 : Noughts b (8 + many) 28
      rotate_left
      · obtain ⟨pos, a, rfl, ha⟩ := FlawOf.four (show FlawOf σ 4 v by rcases hN with ⟨h, _⟩ | ⟨_, rfl⟩; exact absurd h hw5; exact hF)
        have hbz := Lib.hid hb5
        have Hh := Lib.hid hw5
        clear hF hN hw5
        go_wp2_with fail
        go_ret
        first
          | exact ⟨_, 4, rfl, ha, .inr ⟨fun hh => Hh.out (hh.2.1 h20), rfl⟩, Hb0.out.trans (hbz.out.mono Hb0.out.size)⟩
          | exact ⟨_, rfl, 4, ha, .inr ⟨fun hh => Hh.out (hh.2.1 h20), rfl⟩, Hb0.out.trans (hbz.out.mono Hb0.out.size)⟩
      obtain rfl := FlawOf.zero (show FlawOf σ 0 v by rcases hN with ⟨_, rfl⟩ | ⟨h, _⟩; exact hF; exact absurd hw5 h)
      have Hw5 := Lib.hid hw5
      clear hF hN hw5
      have HX := Lib.hid (HBr.out w5 hb5 32 36 (32) 36 (by decide) (by decide) rfl rfl)
      unfold BareC at HX
      have d0 := cell_below HD.out.1 hb5
      have d1 := cell_below HD.out.2 hb5
      go_wp2_with fail
      clear d0 d1
      refine HX.out.mono ?_
      rintro e w6 ⟨v, k, rfl, hF, hN, hb'⟩
      have hb6 := (hb5).trans (hb'.mono (hb5).size)
      clear HX hb'
      by_cases hw6 : Noughts b 32 36
      rotate_left
      · obtain ⟨pos, a, rfl, ha⟩ := FlawOf.four (show FlawOf σ 4 v by rcases hN with ⟨h, _⟩ | ⟨_, rfl⟩; exact absurd h hw6; exact hF)
        have hbz := Lib.hid hb6
        have Hh := Lib.hid hw6
        clear hF hN hw6
        go_wp2_with fail
        go_ret
        first
          | exact ⟨_, 4, rfl, ha, .inr ⟨fun hh => Hh.out (hh.2.2.1), rfl⟩, Hb0.out.trans (hbz.out.mono Hb0.out.size)⟩
          | exact ⟨_, rfl, 4, ha, .inr ⟨fun hh => Hh.out (hh.2.2.1), rfl⟩, Hb0.out.trans (hbz.out.mono Hb0.out.size)⟩
      obtain rfl := FlawOf.zero (show FlawOf σ 0 v by rcases hN with ⟨_, rfl⟩ | ⟨h, _⟩; exact hF; exact absurd hw6 h)
      have Hw6 := Lib.hid hw6
      clear hF hN hw6
      have HX := Lib.hid (HBr.out w6 hb6 36 255 (36 + (many - 20)) 255 (by omega) (by decide) (by omega) rfl)
      unfold BareC at HX
      have d0 := cell_below HD.out.1 hb6
      have d1 := cell_below HD.out.2 hb6
      go_wp2_with fail
      clear d0 d1
      refine HX.out.mono ?_
      rintro e w7 ⟨v, k, rfl, hF, hN, hb'⟩
      have hb7 := (hb6).trans (hb'.mono (hb6).size)
      clear HX hb'
      by_cases hw7 : Noughts b (36 + (many - 20)) 255
      rotate_left
      · obtain ⟨pos, a, rfl, ha⟩ := FlawOf.four (show FlawOf σ 4 v by rcases hN with ⟨h, _⟩ | ⟨_, rfl⟩; exact absurd h hw7; exact hF)
        have hbz := Lib.hid hb7
        have Hh := Lib.hid hw7
        clear hF hN hw7
        go_wp2_with fail
        go_ret
        first
          | exact ⟨_, 4, rfl, ha, .inr ⟨fun hh => Hh.out (hh.2.2.2.1), rfl⟩, Hb0.out.trans (hbz.out.mono Hb0.out.size)⟩
          | exact ⟨_, rfl, 4, ha, .inr ⟨fun hh => Hh.out (hh.2.2.2.1), rfl⟩, Hb0.out.trans (hbz.out.mono Hb0.out.size)⟩
      obtain rfl := FlawOf.zero (show FlawOf σ 0 v by rcases hN with ⟨_, rfl⟩ | ⟨h, _⟩; exact hF; exact absurd hw7 h)
      have Hw7 := Lib.hid hw7
      clear hF hN hw7
      have d0 := cell_below HD.out.1 hb7
      have d1 := cell_below HD.out.2 hb7
      have c255 := (HB1.out.below hb7).one 255 (by rw [Hl.out]; decide)
      have g7 := (HG1.out.below hb7).en
      have HG7 := Lib.hid (HG1.out.below hb7)
      unfold errK at g7
      have Hb7 := Lib.hid hb7
      obtain ⟨z, hz⟩ : ∃ z, b.getD 255 0 = z := ⟨_, rfl⟩
      rw [hz] at c255
      have HZ := Lib.hid hz
      clear hz hb6 hb7
      by_cases he : z = 0
      · subst he
        go_wp2_with fail
        go_ret
        have hok : lackOk b many := ⟨by omega, fun h => by exact Hw5.out, Hw6.out, Hw7.out, by rw [HZ.out, if_neg (by omega)]⟩
        first
          | exact ⟨_, 0, rfl, FlawOf.none σ, .inl ⟨hok, rfl⟩, Hb0.out.trans (Hb7.out.mono Hb0.out.size)⟩
          | exact ⟨_, rfl, 0, FlawOf.none σ, .inl ⟨hok, rfl⟩, Hb0.out.trans (Hb7.out.mono Hb0.out.size)⟩
      · have he1 : (z != 0) = true := by simpa using he
        have He := Lib.hid he
        clear he
        go_wp2_with fail
        go_ret
        have hno : ¬ lackOk b many := fun hh => by
          have h5 := hh.2.2.2.2
          rw [HZ.out, if_neg (by omega)] at h5
          exact He.out h5
        first
          | exact ⟨_, 4, rfl, HG7.out.flaw_en 255, .inr ⟨hno, rfl⟩, Hb0.out.trans (Hb7.out.mono Hb0.out.size)⟩
          | exact ⟨_, rfl, 4, HG7.out.flaw_en 255, .inr ⟨hno, rfl⟩, Hb0.out.trans (Hb7.out.mono Hb0.out.size)⟩
    · have hbk : ¬ ((many - 20 : Nat) : Int) = 0 := by omega
      have hbk1 : (((many - 20 : Nat) : Int) == 0) = false := beq_eq_false_iff_ne.2 hbk
      go_enter Tryz.func177, Tryz.ntmps177
      go_wp2_with fail
      rw [Hw1.out]
      refine HP.out.mono ?_
      rintro e w' ⟨rfl, rfl⟩
      have hb1 := Below.refl w1.heap.size w1
      clear g1 d0 d1
      have HX := Lib.hid (HBr.out w1 hb1 32 36 (32) 36 (by decide) (by decide) rfl rfl)
      unfold BareC at HX
      have d0 := cell_below HD.out.1 hb1
      have d1 := cell_below HD.out.2 hb1
      go_wp2_with fail
      clear d0 d1
      refine HX.out.mono ?_
      rintro e w6 ⟨v, k, rfl, hF, hN, hb'⟩
      have hb6 := (hb1).trans (hb'.mono (hb1).size)
      clear HX hb'
      by_cases hw6 : Noughts b 32 36
      rotate_left
      · obtain ⟨pos, a, rfl, ha⟩ := FlawOf.four (show FlawOf σ 4 v by rcases hN with ⟨h, _⟩ | ⟨_, rfl⟩; exact absurd h hw6; exact hF)
        have hbz := Lib.hid hb6
        have Hh := Lib.hid hw6
        clear hF hN hw6
        go_wp2_with fail
        go_ret
        first
          | exact ⟨_, 4, rfl, ha, .inr ⟨fun hh => Hh.out (hh.2.2.1), rfl⟩, Hb0.out.trans (hbz.out.mono Hb0.out.size)⟩
          | exact ⟨_, rfl, 4, ha, .inr ⟨fun hh => Hh.out (hh.2.2.1), rfl⟩, Hb0.out.trans (hbz.out.mono Hb0.out.size)⟩
      obtain rfl := FlawOf.zero (show FlawOf σ 0 v by rcases hN with ⟨_, rfl⟩ | ⟨h, _⟩; exact hF; exact absurd hw6 h)
      have Hw6 := Lib.hid hw6
      clear hF hN hw6
      have HX := Lib.hid (HBr.out w6 hb6 (36 + ((many - 20 : Nat) : Int)) 255 (36 + (many - 20)) 255 (by omega) (by decide) (by omega) rfl)
      unfold BareC at HX
      have d0 := cell_below HD.out.1 hb6
      have d1 := cell_below HD.out.2 hb6
      go_wp2_with fail
      clear d0 d1
      refine HX.out.mono ?_
      rintro e w7 ⟨v, k, rfl, hF, hN, hb'⟩
      have hb7 := (hb6).trans (hb'.mono (hb6).size)
      clear HX hb'
      by_cases hw7 : Noughts b (36 + (many - 20)) 255
      rotate_left
      · obtain ⟨pos, a, rfl, ha⟩ := FlawOf.four (show FlawOf σ 4 v by rcases hN with ⟨h, _⟩ | ⟨_, rfl⟩; exact absurd h hw7; exact hF)
        have hbz := Lib.hid hb7
        have Hh := Lib.hid hw7
        clear hF hN hw7
        go_wp2_with fail
        go_ret
        first
          | exact ⟨_, 4, rfl, ha, .inr ⟨fun hh => Hh.out (hh.2.2.2.1), rfl⟩, Hb0.out.trans (hbz.out.mono Hb0.out.size)⟩
          | exact ⟨_, rfl, 4, ha, .inr ⟨fun hh => Hh.out (hh.2.2.2.1), rfl⟩, Hb0.out.trans (hbz.out.mono Hb0.out.size)⟩
      obtain rfl := FlawOf.zero (show FlawOf σ 0 v by rcases hN with ⟨_, rfl⟩ | ⟨h, _⟩; exact hF; exact absurd hw7 h)
      have Hw7 := Lib.hid hw7
      clear hF hN hw7
      have d0 := cell_below HD.out.1 hb7
      have d1 := cell_below HD.out.2 hb7
      have c255 := (HB1.out.below hb7).one 255 (by rw [Hl.out]; decide)
      have g7 := (HG1.out.below hb7).en
      have HG7 := Lib.hid (HG1.out.below hb7)
      unfold errK at g7
      have Hb7 := Lib.hid hb7
      obtain ⟨z, hz⟩ : ∃ z, b.getD 255 0 = z := ⟨_, rfl⟩
      rw [hz] at c255
      have HZ := Lib.hid hz
      clear hz hb6 hb7
      by_cases he : z = 1
      · subst he
        go_wp2_with fail
        go_ret
        have hok : lackOk b many := ⟨by omega, fun h => by omega, Hw6.out, Hw7.out, by rw [HZ.out, if_pos (by omega)]⟩
        first
          | exact ⟨_, 0, rfl, FlawOf.none σ, .inl ⟨hok, rfl⟩, Hb0.out.trans (Hb7.out.mono Hb0.out.size)⟩
          | exact ⟨_, rfl, 0, FlawOf.none σ, .inl ⟨hok, rfl⟩, Hb0.out.trans (Hb7.out.mono Hb0.out.size)⟩
      · have he1 : (z != 1) = true := by simpa using he
        have He := Lib.hid he
        clear he
        go_wp2_with fail
        go_ret
        have hno : ¬ lackOk b many := fun hh => by
          have h5 := hh.2.2.2.2
          rw [HZ.out, if_pos (by omega)] at h5
          exact He.out h5
        first
          | exact ⟨_, 4, rfl, HG7.out.flaw_en 255, .inr ⟨hno, rfl⟩, Hb0.out.trans (Hb7.out.mono Hb0.out.size)⟩
          | exact ⟨_, rfl, 4, HG7.out.flaw_en 255, .inr ⟨hno, rfl⟩, Hb0.out.trans (Hb7.out.mono Hb0.out.size)⟩
end Go.Proofs.YtpdfmpegcejmkaaGreatDoor
