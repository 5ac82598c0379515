/- What a field's bytes tell. -/
/- A reader's fields. -/
/- How many parts a reader's text or row has. -/
/- A reader's texts; what is left. -/
import Derived.Test.YtifoiiaddcgngaaGreatDoorReadBase
import Derived.StillTailTactics
namespace Go.Proofs.YtifoiiaddcgngaaGreatDoor
open Go.RowKit
theorem ofInt64 (a : Nat) (ha : a < 9223372036854775808) : (BitVec.ofInt 64 (a : Int)).toNat = a := by
  rw [BitVec.ofInt_natCast, BitVec.toNat_ofNat]; exact Nat.mod_eq_of_lt (by omega)
/-- Bits that lie apart are added. -/
theorem or_sum (x y : Int) (c m : Nat) (hc : c = 2 ^ m) (hx : 0 ≤ x) (hd : x % (c : Int) = 0) (hy : 0 ≤ y) (hyc : y < (c : Int)) (hs : x + y < 9223372036854775808) : bits .or .i64 x y = x + y := by
  obtain ⟨a, rfl⟩ := Int.eq_ofNat_of_zero_le hx
  obtain ⟨b, rfl⟩ := Int.eq_ofNat_of_zero_le hy
  have hdv : c ∣ a := by
    have : (c : Int) ∣ (a : Int) := Int.dvd_of_emod_eq_zero hd
    exact Int.ofNat_dvd.1 this
  obtain ⟨q, rfl⟩ := hdv
  have hbc : b < 2 ^ m := by omega
  have hor : c * q ||| b = c * q + b := by rw [hc, ← Nat.two_pow_add_eq_or_of_lt hbc]
  show IntKind.i64.wrap ((BitVec.ofInt 64 ((c * q : Nat) : Int) ||| BitVec.ofInt 64 (b : Int)).toNat : Int) = _
  rw [BitVec.toNat_or, ofInt64 _ (by omega), ofInt64 b (by omega), hor]
  exact IntWalk.i64_in _ (by omega)
theorem or_zero (y : Int) (hy : 0 ≤ y) (hs : y < 9223372036854775808) : bits .or .i64 0 y = y := by
  obtain ⟨b, rfl⟩ := Int.eq_ofNat_of_zero_le hy
  show IntKind.i64.wrap ((BitVec.ofInt 64 ((0 : Nat) : Int) ||| BitVec.ofInt 64 (b : Int)).toNat : Int) = _
  rw [BitVec.toNat_or, ofInt64 _ (by omega), ofInt64 b (by omega), Nat.zero_or]
  exact IntWalk.i64_in _ (by omega)
set_option maxRecDepth 100000 in
theorem number_six (w : World) (b o c : Nat) (z0 z1 z2 z3 z4 z5 : Int) (hz : BytesAt w (some ⟨b, o, none⟩) [z0, z1, z2, z3, z4, z5]) :
    Calls Tryz.prog 62 #[.slice (some ⟨b, o, none⟩) 6 c] w fun e w' => e = .returned (.int .i64 (unle [z0, z1, z2, z3, z4, z5])) ∧ ∃ n, w' = w.drewN n := by
  have c0 : w.cell? ⟨b, o, none⟩ = some (.int .u8 z0) := hz.one 0 (by simp)
  have c1 : w.cell? ⟨b, o + 1, none⟩ = some (.int .u8 z1) := hz.one 1 (by simp)
  have c2 : w.cell? ⟨b, o + 2, none⟩ = some (.int .u8 z2) := hz.one 2 (by simp)
  have c3 : w.cell? ⟨b, o + 3, none⟩ = some (.int .u8 z3) := hz.one 3 (by simp)
  have c4 : w.cell? ⟨b, o + 4, none⟩ = some (.int .u8 z4) := hz.one 4 (by simp)
  have c5 : w.cell? ⟨b, o + 5, none⟩ = some (.int .u8 z5) := hz.one 5 (by simp)
  have b0 := hz.1 z0 (by simp)
  have b1 := hz.1 z1 (by simp)
  have b2 := hz.1 z2 (by simp)
  have b3 := hz.1 z3 (by simp)
  have b4 := hz.1 z4 (by simp)
  have b5 := hz.1 z5 (by simp)
  clear hz
  go_enter Tryz.func62, Tryz.ntmps62
  go_wp2_with fail
  go_quiet (fail)
  go_wp2_with fail
  go_quiet (fail)
  go_wp2_with fail
  go_ret
  exact ⟨ret_int (by
    rw [or_sum (z5 * 1099511627776) (z4 * 4294967296) 1099511627776 40 (by decide) (by omega) (by omega) (by omega) (by omega) (by omega), or_zero _ (by omega) (by omega),
      or_sum (z3 * 16777216) (z2 * 65536) 16777216 24 (by decide) (by omega) (by omega) (by omega) (by omega) (by omega),
      or_sum _ (z3 * 16777216 + z2 * 65536) 4294967296 32 (by decide) (by omega) (by omega) (by omega) (by omega) (by omega),
      or_sum _ (z1 * 256) 65536 16 (by decide) (by omega) (by omega) (by omega) (by omega) (by omega),
      or_sum _ z0 256 8 (by decide) (by omega) (by omega) (by omega) (by omega) (by omega)]
    simp only [unle]; omega
    ), _, rfl⟩
set_option maxRecDepth 100000 in
theorem number_four (w : World) (b o c : Nat) (z0 z1 z2 z3 : Int) (hz : BytesAt w (some ⟨b, o, none⟩) [z0, z1, z2, z3]) :
    Calls Tryz.prog 62 #[.slice (some ⟨b, o, none⟩) 4 c] w fun e w' => e = .returned (.int .i64 (unle [z0, z1, z2, z3])) ∧ ∃ n, w' = w.drewN n := by
  have c0 : w.cell? ⟨b, o, none⟩ = some (.int .u8 z0) := hz.one 0 (by simp)
  have c1 : w.cell? ⟨b, o + 1, none⟩ = some (.int .u8 z1) := hz.one 1 (by simp)
  have c2 : w.cell? ⟨b, o + 2, none⟩ = some (.int .u8 z2) := hz.one 2 (by simp)
  have c3 : w.cell? ⟨b, o + 3, none⟩ = some (.int .u8 z3) := hz.one 3 (by simp)
  have b0 := hz.1 z0 (by simp)
  have b1 := hz.1 z1 (by simp)
  have b2 := hz.1 z2 (by simp)
  have b3 := hz.1 z3 (by simp)
  clear hz
  go_enter Tryz.func62, Tryz.ntmps62
  go_wp2_with fail
  go_quiet (fail)
  go_wp2_with fail
  go_ret
  exact ⟨ret_int (by
    rw [or_sum (z3 * 16777216) (z2 * 65536) 16777216 24 (by decide) (by omega) (by omega) (by omega) (by omega) (by omega), or_zero _ (by omega) (by omega),
      or_sum _ (z1 * 256) 65536 16 (by decide) (by omega) (by omega) (by omega) (by omega) (by omega),
      or_sum _ z0 256 8 (by decide) (by omega) (by omega) (by omega) (by omega) (by omega)]
    simp only [unle]; omega
    ), _, rfl⟩
set_option maxRecDepth 100000 in
theorem number_two (w : World) (b o c : Nat) (z0 z1 : Int) (hz : BytesAt w (some ⟨b, o, none⟩) [z0, z1]) :
    Calls Tryz.prog 62 #[.slice (some ⟨b, o, none⟩) 2 c] w fun e w' => e = .returned (.int .i64 (unle [z0, z1])) ∧ ∃ n, w' = w.drewN n := by
  have c0 : w.cell? ⟨b, o, none⟩ = some (.int .u8 z0) := hz.one 0 (by simp)
  have c1 : w.cell? ⟨b, o + 1, none⟩ = some (.int .u8 z1) := hz.one 1 (by simp)
  have b0 := hz.1 z0 (by simp)
  have b1 := hz.1 z1 (by simp)
  clear hz
  go_enter Tryz.func62, Tryz.ntmps62
  go_wp2_with fail
  go_ret
  exact ⟨ret_int (by
    rw [or_zero _ (by omega) (by omega), or_sum _ z0 256 8 (by decide) (by omega) (by omega) (by omega) (by omega) (by omega)]
    simp only [unle]; omega
    ), 0, rfl⟩
set_option maxRecDepth 100000 in
theorem number_one (w : World) (b o c : Nat) (z0 : Int) (hz : BytesAt w (some ⟨b, o, none⟩) [z0]) :
    Calls Tryz.prog 62 #[.slice (some ⟨b, o, none⟩) 1 c] w fun e w' => e = .returned (.int .i64 (unle [z0])) ∧ ∃ n, w' = w.drewN n := by
  have c0 : w.cell? ⟨b, o, none⟩ = some (.int .u8 z0) := hz.one 0 (by simp)
  have b0 := hz.1 z0 (by simp)
  clear hz
  go_enter Tryz.func62, Tryz.ntmps62
  go_wp2_with fail
  go_ret
  exact ⟨ret_int (by
    rw [or_zero _ (by omega) (by omega)]
    simp only [unle]; omega
    ), 0, rfl⟩
/-- In one. -/
theorem number_any (w : World) (A : Option Addr) (c k : Nat) (zs : List Int) (hk : zs.length = k) (ht : 0 ≤ top k) (hz : BytesAt w A zs) :
    Calls Tryz.prog 62 #[.slice A k c] w fun e w' => e = .returned (.int .i64 (unle zs)) ∧ ∃ n, w' = w.drewN n := by
  have hp : 0 < k := by rcases top_cases (k : Int) with ⟨e, _⟩ | ⟨e, _⟩ | ⟨e, _⟩ | ⟨e, _⟩ | ⟨_, _, _, _, t⟩ <;> omega
  obtain ⟨b, o, rfl⟩ := hz.some_ (by intro e; subst e; simp at hk; omega)
  rcases top_cases (k : Int) with ⟨e, t⟩ | ⟨e, t⟩ | ⟨e, t⟩ | ⟨e, t⟩ | ⟨_, _, _, _, t⟩
  · obtain rfl : k = 1 := by omega
    match zs, hk with
    | [z0], _ => exact number_one w b o c z0 hz
  · obtain rfl : k = 2 := by omega
    match zs, hk with
    | [z0, z1], _ => exact number_two w b o c z0 z1 hz
  · obtain rfl : k = 4 := by omega
    match zs, hk with
    | [z0, z1, z2, z3], _ => exact number_four w b o c z0 z1 z2 z3 hz
  · obtain rfl : k = 6 := by omega
    match zs, hk with
    | [z0, z1, z2, z3, z4, z5], _ => exact number_six w b o c z0 z1 z2 z3 z4 z5 hz
  · omega
end Go.Proofs.YtifoiiaddcgngaaGreatDoor
namespace Go.Proofs.YtifoiiaddcgngaaGreatDoor
open Go.RowKit
theorem RdAt.drew {σ : Sen} {w : World} {g : Nat} {bs : List Int} {s : RSt} (h : RdAt σ w g bs s) : RdAt σ w.drew g bs s := by
  obtain ⟨x, cap, k, ev, h⟩ := h
  exact ⟨x, cap, k, ev, h.blk, h.rd, h.off, h.len, h.err⟩
theorem RdAt.drewN {σ : Sen} {w : World} {g : Nat} {bs : List Int} {s : RSt} (h : RdAt σ w g bs s) (n : Nat) : RdAt σ (w.drewN n) g bs s := by
  obtain ⟨x, cap, k, ev, h⟩ := h
  exact ⟨x, cap, k, ev, h.blk, h.rd, h.off, h.len, h.err⟩
/-- Nothing but draws. -/
def Qu (w w1 : World) : Prop := ∃ n, w1 = w.drewN n
theorem Qu.trans {a b c : World} (h : Qu a b) (k : Qu b c) : Qu a c := by
  obtain ⟨n, rfl⟩ := h
  obtain ⟨m, rfl⟩ := k
  exact ⟨_, World.drewN_drewN _ _ _⟩
theorem Qu.grown {w w1 : World} (h : Qu w w1) (row : Option Nat) : w.grownBy w1 row := by
  obtain ⟨n, rfl⟩ := h; exact grown_drewN (World.grownBy.refl _ _) n
theorem Qu.cell {w w1 : World} (h : Qu w w1) (a : Addr) : w1.cell? a = w.cell? a := by
  obtain ⟨n, rfl⟩ := h; rfl
theorem Qu.below {w w1 : World} (h : Qu w w1) (B : Nat) : Below B w w1 := by
  obtain ⟨n, rfl⟩ := h; exact Below.drewN (Below.refl _ _) n
theorem undrew_grown {w w' : World} {row : Option Nat} (h : w.drew.grownBy w' row) : w.grownBy w' row := ⟨h.os, h.tape, h.output, h.size, h.block⟩
theorem undrewN_grown {w w' : World} {row : Option Nat} (n : Nat) (h : (w.drewN n).grownBy w' row) : w.grownBy w' row := ⟨h.os, h.tape, h.output, h.size, h.block⟩
set_option maxRecDepth 100000 in
theorem rfield_none (σ : Sen) (w0 w : World) (g : Nat) (bs : List Int) (j : Nat) (wd : Int) (h : RdAt σ w g bs (.ok j)) (hE : EnvF σ w0 g w) (ht : top wd < 0) :
    Calls Tryz.prog 30 #[.pointer (some ⟨g, 0, none⟩), .int .i64 wd] w fun e w' => e = .returned (.int .i64 0) ∧ RdAt σ w' g bs (.bad j false) ∧ w.grownBy w' (some g) := by
  obtain ⟨x, cap, k, ev, hI⟩ := h
  obtain ⟨c0, c1, c2, c3⟩ := reader_cells hI.blk
  obtain ⟨rfl, rfl⟩ := hI.err
  have hR : RdAt σ w g bs (.ok j) := ⟨x, cap, j, _, hI⟩
  have cg := hE.at_.wd
  have hne := hE.gl.ne.1
  have HI := Lib.hid hI
  clear hI c0 c2 c3 hE
  go_enter Tryz.func30, Tryz.ntmps30
  go_wp2_with fail
  refine (going_is σ w g bs _ hR).mono ?_
  rintro e w' ⟨rfl, rfl⟩
  unfold isOk
  go_wp2_with fail
  refine (greatest_any wd _).mono ?_
  rintro e w' ⟨rfl, rfl⟩
  go_wp2_with fail
  go_still_tail 7, (by kernel_rfl)
  go_wp2_with fail
  refine (fail_is σ _ g bs j j σ.wd (RdAt.drew hR) (.inl rfl) false (by simp [hne])).mono ?_
  rintro e w2 ⟨rfl, hR2, hg2⟩
  go_wp2_with fail
  go_ret
  exact ⟨rfl, hR2, undrew_grown hg2⟩
set_option maxRecDepth 100000 in
theorem rfield_bad (σ : Sen) (w : World) (g : Nat) (bs : List Int) (p : Nat) (l : Bool) (v : Value) (h : RdAt σ w g bs (.bad p l)) :
    Calls Tryz.prog 30 #[.pointer (some ⟨g, 0, none⟩), v] w fun e w' => e = .returned (.int .i64 0) ∧ w' = w := by
  go_enter Tryz.func30, Tryz.ntmps30
  go_wp2_with fail
  refine (going_is σ w g bs _ h).mono ?_
  rintro e w' ⟨rfl, rfl⟩
  unfold isOk
  go_wp2_with fail
  go_ret
  exact ⟨rfl, rfl⟩
set_option maxRecDepth 100000 in
theorem rfield_few (σ : Sen) (w0 w : World) (g : Nat) (bs : List Int) (j : Nat) (wd : Int) (h : RdAt σ w g bs (.ok j)) (hE : EnvF σ w0 g w) (_hl : bs.length ≤ 140737488351232) (ht : 0 ≤ top wd) (hf : (bs.length : Int) - j < wd) :
    Calls Tryz.prog 30 #[.pointer (some ⟨g, 0, none⟩), .int .i64 wd] w fun e w' => e = .returned (.int .i64 0) ∧ RdAt σ w' g bs (.bad j false) ∧ w.grownBy w' (some g) := by
  obtain ⟨x, cap, k, ev, hI⟩ := h
  obtain ⟨c0, c1, c2, c3⟩ := reader_cells hI.blk
  obtain ⟨rfl, rfl⟩ := hI.err
  have hR : RdAt σ w g bs (.ok j) := ⟨x, cap, j, _, hI⟩
  have cg := hE.at_.few
  have hne := hE.gl.ne.2.1
  have hjl := hI.len.2.2
  clear hI c0 c2 c3 hE
  go_enter Tryz.func30, Tryz.ntmps30
  go_wp2_with fail
  refine (going_is σ w g bs _ hR).mono ?_
  rintro e w' ⟨rfl, rfl⟩
  unfold isOk
  go_wp2_with fail
  refine (greatest_any wd _).mono ?_
  rintro e w' ⟨rfl, rfl⟩
  have htl : ¬ top wd < 0 := by omega
  go_wp2_with fail
  refine (left_is σ _ g bs j hR).mono ?_
  rintro e w' ⟨rfl, n, rfl⟩
  have hf' : decide ((bs.length : Int) - (j : Int) < wd) = true := decide_eq_true hf
  have hRn := hR.drewN n
  have c1n : (w.drewN n).cell? ⟨g, 1, none⟩ = some (.int .i64 (j : Int)) := c1
  have cgn : (w.drewN n).cell? ⟨1, 0, none⟩ = some (errV σ.few) := cg
  have hgn : w.grownBy (w.drewN n) (some g) := grown_drewN (World.grownBy.refl _ _) n
  clear c1 cg hR
  generalize w.drewN n = W at *
  go_wp2_with fail
  go_still_tail 7, (by kernel_rfl)
  go_wp2_with fail
  refine (fail_is σ _ g bs j j σ.few (RdAt.drew hRn) (.inr (.inl rfl)) false (by simp [hne])).mono ?_
  rintro e w2 ⟨rfl, hR2, hg2⟩
  go_wp2_with fail
  go_ret
  exact ⟨rfl, hR2, hgn.trans (undrew_grown hg2)⟩
/-- The bytes at a reader's place. -/
theorem here_bytes {σ : Sen} {w : World} {g : Nat} {bs : List Int} {j : Nat} {x : Option Addr} {cap : Nat} (h : RdIs σ w g bs (.ok j) x cap j .nilIface) (m : Nat) : BytesAt w (cutAt x cap j) ((bs.drop j).take m) :=
  front_reads (cut_reads h.rd h.len.1)
theorem here_len (bs : List Int) (j m : Nat) (h : j + m ≤ bs.length) : ((bs.drop j).take m).length = m := by
  rw [List.length_take, List.length_drop]; omega
set_option maxRecDepth 100000 in
set_option maxHeartbeats 1000000 in
theorem rfield_here (σ : Sen) (w0 w : World) (g : Nat) (bs : List Int) (j wn : Nat) (h : RdAt σ w g bs (.ok j)) (hE : EnvF σ w0 g w) (_hl : bs.length ≤ 140737488351232) (ht : 0 ≤ top wn) (hf : j + wn ≤ bs.length) :
    Calls Tryz.prog 30 #[.pointer (some ⟨g, 0, none⟩), .int .i64 (wn : Int)] w fun e w' =>
      (top wn < unle ((bs.drop j).take wn) → e = .returned (.int .i64 0) ∧ RdAt σ w' g bs (.bad j false)) ∧ (¬ top wn < unle ((bs.drop j).take wn) → e = .returned (.int .i64 (unle ((bs.drop j).take wn))) ∧ RdAt σ w' g bs (.ok (j + wn))) ∧ w.grownBy w' (some g) := by
  obtain ⟨x, cap, k, ev, hI⟩ := h
  obtain ⟨c0, c1, c2, c3⟩ := reader_cells hI.blk
  obtain ⟨rfl, rfl⟩ := hI.err
  have hR : RdAt σ w g bs (.ok j) := ⟨x, cap, j, _, hI⟩
  have cg := hE.at_.gr
  have hne := hE.gl.ne.2.2
  have hjl := hI.len.2.2
  have HI := Lib.hid hI
  clear hI c0 c2 c3 hE
  have Hc := Lib.hid (And.intro c1 cg)
  clear c1 cg
  go_enter Tryz.func30, Tryz.ntmps30
  go_wp2_with fail
  refine (going_is σ w g bs _ hR).mono ?_
  rintro e w' ⟨rfl, rfl⟩
  unfold isOk
  go_wp2_with fail
  refine (greatest_any wn _).mono ?_
  rintro e w' ⟨rfl, rfl⟩
  have htl : ¬ top (wn : Int) < 0 := by omega
  go_wp2_with fail
  refine (left_is σ _ g bs j hR).mono ?_
  rintro e w1 ⟨rfl, hq1⟩
  have hq1 : Qu w w1 := hq1
  have hf' : ¬ ((bs.length : Int) - (j : Int) < (wn : Int)) := by omega
  have hI1 := HI.out.kept (hq1.grown none) (by simp) (fun _ _ => by simp)
  go_wp2_with fail
  refine (next_is σ w1 g bs j wn x cap hI1 hf).mono ?_
  rintro e w2 ⟨rfl, hq2⟩
  have hq2 := hq1.trans hq2
  have hI2 := HI.out.kept (hq2.grown none) (by simp) (fun _ _ => by simp)
  go_wp2_with fail
  refine (number_any w2 (cutAt x cap j) (cap - j) wn _ (here_len bs j wn hf) ht (here_bytes hI2 wn)).mono ?_
  rintro e w3 ⟨rfl, hq3⟩
  have hq3 := hq2.trans hq3
  have hI3 := HI.out.kept (hq3.grown none) (by simp) (fun _ _ => by simp)
  have hR3 : RdAt σ w3 g bs (.ok j) := ⟨x, cap, j, _, hI3⟩
  generalize hv : unle ((bs.drop j).take wn) = v
  have Hv := Lib.hid hv; clear hv
  have c1 := (hq3.cell _).trans Hc.out.1
  have cg := (hq3.cell _).trans Hc.out.2
  have hg3 := hq3.grown (some g)
  clear hI1 hI2 hI3 hq1 hq2 hq3 HI Hc hR
  by_cases hgt : top wn < v
  · go_wp2_with fail
    go_still_tail 7, (by kernel_rfl)
    go_wp2_with fail
    refine (fail_is σ _ g bs j j σ.gr (RdAt.drew hR3) (.inr (.inr (.inl rfl))) false (by simp [hne])).mono ?_
    rintro e w4 ⟨rfl, hR4, hg4⟩
    go_wp2_with fail
    go_ret
    exact ⟨fun _ => ⟨rfl, hR4⟩, fun h => absurd hgt (by rw [Hv.out] at h; omega), hg3.trans (undrew_grown hg4)⟩
  · clear c1 cg
    go_wp2_with fail
    refine (pass_is σ w3 g bs j wn hR3 hf).mono ?_
    rintro e w4 ⟨rfl, hR4, hg4⟩
    go_wp2_with fail
    go_ret
    exact ⟨fun h => absurd h (by rw [Hv.out]; omega), fun _ => ⟨by rw [Hv.out]; rfl, hR4⟩, hg3.trans hg4⟩
theorem top_nat (wd : Int) (h : 0 ≤ top wd) : ∃ n : Nat, wd = n ∧ n ≤ 6 := by
  rcases top_cases wd with ⟨e, _⟩ | ⟨e, _⟩ | ⟨e, _⟩ | ⟨e, _⟩ | ⟨_, _, _, _, t⟩
  · exact ⟨1, e, by decide⟩
  · exact ⟨2, e, by decide⟩
  · exact ⟨4, e, by decide⟩
  · exact ⟨6, e, by decide⟩
  · omega
/-- What a call of a reader's leaves. -/
structure Got (σ : Sen) (w : World) (g : Nat) (bs : List Int) (s : RSt) (w' : World) : Prop where
  rd : RdAt σ w' g bs s
  fr : w.grownBy w' (some g)
theorem Got.trans {σ : Sen} {w w1 w2 : World} {g : Nat} {bs : List Int} {s t : RSt} (h : Got σ w g bs s w1) (k : Got σ w1 g bs t w2) : Got σ w g bs t w2 := ⟨k.rd, h.fr.trans k.fr⟩
theorem Got.same {σ : Sen} {w : World} {g : Nat} {bs : List Int} {s : RSt} (h : RdAt σ w g bs s) : Got σ w g bs s w := ⟨h, World.grownBy.refl _ _⟩
theorem rfield_any (σ : Sen) (w0 w : World) (g : Nat) (bs : List Int) (s : RSt) (wd : Int) (h : RdAt σ w g bs s) (hE : EnvF σ w0 g w) (hl : bs.length ≤ 140737488351232) :
    Calls Tryz.prog 30 #[.pointer (some ⟨g, 0, none⟩), .int .i64 wd] w fun e w' => e = .returned (.int .i64 (fieldR bs wd s).1) ∧ Got σ w g bs (fieldR bs wd s).2 w' := by
  cases s with
  | bad p l => exact (rfield_bad σ w g bs p l _ h).mono fun e w' ⟨he, hw⟩ => ⟨he, by subst hw; exact Got.same h⟩
  | ok j =>
    have hjl : j ≤ bs.length := by
      obtain ⟨x, cap, k, ev, hI⟩ := h
      obtain ⟨rfl, _⟩ := hI.err
      exact hI.len.2.2
    by_cases ht : top wd < 0
    · have e1 : fieldR bs wd (.ok j) = (0, .bad j false) := by simp [fieldR, ht]
      rw [e1]
      exact (rfield_none σ w0 w g bs j wd h hE ht).mono fun e w' ⟨h1, h2, h3⟩ => ⟨h1, h2, h3⟩
    · obtain ⟨wn, rfl, hw6⟩ := top_nat wd (by omega)
      by_cases hf : (bs.length : Int) - j < wn
      · have e1 : fieldR bs wn (.ok j) = (0, .bad j false) := by simp [fieldR, hf]
        rw [e1]
        exact (rfield_few σ w0 w g bs j wn h hE hl (by omega) hf).mono fun e w' ⟨h1, h2, h3⟩ => ⟨h1, h2, h3⟩
      · by_cases hv : top wn < unle ((bs.drop j).take wn)
        · have e1 : fieldR bs wn (.ok j) = (0, .bad j false) := by simp [fieldR, ht, hf, hv]
          rw [e1]
          exact (rfield_here σ w0 w g bs j wn h hE hl (by omega) (by omega)).mono fun e w' ⟨h1, h2, h3⟩ => ⟨(h1 hv).1, (h1 hv).2, h3⟩
        · have e1 : fieldR bs wn (.ok j) = (unle ((bs.drop j).take wn), .ok (j + wn)) := by simp [fieldR, ht, hf, hv]
          rw [e1]
          exact (rfield_here σ w0 w g bs j wn h hE hl (by omega) (by omega)).mono fun e w' ⟨h1, h2, h3⟩ => ⟨(h2 hv).1, (h2 hv).2, h3⟩
end Go.Proofs.YtifoiiaddcgngaaGreatDoor
namespace Go.Proofs.YtifoiiaddcgngaaGreatDoor
open Go.RowKit
theorem fieldR_bd (bs : List Int) (hb : ∀ z ∈ bs, 0 ≤ z ∧ z < 256) (wd : Int) (s : RSt) : 0 ≤ (fieldR bs wd s).1 ∧ ((fieldR bs wd s).1 = 0 ∨ (fieldR bs wd s).1 ≤ top wd) := by
  cases s with
  | bad p l => exact ⟨Int.le_refl _, .inl rfl⟩
  | ok k =>
    unfold fieldR
    simp only
    split
    · exact ⟨Int.le_refl _, .inl rfl⟩
    · split
      · exact ⟨Int.le_refl _, .inl rfl⟩
      · have h1 := unle_bd ((bs.drop k).take wd.toNat) (fun z hz => hb z (List.mem_of_mem_drop (List.mem_of_mem_take hz)))
        exact ⟨h1.1, .inr (by show unle _ ≤ _; omega)⟩
theorem RdAt.bytes {σ : Sen} {w : World} {g : Nat} {bs : List Int} {s : RSt} (h : RdAt σ w g bs s) : ∀ z ∈ bs, 0 ≤ z ∧ z < 256 := by
  obtain ⟨x, cap, k, ev, h⟩ := h
  exact h.rd.1
theorem RdAt.qu {σ : Sen} {w w1 : World} {g : Nat} {bs : List Int} {s : RSt} (h : RdAt σ w g bs s) (hq : Qu w w1) : RdAt σ w1 g bs s := by
  obtain ⟨n, rfl⟩ := hq; exact h.drewN n
theorem RdAt.place {σ : Sen} {w : World} {g : Nat} {bs : List Int} {j : Nat} (h : RdAt σ w g bs (.ok j)) : w.cell? ⟨g, 1, none⟩ = some (.int .i64 (j : Int)) ∧ j ≤ bs.length := by
  obtain ⟨x, cap, k, ev, h⟩ := h
  obtain ⟨rfl, _⟩ := h.err
  exact ⟨h.blk.cell 1, h.len.2.2⟩
theorem countR_bad (bs : List Int) (wd most each : Int) (s : RSt) (p : Nat) (l : Bool) (h : (fieldR bs wd s).2 = .bad p l) : countR bs wd most each s = (0, .bad p l) := by
  cases s with
  | bad p' l' =>
    simp [fieldR] at h
    simp [countR, h]
  | ok k =>
    unfold countR
    simp only
    generalize fieldR bs wd (.ok k) = r at *
    obtain ⟨n, t⟩ := r
    simp only at h
    subst h; rfl
theorem countR_ok (bs : List Int) (wd most each : Int) (k j : Nat) (h : (fieldR bs wd (.ok k)).2 = .ok j) :
    countR bs wd most each (.ok k) = if (fieldR bs wd (.ok k)).1 > most then (0, .bad k true) else if (fieldR bs wd (.ok k)).1 * each > (bs.length : Int) - j then (0, .bad k false) else ((fieldR bs wd (.ok k)).1, .ok j) := by
  unfold countR
  simp only
  generalize fieldR bs wd (.ok k) = r at *
  obtain ⟨n, t⟩ := r
  simp only at h
  subst h; rfl
set_option maxRecDepth 100000 in
set_option maxHeartbeats 1000000 in
theorem rcount_any (σ : Sen) (w0 w : World) (g : Nat) (bs : List Int) (s : RSt) (wd most each : Int) (h : RdAt σ w g bs s) (hE : Env σ w0 g w) (hl : bs.length ≤ 140737488351232) (ht : 0 ≤ top wd ∧ top wd ≤ 65535) (he : each = 1 ∨ each = 6) :
    Calls Tryz.prog 66 #[.pointer (some ⟨g, 0, none⟩), .int .i64 wd, .int .i64 most, .int .i64 each] w fun e w' => e = .returned (.int .i64 (countR bs wd most each s).1) ∧ Got σ w g bs (countR bs wd most each s).2 w' := by
  have hbd := h.bytes
  cases s with
  | bad p l =>
    go_enter Tryz.func66, Tryz.ntmps66
    go_wp2_with fail
    refine (going_is σ w g bs _ h).mono ?_
    rintro e w' ⟨rfl, rfl⟩
    unfold isOk
    go_wp2_with fail
    go_ret
    exact ⟨rfl, Got.same h⟩
  | ok k =>
    have HE := Lib.hid hE
    have hne := hE.gl.ne
    obtain ⟨c1, hk⟩ := h.place
    clear hE
    go_enter Tryz.func66, Tryz.ntmps66
    go_wp2_with fail
    refine (going_is σ w g bs _ h).mono ?_
    rintro e w' ⟨rfl, rfl⟩
    unfold isOk
    go_wp2_with fail
    clear c1
    refine (rfield_any σ w0 w g bs (.ok k) wd h HE.out.f hl).mono ?_
    rintro e w1 ⟨rfl, hG⟩
    have hE1 := HE.out.grown hG.fr
    have hvb := fieldR_bd bs hbd wd (.ok k)
    cases hs : (fieldR bs wd (.ok k)).2 with
    | bad p l =>
      rw [hs] at hG
      have e1 := countR_bad bs wd most each _ p l hs
      have He := Lib.hid e1
      clear e1 hs
      generalize (fieldR bs wd (.ok k)).1 = v at *
      go_wp2_with fail
      refine (going_is σ w1 g bs _ hG.rd).mono ?_
      rintro e w' ⟨rfl, rfl⟩
      unfold isOk
      go_wp2_with fail
      go_ret
      exact ⟨by rw [He.out]; rfl, by rw [He.out]; exact hG⟩
    | ok j =>
      rw [hs] at hG
      have e1 := countR_ok bs wd most each k j hs
      have He := Lib.hid e1
      clear e1 hs
      generalize (fieldR bs wd (.ok k)).1 = v at *
      have cm := hE1.at_.mu
      have cf := hE1.at_.few
      go_wp2_with fail
      refine (going_is σ w1 g bs _ hG.rd).mono ?_
      rintro e w' ⟨rfl, rfl⟩
      unfold isOk
      have hv2 : v ≤ 65535 := by omega
      by_cases hgt : most < v
      · go_wp2_with fail
        refine (fail_is σ _ g bs j k σ.mu hG.rd (.inr (.inr (.inr (.inl rfl)))) true (by simp)).mono ?_
        rintro e w4 ⟨rfl, hR4, hg4⟩
        go_wp2_with fail
        go_ret
        exact ⟨by rw [He.out, if_pos hgt]; rfl, by rw [He.out, if_pos hgt]; exact ⟨hR4, hG.fr.trans hg4⟩⟩
      · rcases he with rfl | rfl
        all_goals
          go_wp2_with fail
          refine (left_is σ w1 g bs j hG.rd).mono ?_
          rintro e w2 ⟨rfl, hq⟩
          have hq : Qu w1 w2 := hq
          have hG2 : Got σ w g bs (.ok j) w2 := hG.trans ⟨hG.rd.qu hq, hq.grown _⟩
          have cf2 := (hq.cell _).trans cf
          clear cf cm
          first
          | (by_cases hfew : (bs.length : Int) - (j : Int) < v
             · go_wp2_with fail
               refine (fail_is σ _ g bs j k σ.few hG2.rd (.inr (.inl rfl)) false (by simp [hne.2.1])).mono ?_
               rintro e w4 ⟨rfl, hR4, hg4⟩
               go_wp2_with fail
               go_ret
               exact ⟨by rw [He.out, if_neg (by omega), if_pos (by omega)]; rfl, by rw [He.out, if_neg (by omega), if_pos (by omega)]; exact ⟨hR4, hG2.fr.trans hg4⟩⟩
             · go_wp2_with fail
               go_ret
               exact ⟨by rw [He.out, if_neg (by omega), if_neg (by omega)]; rfl, by rw [He.out, if_neg (by omega), if_neg (by omega)]; exact hG2⟩)
          | (by_cases hfew : (bs.length : Int) - (j : Int) < v * 6
             · go_wp2_with fail
               refine (fail_is σ _ g bs j k σ.few hG2.rd (.inr (.inl rfl)) false (by simp [hne.2.1])).mono ?_
               rintro e w4 ⟨rfl, hR4, hg4⟩
               go_wp2_with fail
               go_ret
               exact ⟨by rw [He.out, if_neg (by omega), if_pos (by omega)]; rfl, by rw [He.out, if_neg (by omega), if_pos (by omega)]; exact ⟨hR4, hG2.fr.trans hg4⟩⟩
             · go_wp2_with fail
               go_ret
               exact ⟨by rw [He.out, if_neg (by omega), if_neg (by omega)]; rfl, by rw [He.out, if_neg (by omega), if_neg (by omega)]; exact hG2⟩)
end Go.Proofs.YtifoiiaddcgngaaGreatDoor
namespace Go.Proofs.YtifoiiaddcgngaaGreatDoor
open Go.RowKit
theorem countR_le (bs : List Int) (hb : ∀ z ∈ bs, 0 ≤ z ∧ z < 256) (wd most each : Int) (s : RSt) (j : Nat) (h : (countR bs wd most each s).2 = .ok j) :
    0 ≤ (countR bs wd most each s).1 ∧ (countR bs wd most each s).1 * each ≤ (bs.length : Int) - j ∧ (countR bs wd most each s).1 ≤ most := by
  cases s with
  | bad p l => simp [countR] at h
  | ok k =>
    cases hs : (fieldR bs wd (.ok k)).2 with
    | bad p l => rw [countR_bad bs wd most each _ p l hs] at h; cases h
    | ok i =>
      have h0 := (fieldR_bd bs hb wd (.ok k)).1
      rw [countR_ok bs wd most each k i hs] at h ⊢
      split at h
      · cases h
      · split at h
        · cases h
        · rename_i h1 h2
          rw [if_neg h1, if_neg h2]
          simp only [RSt.ok.injEq] at h
          subst h
          exact ⟨h0, by simp only; omega, by simp only; omega⟩
theorem countR_zero (bs : List Int) (wd most each : Int) (s : RSt) (p : Nat) (l : Bool) (h : (countR bs wd most each s).2 = .bad p l) : (countR bs wd most each s).1 = 0 := by
  cases s with
  | bad p l => rfl
  | ok k =>
    cases hs : (fieldR bs wd (.ok k)).2 with
    | bad p l => rw [countR_bad bs wd most each _ p l hs]
    | ok i =>
      rw [countR_ok bs wd most each k i hs] at h ⊢
      split
      · rfl
      · split
        · rfl
        · rename_i h1 h2
          rw [if_neg h1, if_neg h2] at h
          cases h
theorem textR_of (bs : List Int) (most : Int) (s : RSt) : textR bs most s = match (countR bs 2 most 1 s).2 with
    | .bad p l => ([], .bad p l)
    | .ok j => ((bs.drop j).take (countR bs 2 most 1 s).1.toNat, .ok (j + (countR bs 2 most 1 s).1.toNat)) := by
  unfold textR
  generalize countR bs 2 most 1 s = r
  obtain ⟨n, t⟩ := r
  cases t <;> rfl
set_option maxRecDepth 100000 in
set_option maxHeartbeats 1000000 in
theorem rtext_any (σ : Sen) (w0 w : World) (g : Nat) (bs : List Int) (s : RSt) (most : Int) (h : RdAt σ w g bs s) (hE : Env σ w0 g w) (hl : bs.length ≤ 140737488351232) :
    Calls Tryz.prog 32 #[.pointer (some ⟨g, 0, none⟩), .int .i64 most] w fun e w' => ∃ v, e = .returned v ∧ w'.ownsRow w.heap.size 5 1 v (textR bs most s).1.length (u8s (textR bs most s).1) ∧ Got σ w g bs (textR bs most s).2 w' := by
  have hbd := h.bytes
  have hgl : g < w.heap.size := by obtain ⟨x, cap, k, ev, h⟩ := h; exact h.blk.lt
  go_enter Tryz.func32, Tryz.ntmps32
  go_wp2_with fail
  refine (rcount_any σ w0 w g bs s 2 most 1 h hE hl (by decide) (.inl rfl)).mono ?_
  rintro e w1 ⟨rfl, hG⟩
  cases hs : (countR bs 2 most 1 s).2 with
  | bad p l =>
    rw [hs] at hG
    have hz := countR_zero bs 2 most 1 s p l hs
    rw [hz]
    have He := Lib.hid (show textR bs most s = ([], .bad p l) by rw [textR_of, hs])
    clear hs hz
    go_wp2_with fail
    go_ret
    rw [He.out]
    exact ⟨_, rfl, World.ownsRow_nil _ _ _ _, hG⟩
  | ok j =>
    rw [hs] at hG
    have hle := countR_le bs hbd 2 most 1 s j hs
    obtain ⟨n, hn⟩ := Int.eq_ofNat_of_zero_le hle.1
    have He := Lib.hid (show textR bs most s = ((bs.drop j).take n, .ok (j + n)) by rw [textR_of, hs, hn]; rfl)
    rw [hn] at hle ⊢
    clear hn hs
    by_cases hz : n = 0
    · subst hz
      go_wp2_with fail
      go_ret
      rw [He.out]
      exact ⟨_, rfl, World.ownsRow_nil _ _ _ _, hG⟩
    · obtain ⟨x, cap, k, ev, hI⟩ := hG.rd
      obtain ⟨rfl, rfl⟩ := hI.err
      have hjn : j + n ≤ bs.length := by have := hI.len.2.2; omega
      have hlen := here_len bs j n hjn
      have hz0 : ((n : Int) == 0) = false := by simp; omega
      go_wp2_with fail
      refine (next_is σ w1 g bs j n x cap hI hjn).mono ?_
      rintro e w2 ⟨rfl, hq⟩
      have hq : Qu w1 w2 := hq
      have hI2 := hI.kept (hq.grown none) (by simp) (fun _ _ => by simp)
      have hb2 := here_bytes hI2 n
      have hR2 : RdAt σ w2 g bs (.ok j) := ⟨x, cap, j, _, hI2⟩
      have HC := Lib.hid (clone_any w2 ((bs.drop j).take n) (cutAt x cap j) (cap - j) hb2 (by omega) (fun e => by
        obtain ⟨b, o, e'⟩ := hb2.some_ (by intro e2; rw [e2] at hlen; simp at hlen; omega)
        rw [e] at e'; cases e'))
      rw [hlen] at HC
      have Hlen := Lib.hid hlen
      have hs2 : w1.heap.size ≤ w2.heap.size := (hq.grown none).size
      have hG2 : Got σ w g bs (.ok j) w2 := hG.trans ⟨hR2, hq.grown _⟩
      clear hI hI2 hb2 hlen hR2
      go_wp2_with fail
      refine HC.out.mono ?_
      rintro e w3 ⟨v, rfl, hown, hb3⟩
      have hR3 := hG2.rd.below hb3
      have Hown := Lib.hid hown
      have hgs := hG2.fr.size
      clear hown
      go_wp2_with fail
      refine (pass_is σ w3 g bs j n hR3 hjn).mono ?_
      rintro e w4 ⟨rfl, hR4, hg4⟩
      have hown4 := Hown.out.kept hg4 (.inr (by
        intro e
        have := Hown.out.lt g e
        omega))
      go_wp2_with fail
      go_ret
      rw [He.out]
      exact ⟨v, rfl, own_mono (own_same hown4 Hlen.out.symm rfl) hgs, hR4, (hG2.fr.trans (grown_below hb3 _)).trans hg4⟩
theorem rleft_any (σ : Sen) (w : World) (g : Nat) (bs : List Int) (s : RSt) (h : RdAt σ w g bs s) :
    Calls Tryz.prog 42 #[.pointer (some ⟨g, 0, none⟩)] w fun e w' => e = .returned (.int .i64 (leftR bs s)) ∧ ∃ n, w' = w.drewN n := by
  cases s with
  | bad p l =>
    go_enter Tryz.func42, Tryz.ntmps42
    go_wp2_with fail
    refine (going_is σ w g bs _ h).mono ?_
    rintro e w' ⟨rfl, rfl⟩
    unfold isOk
    go_wp2_with fail
    go_ret
    exact ⟨rfl, 0, rfl⟩
  | ok j =>
    go_enter Tryz.func42, Tryz.ntmps42
    go_wp2_with fail
    refine (going_is σ w g bs _ h).mono ?_
    rintro e w' ⟨rfl, rfl⟩
    unfold isOk
    go_wp2_with fail
    refine (left_is σ w g bs j h).mono ?_
    rintro e w2 ⟨rfl, n, rfl⟩
    go_wp2_with fail
    go_ret
    exact ⟨rfl, n, rfl⟩
theorem rleft_nil (w : World) :
    Calls Tryz.prog 42 #[.pointer none] w fun e w' => e = .returned (.int .i64 0) ∧ w = w' := by
  go_enter Tryz.func42, Tryz.ntmps42
  go_wp2_with fail
  refine (going_nil w).mono ?_
  rintro e w' ⟨rfl, rfl⟩
  go_wp2_with fail
  go_ret
  exact ⟨rfl, rfl⟩
end Go.Proofs.YtifoiiaddcgngaaGreatDoor
