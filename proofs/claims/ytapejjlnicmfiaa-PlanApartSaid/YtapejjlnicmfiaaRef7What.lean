/- The document's What, by a right shape. -/
import Derived.Test.YtapejjlnicmfiaaRef7Calls
namespace Go.Proofs.Ytapejjlnicmfiaa
open Go.RowKit
section
variable {S R P : Nat}
set_option maxRecDepth 100000 in
set_option maxHeartbeats 1600000 in
theorem rwhat_any (h : Pl.Right S R P) (b : Int) (w : World) :
    Calls Try.prog 8 #[shapeV S R P, .int .i64 b] w fun e w' => e = .returned (.tuple #[.int .i64 (whatI S R P b).1, .int .i64 (whatI S R P b).2.1, .int .i64 (whatI S R P b).2.2]) ∧ Below w.heap.size w w' := by
  have HX := Lib.hid (Boxed.start w (S : Int) (R : Int) (P : Int))
  have HC := Lib.hid (cells_any h)
  have hE : whatI S R P b = if 0 ≤ b ∧ b < (Pl.all S R P : Int) then (((Pl.cell S R P b.toNat).1 : Int), ((Pl.cell S R P b.toNat).2.1 : Int), ((Pl.cell S R P b.toNat).2.2 : Int)) else (0, 0, 0) := rfl
  generalize whatI S R P b = q at *
  generalize Pl.all S R P = N at *
  rcases (show b < 0 ∨ (0 ≤ b ∧ (N : Int) ≤ b) ∨ (0 ≤ b ∧ b < (N : Int)) by omega) with hb0 | ⟨hb0, hb1⟩ | ⟨hb0, hb1⟩
  · rw [if_neg (by omega)] at hE
    subst hE
    go_enter Try.func8, Try.ntmps8
    go_wp2_with (go_at_call 33; refine (HC.out _).mono ?_; rintro e w1 ⟨v, rfl, hC⟩; have HX1 := Lib.hid (HX.out.bl.trans (hC.bx.bl.mono HX.out.bl.size)); obtain ⟨X, cap, rfl, _, _⟩ := hC.slice; clear hC)
    go_ret3
    exact ⟨rfl, HX1.out⟩
  · rw [if_neg (by omega)] at hE
    subst hE
    go_enter Try.func8, Try.ntmps8
    go_wp2_with (go_at_call 33; refine (HC.out _).mono ?_; rintro e w1 ⟨v, rfl, hC⟩; have HX1 := Lib.hid (HX.out.bl.trans (hC.bx.bl.mono HX.out.bl.size)); obtain ⟨X, cap, rfl, _, _⟩ := hC.slice; clear hC)
    go_ret3
    exact ⟨rfl, HX1.out⟩
  · rw [if_pos ⟨hb0, hb1⟩] at hE
    obtain ⟨i, rfl⟩ := Int.eq_ofNat_of_zero_le hb0
    rw [Int.toNat_natCast] at hE
    obtain ⟨⟨a1, a2, a3⟩, hc⟩ : ∃ z, Pl.cell S R P i = z := ⟨_, rfl⟩
    rw [hc] at hE
    subst hE
    have Hc := Lib.hid hc
    clear hc
    go_enter Try.func8, Try.ntmps8
    go_wp2_with (go_at_call 33; refine (HC.out _).mono ?_; rintro e w1 ⟨v, rfl, hC⟩; have HX1 := Lib.hid (HX.out.bl.trans (hC.bx.bl.mono HX.out.bl.size)); obtain ⟨g, cap, rfl, g0, g1, g2⟩ := hC.get (show i < N by omega); obtain ⟨X2, cap2, he, hcap, hmax⟩ := hC.slice; rw [Hc.out] at g0 g1 g2; clear he hC)
    go_region
    all_goals go_wp2_with fail
    all_goals go_ret3
    all_goals exact ⟨rfl, HX1.out.drew⟩
end
end Go.Proofs.Ytapejjlnicmfiaa
