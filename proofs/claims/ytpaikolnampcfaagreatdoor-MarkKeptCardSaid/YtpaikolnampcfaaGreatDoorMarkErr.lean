/- The package mark's own errors, as they are laid, and their numbers. -/
import Derived.Test.YtpaikolnampcfaaGreatDoorMarkAs
namespace Go.Proofs.YtpaikolnampcfaaGreatDoor
open Go.RowKit
/-- Where the package's own errors are: of sorts, of what is not right, of bodies, of what is lost. -/
structure SenK where
  so : Addr
  wr : Addr
  bd : Addr
  lo : Addr
structure GlK (κ : SenK) (w : World) : Prop where
  so : w.cell? ⟨1, 0, none⟩ = some (errK κ.so)
  wr : w.cell? ⟨0, 0, none⟩ = some (errK κ.wr)
  bd : w.cell? ⟨2, 0, none⟩ = some (errK κ.bd)
  lo : w.cell? ⟨3, 0, none⟩ = some (errK κ.lo)
  ty : w.cell? ⟨9, 0, none⟩ = some (.iface 202 (.agg #[tyE]))
  ts : There w κ.so
  tw : There w κ.wr
  tb : There w κ.bd
  tl : There w κ.lo
  sw : κ.so ≠ κ.wr
  sb : κ.so ≠ κ.bd
  sl : κ.so ≠ κ.lo
  wb : κ.wr ≠ κ.bd
  wl : κ.wr ≠ κ.lo
  bl : κ.bd ≠ κ.lo
theorem GlK.below {κ : SenK} {w w' : World} (h : GlK κ w) (hb : Below w.heap.size w w') : GlK κ w' :=
  ⟨cell_below h.so hb, cell_below h.wr hb, cell_below h.bd hb, cell_below h.lo hb, cell_below h.ty hb, h.ts.below hb, h.tw.below hb, h.tb.below hb, h.tl.below hb, h.sw, h.sb, h.sl, h.wb, h.wl, h.bl⟩
/-- An error of the package's, of this number; of 0 it is none. -/
def KErr (κ : SenK) (c : Int) (v : Value) : Prop := (c = 0 ∧ v = .nilIface) ∨ (c = 2 ∧ v = errK κ.so) ∨ (c = 2 ∧ v = errK κ.wr) ∨ (c = 4 ∧ v = errK κ.bd) ∨ (c = 10 ∧ v = errK κ.lo) ∨ (c ≠ 0 ∧ v = ktoldV c) ∨ (c ≠ 0 ∧ ∃ n, v = blkV n c)
theorem KErr.zero {κ : SenK} {v : Value} (h : KErr κ 0 v) : v = .nilIface := by
  rcases h with ⟨_, h⟩ | ⟨h, _⟩ | ⟨h, _⟩ | ⟨h, _⟩ | ⟨h, _⟩ | ⟨h, _⟩ | ⟨h, _⟩
  · exact h
  · exact absurd h (by decide)
  · exact absurd h (by decide)
  · exact absurd h (by decide)
  · exact absurd h (by decide)
  · exact absurd rfl h
  · exact absurd rfl h
theorem KErr.some {κ : SenK} {c : Int} {v : Value} (h : KErr κ c v) (hc : c ≠ 0) : ∃ t x, v = .iface t x := by
  rcases h with ⟨h, _⟩ | ⟨_, h⟩ | ⟨_, h⟩ | ⟨_, h⟩ | ⟨_, h⟩ | ⟨_, h⟩ | ⟨_, n, h⟩
  · exact absurd h hc
  all_goals exact ⟨_, _, h⟩
set_option maxRecDepth 100000 in
set_option maxHeartbeats 4000000 in
theorem kerrno_any (κ : SenK) (w : World) (hG : GlK κ w) (c : Int) (v : Value) (hv : KErr κ c v) :
    Calls Tryz.prog 41 #[v] w fun e w' => e = .returned (.int .i64 c) ∧ Below w.heap.size w w' := by
  have g0 := hG.so
  have g1 := hG.wr
  have g2 := hG.bd
  have g3 := hG.lo
  have HG := Lib.hid hG
  clear hG
  unfold errK at g0 g1 g2 g3
  rcases hv with ⟨rfl, rfl⟩ | ⟨rfl, rfl⟩ | ⟨rfl, rfl⟩ | ⟨rfl, rfl⟩ | ⟨rfl, rfl⟩ | ⟨_, rfl⟩ | ⟨_, n, rfl⟩
  · have hbn := below_new w (.cells #[.int .i64 0] 142)
    have Hk := Lib.hid hbn
    clear hbn
    go_enter Tryz.func41, Tryz.ntmps41
    go_wp2_with fail
    refine (kis_nil _ _).mono ?_
    rintro e w' ⟨rfl, rfl⟩
    go_wp2_with fail
    refine (kis_nil _ _).mono ?_
    rintro e w' ⟨rfl, rfl⟩
    go_wp2_with fail
    refine (kis_nil _ _).mono ?_
    rintro e w' ⟨rfl, rfl⟩
    go_wp2_with fail
    refine (kis_nil _ _).mono ?_
    rintro e w' ⟨rfl, rfl⟩
    go_wp2_with fail
    refine (as_nil _ _).mono ?_
    rintro e w' ⟨rfl, rfl⟩
    go_wp2_with fail
    go_ret
    exact ⟨rfl, Hk.out⟩
  · unfold errK
    go_enter Tryz.func41, Tryz.ntmps41
    go_wp2_with fail
    refine (is_ptr_same _ _).mono ?_
    rintro e w' ⟨rfl, rfl⟩
    go_wp2_with fail
    go_ret
    exact ⟨rfl, Below.refl _ _⟩
  · unfold errK
    go_enter Tryz.func41, Tryz.ntmps41
    go_wp2_with fail
    refine (is_ptr_other _ _ _ (Ne.symm HG.out.sw) HG.out.tw HG.out.ts).mono ?_
    rintro e w' ⟨rfl, rfl⟩
    go_wp2_with fail
    refine (is_ptr_same _ _).mono ?_
    rintro e w' ⟨rfl, rfl⟩
    go_wp2_with fail
    go_ret
    exact ⟨rfl, Below.refl _ _⟩
  · unfold errK
    go_enter Tryz.func41, Tryz.ntmps41
    go_wp2_with fail
    refine (is_ptr_other _ _ _ (Ne.symm HG.out.sb) HG.out.tb HG.out.ts).mono ?_
    rintro e w' ⟨rfl, rfl⟩
    go_wp2_with fail
    refine (is_ptr_other _ _ _ (Ne.symm HG.out.wb) HG.out.tb HG.out.tw).mono ?_
    rintro e w' ⟨rfl, rfl⟩
    go_wp2_with fail
    refine (is_ptr_same _ _).mono ?_
    rintro e w' ⟨rfl, rfl⟩
    go_wp2_with fail
    go_ret
    exact ⟨rfl, Below.refl _ _⟩
  · unfold errK
    go_enter Tryz.func41, Tryz.ntmps41
    go_wp2_with fail
    refine (is_ptr_other _ _ _ (Ne.symm HG.out.sl) HG.out.tl HG.out.ts).mono ?_
    rintro e w' ⟨rfl, rfl⟩
    go_wp2_with fail
    refine (is_ptr_other _ _ _ (Ne.symm HG.out.wl) HG.out.tl HG.out.tw).mono ?_
    rintro e w' ⟨rfl, rfl⟩
    go_wp2_with fail
    refine (is_ptr_other _ _ _ (Ne.symm HG.out.bl) HG.out.tl HG.out.tb).mono ?_
    rintro e w' ⟨rfl, rfl⟩
    go_wp2_with fail
    refine (is_ptr_same _ _).mono ?_
    rintro e w' ⟨rfl, rfl⟩
    go_wp2_with fail
    go_ret
    exact ⟨rfl, Below.refl _ _⟩
  · have hbn := below_new w (.cells #[.int .i64 0] 142)
    have HA := Lib.hid (kas_told c 0 w.heap.size _ (HG.out.below hbn).ty (BlockIs.made w 142 #[.int .i64 0]))
    have Hk := Lib.hid hbn
    clear hbn
    unfold ktoldV at *
    go_enter Tryz.func41, Tryz.ntmps41
    go_wp2_with fail
    refine (kis_told _ _ _).mono ?_
    rintro e w' ⟨rfl, rfl⟩
    go_wp2_with fail
    refine (kis_told _ _ _).mono ?_
    rintro e w' ⟨rfl, rfl⟩
    go_wp2_with fail
    refine (kis_told _ _ _).mono ?_
    rintro e w' ⟨rfl, rfl⟩
    go_wp2_with fail
    refine (kis_told _ _ _).mono ?_
    rintro e w' ⟨rfl, rfl⟩
    go_wp2_with fail
    refine HA.out.mono ?_
    rintro e w2 ⟨rfl, hB2, hg2⟩
    have hb2 := Lib.hid (below_grown Hk.out hg2 Hk.out.size (Nat.le_refl _))
    have d0 : w2.cell? ⟨w.heap.size, 0, none⟩ = some (.int .i64 c) := hB2.cell 0
    clear hB2 hg2 HA g0 g1 g2 g3
    go_wp2_with fail
    go_ret
    exact ⟨rfl, hb2.out⟩
  · have H1 := Lib.hid (fun b w => kis_blk n c b w)
    unfold blkV ktoldV at *
    go_enter Tryz.func41, Tryz.ntmps41
    go_wp2_with fail
    refine (H1.out _ _).mono ?_
    rintro e w1 ⟨rfl, hb1⟩
    have B1 := Lib.hid hb1
    clear g0 g1 g2 g3 hb1
    have gg1 := (HG.out.below B1.out).wr
    unfold errK at gg1
    go_wp2_with fail
    refine (H1.out _ _).mono ?_
    rintro e w2 ⟨rfl, hb2⟩
    have B2 := Lib.hid (B1.out.trans (hb2.mono B1.out.size))
    clear gg1 hb2
    have gg2 := (HG.out.below B2.out).bd
    unfold errK at gg2
    go_wp2_with fail
    refine (H1.out _ _).mono ?_
    rintro e w3 ⟨rfl, hb3⟩
    have B3 := Lib.hid (B2.out.trans (hb3.mono B2.out.size))
    clear gg2 hb3
    have gg3 := (HG.out.below B3.out).lo
    unfold errK at gg3
    go_wp2_with fail
    refine (H1.out _ _).mono ?_
    rintro e w4 ⟨rfl, hb4⟩
    have B4 := Lib.hid (B3.out.trans (hb4.mono B3.out.size))
    clear gg3 hb4
    have hbn := below_new w4 (.cells #[.int .i64 0] 142)
    have B5 := Lib.hid (B4.out.trans (hbn.mono B4.out.size))
    have HA := Lib.hid (kas_blk n c 0 w4.heap.size _ (HG.out.below B5.out).ty (BlockIs.made w4 142 #[.int .i64 0]))
    unfold blkV ktoldV at HA
    clear hbn
    go_wp2_with fail
    refine HA.out.mono ?_
    rintro e w6 ⟨rfl, hB6, hg6⟩
    have B6 := Lib.hid (below_grown B5.out hg6 B5.out.size B4.out.size)
    have d0 : w6.cell? ⟨w4.heap.size, 0, none⟩ = some (.int .i64 c) := hB6.cell 0
    clear hB6 hg6 HA
    go_wp2_with fail
    go_ret
    exact ⟨rfl, B6.out⟩
set_option maxRecDepth 100000 in
set_option maxHeartbeats 2000000 in
/-- What failed at a block. -/
theorem kfailed_any (κ : SenK) (w : World) (n c : Int) :
    Calls Tryz.prog 130 #[.int .i64 n, .int .i64 c] w fun e w2 => ∃ v, e = .returned v ∧ KErr κ c v ∧ Below w.heap.size w w2 := by
  by_cases hc : c = 0
  · subst hc
    go_enter Tryz.func130, Tryz.ntmps130
    go_wp2_with fail
    go_ret
    exact ⟨_, rfl, .inl ⟨rfl, rfl⟩, Below.refl _ _⟩
  · have hne : (c == 0) = false := beq_eq_false_iff_ne.2 hc
    have Hc := Lib.hid hc
    clear hc
    go_enter Tryz.func130, Tryz.ntmps130
    go_wp2_with fail
    go_ret
    exact ⟨_, rfl, .inr (.inr (.inr (.inr (.inr (.inr ⟨Hc.out, n, rfl⟩))))), by first | exact Below.refl _ _ | exact below_new _ _⟩
end Go.Proofs.YtpaikolnampcfaaGreatDoor
