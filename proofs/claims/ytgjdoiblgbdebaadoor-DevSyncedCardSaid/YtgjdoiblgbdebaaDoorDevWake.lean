/- Arm, Crash, Wake of a disk: just what the page tells. -/
import Derived.Test.YtgjdoiblgbdebaaDoorDevCalls
namespace Go.Proofs.YtgjdoiblgbdebaaDoor
open Go.RowKit
section
variable {w : World} {T : Nat → Prop} {dk : Nat} {D : DM} (σ : SenD)
set_option maxRecDepth 100000 in
theorem crash_any (k : DevAt w T dk D) (hF : D.Few 1000000) (hG : GlD σ w) :
    Calls Tryd.prog 21 #[.pointer (some ⟨dk, 0, none⟩)] w fun e w' => e = .returned (.int .i64 D.crash.1) ∧ Dev w T dk D.crash.2 w' := by
  obtain ⟨C, wv, hu, tu, cr, M, ws, left, dn, R, L⟩ := k
  have HT := Lib.hid (up_any σ hG R)
  have HL := Lib.hid L
  have hdn := L.dn
  have HR := Lib.hid R
  have HF := Lib.hid (fall_any R (by rw [L.cr]; exact Nat.le_trans hF.cr (by decide)))
  have HG := Lib.hid hG
  clear R L hG hF
  cases hd : D.down with
  | true =>
    have Hw : Hid (D.crash = (11, D)) := Lib.hid (by unfold DM.crash; rw [if_pos hd])
    have HE := Lib.hid (errno_dn σ w HG.out)
    rw [hdn, hd] at HT
    clear hd hdn
    unfold upE DErr.val errK at *
    simp only [if_true] at HT
    go_enter Tryd.func21, Tryd.ntmps21
    go_wp2_with fail
    refine HT.out.mono ?_
    rintro e w' ⟨rfl, rfl⟩
    go_wp2_with fail
    refine HE.out.mono ?_
    rintro e w4 ⟨rfl, rfl⟩
    go_wp2_with fail
    go_ret
    rw [Hw.out]
    exact ⟨rfl, Dev.of (HR.out.mono (fun _ hj => .inl hj) (grow_lt HR.out.foot (Nat.le_refl _))) HL.out (Chg.refl _ _)⟩
  | false =>
    have Hw : Hid (D.crash = (0, { D with down := true, crashes := D.crashes + 1 })) := Lib.hid (by unfold DM.crash; rw [if_neg (by rw [hd]; decide)])
    rw [hdn, hd] at HT
    clear hd hdn
    unfold upE DErr.val at HT
    simp only [Bool.false_eq_true, if_false] at HT
    go_enter Tryd.func21, Tryd.ntmps21
    go_wp2_with fail
    refine HT.out.mono ?_
    rintro e w' ⟨rfl, rfl⟩
    go_wp2_with fail
    refine HF.out.mono ?_
    rintro e w4 ⟨rfl, hw4⟩
    have HW4 := Lib.hid hw4
    clear hw4
    go_wp2_with fail
    go_ret
    rw [Hw.out]
    have hc : Chg T w w4 := by rw [HW4.out]; exact ((Chg.refl T w).set (.inl HR.out.self) _).set (.inl HR.out.self) _
    have hR : DevR w4 T dk C wv hu tu (cr + 1) M ws left true := by rw [HW4.out]; exact HR.out.falls
    exact ⟨rfl, Dev.of (hR.mono (fun _ hj => .inl hj) (grow_lt HR.out.foot hc.size)) (HL.out.falls (D' := { D with down := true, crashes := D.crashes + 1 }) rfl rfl rfl rfl rfl) hc⟩
theorem DevL.arms {hu tu cr : Nat} {M : List MCell} {ws : List (Nat × List Int)} {left : Int} {dn : Bool} (l : DevL D hu tu cr M ws left dn) (hd : D.down = false) (n : Int) (hn : n ≤ 9223372036854775807) : DevL (D.arm n) hu tu cr M ws (if 0 ≤ n then n else 0) dn := by
  unfold DM.arm
  rw [if_neg (by rw [hd]; decide)]
  exact ⟨l.hu, l.tu, l.cr, l.len, l.mm, l.ws, l.dn, (fun _ => by show _ = ((n.toNat : Nat) : Int); split <;> omega), by split <;> omega, l.some_⟩
theorem DevR.lefts {C : Nat} {wv : Value} {hu tu cr : Nat} {M : List MCell} {ws : List (Nat × List Int)} {left : Int} {dn : Bool} (k : DevR w T dk C wv hu tu cr M ws left dn) (v : Int) : DevR (w.setCell ⟨dk, 6, none⟩ (.int .i64 v)) T dk C wv hu tu cr M ws v dn :=
  k.own8 (set_size _ _ _) (fun _ hb => set_other _ _ _ _ _ hb) (k.blk.set1 6 (.int .i64 v))
set_option maxRecDepth 100000 in
theorem arm_any (k : DevAt w T dk D) (hG : GlD σ w) (n : Int) (hn : n ≤ 9223372036854775807) :
    Calls Tryd.prog 35 #[.pointer (some ⟨dk, 0, none⟩), .int .i64 n] w fun e w' => e = .returned (.tuple #[]) ∧ Dev w T dk (D.arm n) w' := by
  obtain ⟨C, wv, hu, tu, cr, M, ws, left, dn, R, L⟩ := k
  have HT := Lib.hid (up_any σ hG R)
  have HL := Lib.hid L
  have hdn := L.dn
  have HR := Lib.hid R
  have c6 := R.cell8.2.2.2.2.2.2.1
  have f6 := R.blk.free 6
  clear R L hG
  cases hd : D.down with
  | true =>
    have Hw : Hid (D.arm n = D) := Lib.hid (by unfold DM.arm; rw [if_pos hd])
    rw [hdn, hd] at HT
    clear hd hdn
    unfold upE DErr.val errK at *
    simp only [if_true] at HT
    go_enter Tryd.func35, Tryd.ntmps35
    go_wp2_with fail
    refine HT.out.mono ?_
    rintro e w' ⟨rfl, rfl⟩
    go_wp2_with fail
    go_end0
    rw [Hw.out]
    exact ⟨rfl, Dev.of (HR.out.mono (fun _ hj => .inl hj) (grow_lt HR.out.foot (Nat.le_refl _))) HL.out (Chg.refl _ _)⟩
  | false =>
    have HA := Lib.hid (HL.out.arms hd n hn)
    rw [hdn, hd] at HT
    clear hd hdn
    unfold upE DErr.val at HT
    simp only [Bool.false_eq_true, if_false] at HT
    have HE : ∀ v : Int, Hid (DevR (w.setCell ⟨dk, 6, none⟩ (.int .i64 v)) (grow T w (w.setCell ⟨dk, 6, none⟩ (.int .i64 v))) dk C wv hu tu cr M ws v dn ∧ Chg T w (w.setCell ⟨dk, 6, none⟩ (.int .i64 v))) := fun v =>
      Lib.hid ⟨(HR.out.lefts v).mono (fun _ hj => .inl hj) (grow_lt HR.out.foot (Nat.le_of_eq (set_size _ _ _).symm)), (Chg.refl T w).set (.inl HR.out.self) _⟩
    by_cases h0 : 0 ≤ n
    · rw [if_pos h0] at HA
      have HE := HE n
      go_enter Tryd.func35, Tryd.ntmps35
      go_wp2_with fail
      refine HT.out.mono ?_
      rintro e w' ⟨rfl, rfl⟩
      go_wp2_with fail
      go_end0
      exact ⟨rfl, Dev.of HE.out.1 HA.out HE.out.2⟩
    · rw [if_neg h0] at HA
      have HE := HE 0
      have h1 : n ≤ 0 := by omega
      go_enter Tryd.func35, Tryd.ntmps35
      go_wp2_with fail
      refine HT.out.mono ?_
      rintro e w' ⟨rfl, rfl⟩
      go_wp2_with fail
      go_end0
      exact ⟨rfl, Dev.of HE.out.1 HA.out HE.out.2⟩
theorem mod9 (n : Int) : (n.tmod 9 + 9).tmod 9 = n % 9 := by
  have h1 := tmod_bd n 9 (by decide)
  by_cases h : n.tmod 9 < 0
  · rw [pick_neg n 9 (by decide) h, Int.tmod_eq_emod_of_nonneg (by omega)]; omega
  · have h2 := pick_pos n 9 (by decide) h
    rw [h2, Int.tmod_eq_emod_of_nonneg (by omega)]; omega
set_option maxRecDepth 100000 in
theorem modulo_any (n : Int) : Calls Tryd.prog 55 #[.int .i64 n, .int .i64 9] w fun e w' => e = .returned (.int .i64 (n % 9)) ∧ w = w' := by
  have h1 := tmod_bd n 9 (by decide)
  have h2 := mod9 n
  go_enter Tryd.func55, Tryd.ntmps55
  go_wp2_with fail
  go_ret
  exact ⟨rfl, rfl⟩
/-- It is up again. -/
theorem DevR.wakes {C : Nat} {wv : Value} {hu tu cr : Nat} {M : List MCell} {ws : List (Nat × List Int)} {left : Int} {dn : Bool} (k : DevR w T dk C wv hu tu cr M ws left dn) : DevR ((w.setCell ⟨dk, 6, none⟩ (.int .i64 0)).setCell ⟨dk, 7, none⟩ (.bool false)) T dk C wv hu tu cr M ws 0 false :=
  k.own8 (by rw [set_size, set_size]) (fun _ hb => by rw [set_other _ _ _ _ _ hb, set_other _ _ _ _ _ hb]) ((k.blk.set1 6 (.int .i64 0)).set1 7 (.bool false))
set_option maxRecDepth 100000 in
set_option maxHeartbeats 1000000 in
theorem wake_any (k : DevAt w T dk D) (hF : D.Few 1000000) (stay torn sectors : Int) :
    Calls Tryd.prog 22 #[.pointer (some ⟨dk, 0, none⟩), .int .i64 stay, .int .i64 torn, .int .i64 sectors] w fun e w' => e = .returned (.int .i64 (D.wake stay torn sectors).1) ∧ Dev w T dk (D.wake stay torn sectors).2 w' := by
  obtain ⟨C, wv, hu, tu, cr, M, ws, left, dn, R, L⟩ := k
  obtain ⟨part, hpart⟩ : ∃ part : Nat, sectors % 9 = (part : Int) := ⟨(sectors % 9).toNat, by omega⟩
  have hb1 := below_new w (.cells #[.int .i64 stay] 3)
  have hb2 := hb1.alloc hb1.size (.cells #[.int .i64 torn] 3)
  have hb3 := hb2.alloc hb2.size (.cells #[.int .i64 (part : Int)] 3)
  obtain ⟨b1, b2, b3⟩ := boxes3 w (.int .i64 stay) (.int .i64 torn) (.int .i64 (part : Int)) 3 3 3
  have k2 := R.below hb2
  have c3 := k2.cell8.2.2.2.1
  have c7 := k2.cell8.2.2.2.2.2.2.2
  have hdn := L.dn
  have HM := Lib.hid (fun (w' : World) => modulo_any (w := w') sectors)
  cases hd : D.down with
  | false =>
    have Hw : Hid (D.wake stay torn sectors = (16, D)) := Lib.hid (by unfold DM.wake; rw [if_neg (by rw [hd]; decide)])
    rw [hdn, hd] at c7
    have HR := Lib.hid (Dev.of (k2.mono (fun _ hj => .inl hj) (grow_lt R.foot hb2.size)) L (Chg.of_below hb2))
    clear R L hF b1 b2 b3 hb1 hb2 hb3 k2 hdn hd
    go_enter Tryd.func22, Tryd.ntmps22
    go_wp2_with fail
    refine (told_any _ dk c3).mono ?_
    rintro e w' ⟨rfl, rfl⟩
    go_wp2_with fail
    go_ret
    rw [Hw.out]
    exact ⟨rfl, HR.out⟩
  | true =>
    have Hw : Hid (D.wake stay torn sectors = (0, { D.settle (fate stay torn sectors) with armed := 0, down := false })) := Lib.hid (by unfold DM.wake; rw [if_pos hd])
    rw [hdn, hd] at c7
    have h3 := R.below hb3
    have hhu : hu = mHurts M := by rw [L.hu, L.cells, hurts_cells]
    rw [hhu] at h3
    have Hsz : Hid (∀ j, w.heap.size ≤ j → ¬ T j) := Lib.hid (fun j hj hT => by have := R.foot j hT; omega)
    have HS := Lib.hid (settle_wake h3 (by rw [L.ws]; exact Nat.le_trans hF.ws (by decide)) stay torn sectors part (w.heap.size + 1) (w.heap.size + 2) w.heap.size (by omega) ⟨b2, Hsz.out _ (by omega)⟩ ⟨b3, Hsz.out _ (by omega)⟩ ⟨b1, Hsz.out _ (Nat.le_refl _)⟩)
    have HWB := Lib.hid (fun p hp => (h3.wb p hp).1)
    have H3 := Lib.hid (And.intro hb3 R.foot)
    have HL := Lib.hid L
    have HTs := Lib.hid R.self
    clear R L hF b1 b2 b3 hb1 hb2 hb3 k2 hdn hd h3 hhu
    go_enter Tryd.func22, Tryd.ntmps22
    go_wp2_with fail
    refine (told_any _ dk c3).mono ?_
    rintro e w' ⟨rfl, rfl⟩
    go_wp2_with fail
    refine (HM.out _).mono ?_
    rintro e w' ⟨rfl, rfl⟩
    rw [hpart]
    go_wp2_with fail
    refine HS.out.mono ?_
    rintro e w4 ⟨rfl, hd4, hc4⟩
    have H4 := Lib.hid (And.intro hd4 hc4)
    clear HS
    obtain ⟨d0, d1, d2, d3, d4, d5, d6, d7⟩ := hd4.cell8
    have f6 := hd4.blk.free 6
    have f7 := hd4.blk.free 7
    have HW := Lib.hid hd4.wakes
    clear d0 d1 d2 d3 d4 d5 hd4 hc4
    generalize (((w.alloc (.cells #[.int .i64 stay] 3)).alloc (.cells #[.int .i64 torn] 3)).alloc (.cells #[.int .i64 (part : Int)] 3)) = w3 at *
    clear c3 c7
    go_wp2_with fail
    go_ret
    rw [Hw.out]
    have h1 := H3.out.1.size
    have hc5 : Chg T w ((w4.setCell ⟨dk, 6, none⟩ (.int .i64 0)).setCell ⟨dk, 7, none⟩ (.bool false)) := (((Chg.of_below H3.out.1).trans (H4.out.2.mono (fun _ hj => .inl hj))).set (.inl HTs.out) _).set (.inl HTs.out) _
    have hL := HL.out.settle (D' := { D.settle (fate stay torn sectors) with armed := 0, down := false }) (fate stay torn sectors) HWB.out rfl rfl (left' := 0) (fun _ => rfl) (by omega)
    have hR : DevR ((w4.setCell ⟨dk, 6, none⟩ (.int .i64 0)).setCell ⟨dk, 7, none⟩ (.bool false)) (grow T w3 w4) dk C (.slice none 0 0) (mHurts (settleM M ws (fate stay torn sectors) ws.length)) D.turns D.crashes (settleM M ws (fate stay torn sectors) ws.length) [] 0 false := by
      rw [← HL.out.tu, ← HL.out.cr]; exact HW.out
    refine ⟨rfl, Dev.of (hR.mono ?_ (grow_lt H3.out.2 hc5.size)) hL hc5⟩
    rintro j (hj | hj)
    · exact .inl hj
    · exact .inr ⟨by omega, by rw [set_size, set_size]; exact hj.2⟩
end
end Go.Proofs.YtgjdoiblgbdebaaDoor
