/- A reader's fields. -/
import Derived.Test.YtpdfmpegcejmkaaGreatDoorReadNum
import Derived.StillTailTactics
namespace Go.Proofs.YtpdfmpegcejmkaaGreatDoor
open Go.RowKit
theorem RdAt.drew {σ : Sen} {w : World} {g : Nat} {bs : List Int} {s : RSt} (h : RdAt σ w g bs s) : RdAt σ w.drew g bs s := by
  obtain ⟨x, cap, k, ev, h⟩ := h
  exact ⟨x, cap, k, ev, h.blk, h.rd, h.off, h.len, h.err⟩
theorem RdAt.drewN {σ : Sen} {w : World} {g : Nat} {bs : List Int} {s : RSt} (h : RdAt σ w g bs s) (n : Nat) : RdAt σ (w.drewN n) g bs s := by
  obtain ⟨x, cap, k, ev, h⟩ := h
  exact ⟨x, cap, k, ev, h.blk, h.rd, h.off, h.len, h.err⟩
/-- Nothing but draws. -/
def Qu (w w1 : World) : Prop := ∃ n, w1 = w.drewN n
theorem Qu.trans {a b c : World} (h : Qu a b) (k : Qu b c) : Qu a c := by
  obtain ⟨n, rfl⟩ := h
  obtain ⟨m, rfl⟩ := k
  exact ⟨_, World.drewN_drewN _ _ _⟩
theorem Qu.grown {w w1 : World} (h : Qu w w1) (row : Option Nat) : w.grownBy w1 row := by
  obtain ⟨n, rfl⟩ := h; exact grown_drewN (World.grownBy.refl _ _) n
theorem Qu.cell {w w1 : World} (h : Qu w w1) (a : Addr) : w1.cell? a = w.cell? a := by
  obtain ⟨n, rfl⟩ := h; rfl
theorem Qu.below {w w1 : World} (h : Qu w w1) (B : Nat) : Below B w w1 := by
  obtain ⟨n, rfl⟩ := h; exact Below.drewN (Below.refl _ _) n
theorem undrew_grown {w w' : World} {row : Option Nat} (h : w.drew.grownBy w' row) : w.grownBy w' row := ⟨h.os, h.tape, h.output, h.size, h.block⟩
theorem undrewN_grown {w w' : World} {row : Option Nat} (n : Nat) (h : (w.drewN n).grownBy w' row) : w.grownBy w' row := ⟨h.os, h.tape, h.output, h.size, h.block⟩
set_option maxRecDepth 100000 in
theorem rfield_none (σ : Sen) (w0 w : World) (g : Nat) (bs : List Int) (j : Nat) (wd : Int) (h : RdAt σ w g bs (.ok j)) (hE : EnvF σ w0 g w) (ht : top wd < 0) :
    Calls Tryz.prog 83 #[.pointer (some ⟨g, 0, none⟩), .int .i64 wd] w fun e w' => e = .returned (.int .i64 0) ∧ RdAt σ w' g bs (.bad j false) ∧ w.grownBy w' (some g) := by
  obtain ⟨x, cap, k, ev, hI⟩ := h
  obtain ⟨c0, c1, c2, c3⟩ := reader_cells hI.blk
  obtain ⟨rfl, rfl⟩ := hI.err
  have hR : RdAt σ w g bs (.ok j) := ⟨x, cap, j, _, hI⟩
  have cg := hE.at_.wd
  have hne := hE.gl.ne.1
  have HI := Lib.hid hI
  clear hI c0 c2 c3 hE
  go_enter Tryz.func83, Tryz.ntmps83
  go_wp2_with fail
  refine (going_is σ w g bs _ hR).mono ?_
  rintro e w' ⟨rfl, rfl⟩
  unfold isOk
  go_wp2_with fail
  refine (greatest_any wd _).mono ?_
  rintro e w' ⟨rfl, rfl⟩
  go_wp2_with fail
  go_still_tail 7, (by kernel_rfl)
  go_wp2_with fail
  refine (fail_is σ _ g bs j j σ.wd (RdAt.drew hR) (.inl rfl) false (by simp [hne])).mono ?_
  rintro e w2 ⟨rfl, hR2, hg2⟩
  go_wp2_with fail
  go_ret
  exact ⟨rfl, hR2, undrew_grown hg2⟩
set_option maxRecDepth 100000 in
theorem rfield_bad (σ : Sen) (w : World) (g : Nat) (bs : List Int) (p : Nat) (l : Bool) (v : Value) (h : RdAt σ w g bs (.bad p l)) :
    Calls Tryz.prog 83 #[.pointer (some ⟨g, 0, none⟩), v] w fun e w' => e = .returned (.int .i64 0) ∧ w' = w := by
  go_enter Tryz.func83, Tryz.ntmps83
  go_wp2_with fail
  refine (going_is σ w g bs _ h).mono ?_
  rintro e w' ⟨rfl, rfl⟩
  unfold isOk
  go_wp2_with fail
  go_ret
  exact ⟨rfl, rfl⟩
set_option maxRecDepth 100000 in
theorem rfield_few (σ : Sen) (w0 w : World) (g : Nat) (bs : List Int) (j : Nat) (wd : Int) (h : RdAt σ w g bs (.ok j)) (hE : EnvF σ w0 g w) (_hl : bs.length ≤ 140737488351232) (ht : 0 ≤ top wd) (hf : (bs.length : Int) - j < wd) :
    Calls Tryz.prog 83 #[.pointer (some ⟨g, 0, none⟩), .int .i64 wd] w fun e w' => e = .returned (.int .i64 0) ∧ RdAt σ w' g bs (.bad j false) ∧ w.grownBy w' (some g) := by
  obtain ⟨x, cap, k, ev, hI⟩ := h
  obtain ⟨c0, c1, c2, c3⟩ := reader_cells hI.blk
  obtain ⟨rfl, rfl⟩ := hI.err
  have hR : RdAt σ w g bs (.ok j) := ⟨x, cap, j, _, hI⟩
  have cg := hE.at_.few
  have hne := hE.gl.ne.2.1
  have hjl := hI.len.2.2
  clear hI c0 c2 c3 hE
  go_enter Tryz.func83, Tryz.ntmps83
  go_wp2_with fail
  refine (going_is σ w g bs _ hR).mono ?_
  rintro e w' ⟨rfl, rfl⟩
  unfold isOk
  go_wp2_with fail
  refine (greatest_any wd _).mono ?_
  rintro e w' ⟨rfl, rfl⟩
  have htl : ¬ top wd < 0 := by omega
  go_wp2_with fail
  refine (left_is σ _ g bs j hR).mono ?_
  rintro e w' ⟨rfl, n, rfl⟩
  have hf' : decide ((bs.length : Int) - (j : Int) < wd) = true := decide_eq_true hf
  have hRn := hR.drewN n
  have c1n : (w.drewN n).cell? ⟨g, 1, none⟩ = some (.int .i64 (j : Int)) := c1
  have cgn : (w.drewN n).cell? ⟨7, 0, none⟩ = some (errV σ.few) := cg
  have hgn : w.grownBy (w.drewN n) (some g) := grown_drewN (World.grownBy.refl _ _) n
  clear c1 cg hR
  generalize w.drewN n = W at *
  go_wp2_with fail
  go_still_tail 7, (by kernel_rfl)
  go_wp2_with fail
  refine (fail_is σ _ g bs j j σ.few (RdAt.drew hRn) (.inr (.inl rfl)) false (by simp [hne])).mono ?_
  rintro e w2 ⟨rfl, hR2, hg2⟩
  go_wp2_with fail
  go_ret
  exact ⟨rfl, hR2, hgn.trans (undrew_grown hg2)⟩
/-- The bytes at a reader's place. -/
theorem here_bytes {σ : Sen} {w : World} {g : Nat} {bs : List Int} {j : Nat} {x : Option Addr} {cap : Nat} (h : RdIs σ w g bs (.ok j) x cap j .nilIface) (m : Nat) : BytesAt w (cutAt x cap j) ((bs.drop j).take m) :=
  front_reads (cut_reads h.rd h.len.1)
theorem here_len (bs : List Int) (j m : Nat) (h : j + m ≤ bs.length) : ((bs.drop j).take m).length = m := by
  rw [List.length_take, List.length_drop]; omega
set_option maxRecDepth 100000 in
set_option maxHeartbeats 1000000 in
theorem rfield_here (σ : Sen) (w0 w : World) (g : Nat) (bs : List Int) (j wn : Nat) (h : RdAt σ w g bs (.ok j)) (hE : EnvF σ w0 g w) (_hl : bs.length ≤ 140737488351232) (ht : 0 ≤ top wn) (hf : j + wn ≤ bs.length) :
    Calls Tryz.prog 83 #[.pointer (some ⟨g, 0, none⟩), .int .i64 (wn : Int)] w fun e w' =>
      (top wn < unle ((bs.drop j).take wn) → e = .returned (.int .i64 0) ∧ RdAt σ w' g bs (.bad j false)) ∧ (¬ top wn < unle ((bs.drop j).take wn) → e = .returned (.int .i64 (unle ((bs.drop j).take wn))) ∧ RdAt σ w' g bs (.ok (j + wn))) ∧ w.grownBy w' (some g) := by
  obtain ⟨x, cap, k, ev, hI⟩ := h
  obtain ⟨c0, c1, c2, c3⟩ := reader_cells hI.blk
  obtain ⟨rfl, rfl⟩ := hI.err
  have hR : RdAt σ w g bs (.ok j) := ⟨x, cap, j, _, hI⟩
  have cg := hE.at_.gr
  have hne := hE.gl.ne.2.2
  have hjl := hI.len.2.2
  have HI := Lib.hid hI
  clear hI c0 c2 c3 hE
  have Hc := Lib.hid (And.intro c1 cg)
  clear c1 cg
  go_enter Tryz.func83, Tryz.ntmps83
  go_wp2_with fail
  refine (going_is σ w g bs _ hR).mono ?_
  rintro e w' ⟨rfl, rfl⟩
  unfold isOk
  go_wp2_with fail
  refine (greatest_any wn _).mono ?_
  rintro e w' ⟨rfl, rfl⟩
  have htl : ¬ top (wn : Int) < 0 := by omega
  go_wp2_with fail
  refine (left_is σ _ g bs j hR).mono ?_
  rintro e w1 ⟨rfl, hq1⟩
  have hq1 : Qu w w1 := hq1
  have hf' : ¬ ((bs.length : Int) - (j : Int) < (wn : Int)) := by omega
  have hI1 := HI.out.kept (hq1.grown none) (by simp) (fun _ _ => by simp)
  go_wp2_with fail
  refine (next_is σ w1 g bs j wn x cap hI1 hf).mono ?_
  rintro e w2 ⟨rfl, hq2⟩
  have hq2 := hq1.trans hq2
  have hI2 := HI.out.kept (hq2.grown none) (by simp) (fun _ _ => by simp)
  go_wp2_with fail
  refine (number_any w2 (cutAt x cap j) (cap - j) wn _ (here_len bs j wn hf) ht (here_bytes hI2 wn)).mono ?_
  rintro e w3 ⟨rfl, hq3⟩
  have hq3 := hq2.trans hq3
  have hI3 := HI.out.kept (hq3.grown none) (by simp) (fun _ _ => by simp)
  have hR3 : RdAt σ w3 g bs (.ok j) := ⟨x, cap, j, _, hI3⟩
  generalize hv : unle ((bs.drop j).take wn) = v
  have Hv := Lib.hid hv; clear hv
  have c1 := (hq3.cell _).trans Hc.out.1
  have cg := (hq3.cell _).trans Hc.out.2
  have hg3 := hq3.grown (some g)
  clear hI1 hI2 hI3 hq1 hq2 hq3 HI Hc hR
  by_cases hgt : top wn < v
  · go_wp2_with fail
    go_still_tail 7, (by kernel_rfl)
    go_wp2_with fail
    refine (fail_is σ _ g bs j j σ.gr (RdAt.drew hR3) (.inr (.inr (.inl rfl))) false (by simp [hne])).mono ?_
    rintro e w4 ⟨rfl, hR4, hg4⟩
    go_wp2_with fail
    go_ret
    exact ⟨fun _ => ⟨rfl, hR4⟩, fun h => absurd hgt (by rw [Hv.out] at h; omega), hg3.trans (undrew_grown hg4)⟩
  · clear c1 cg
    go_wp2_with fail
    refine (pass_is σ w3 g bs j wn hR3 hf).mono ?_
    rintro e w4 ⟨rfl, hR4, hg4⟩
    go_wp2_with fail
    go_ret
    exact ⟨fun h => absurd h (by rw [Hv.out]; omega), fun _ => ⟨by rw [Hv.out]; rfl, hR4⟩, hg3.trans hg4⟩
theorem top_nat (wd : Int) (h : 0 ≤ top wd) : ∃ n : Nat, wd = n ∧ n ≤ 6 := by
  rcases top_cases wd with ⟨e, _⟩ | ⟨e, _⟩ | ⟨e, _⟩ | ⟨e, _⟩ | ⟨_, _, _, _, t⟩
  · exact ⟨1, e, by decide⟩
  · exact ⟨2, e, by decide⟩
  · exact ⟨4, e, by decide⟩
  · exact ⟨6, e, by decide⟩
  · omega
/-- What a call of a reader's leaves. -/
structure Got (σ : Sen) (w : World) (g : Nat) (bs : List Int) (s : RSt) (w' : World) : Prop where
  rd : RdAt σ w' g bs s
  fr : w.grownBy w' (some g)
theorem Got.trans {σ : Sen} {w w1 w2 : World} {g : Nat} {bs : List Int} {s t : RSt} (h : Got σ w g bs s w1) (k : Got σ w1 g bs t w2) : Got σ w g bs t w2 := ⟨k.rd, h.fr.trans k.fr⟩
theorem Got.same {σ : Sen} {w : World} {g : Nat} {bs : List Int} {s : RSt} (h : RdAt σ w g bs s) : Got σ w g bs s w := ⟨h, World.grownBy.refl _ _⟩
theorem rfield_any (σ : Sen) (w0 w : World) (g : Nat) (bs : List Int) (s : RSt) (wd : Int) (h : RdAt σ w g bs s) (hE : EnvF σ w0 g w) (hl : bs.length ≤ 140737488351232) :
    Calls Tryz.prog 83 #[.pointer (some ⟨g, 0, none⟩), .int .i64 wd] w fun e w' => e = .returned (.int .i64 (fieldR bs wd s).1) ∧ Got σ w g bs (fieldR bs wd s).2 w' := by
  cases s with
  | bad p l => exact (rfield_bad σ w g bs p l _ h).mono fun e w' ⟨he, hw⟩ => ⟨he, by subst hw; exact Got.same h⟩
  | ok j =>
    have hjl : j ≤ bs.length := by
      obtain ⟨x, cap, k, ev, hI⟩ := h
      obtain ⟨rfl, _⟩ := hI.err
      exact hI.len.2.2
    by_cases ht : top wd < 0
    · have e1 : fieldR bs wd (.ok j) = (0, .bad j false) := by simp [fieldR, ht]
      rw [e1]
      exact (rfield_none σ w0 w g bs j wd h hE ht).mono fun e w' ⟨h1, h2, h3⟩ => ⟨h1, h2, h3⟩
    · obtain ⟨wn, rfl, hw6⟩ := top_nat wd (by omega)
      by_cases hf : (bs.length : Int) - j < wn
      · have e1 : fieldR bs wn (.ok j) = (0, .bad j false) := by simp [fieldR, hf]
        rw [e1]
        exact (rfield_few σ w0 w g bs j wn h hE hl (by omega) hf).mono fun e w' ⟨h1, h2, h3⟩ => ⟨h1, h2, h3⟩
      · by_cases hv : top wn < unle ((bs.drop j).take wn)
        · have e1 : fieldR bs wn (.ok j) = (0, .bad j false) := by simp [fieldR, ht, hf, hv]
          rw [e1]
          exact (rfield_here σ w0 w g bs j wn h hE hl (by omega) (by omega)).mono fun e w' ⟨h1, h2, h3⟩ => ⟨(h1 hv).1, (h1 hv).2, h3⟩
        · have e1 : fieldR bs wn (.ok j) = (unle ((bs.drop j).take wn), .ok (j + wn)) := by simp [fieldR, ht, hf, hv]
          rw [e1]
          exact (rfield_here σ w0 w g bs j wn h hE hl (by omega) (by omega)).mono fun e w' ⟨h1, h2, h3⟩ => ⟨(h2 hv).1, (h2 hv).2, h3⟩
end Go.Proofs.YtpdfmpegcejmkaaGreatDoor
