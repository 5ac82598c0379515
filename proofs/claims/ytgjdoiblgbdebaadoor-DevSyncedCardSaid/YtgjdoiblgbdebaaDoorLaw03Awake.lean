/- The chapter's example, as a statement: it answers true. -/
import Derived.Test.YtgjdoiblgbdebaaDoorLaw03Own
namespace Go.Proofs.YtgjdoiblgbdebaaDoor
open Go.RowKit
/-! the example's disk, step by step -/
def E0 : DM := DM.new 2
def E1 : DM := (E0.write 0 [1]).2
def E2 : DM := E1.sync.2
def E3 : DM := (E2.write 0 [2]).2
def E4 : DM := E3.crash.2
def E5 (n : Int) : DM := (E4.wake n (-1) 0).2
set_option maxRecDepth 100000 in
theorem e1 : (E0.write 0 [1]).1 = 0 := by decide +kernel
set_option maxRecDepth 100000 in
theorem e2 : E1.sync.1 = 0 := by decide +kernel
set_option maxRecDepth 100000 in
theorem e3 : (E2.write 0 [2]).1 = 0 := by decide +kernel
set_option maxRecDepth 100000 in
theorem e4 : E3.crash.1 = 0 := by decide +kernel
set_option maxRecDepth 100000 in
theorem e5 : (E4.wake 0 (-1) 0).1 = 0 ∧ (E4.wake 1 (-1) 0).1 = 0 := by decide +kernel
set_option maxRecDepth 100000 in
theorem e6 : ((E5 0).read 0) = (padB [1], 0) ∧ ((E5 1).read 0) = (padB [2], 0) := by decide +kernel
set_option maxRecDepth 100000 in
theorem eFew : (E0.turns ≤ 1000 ∧ E0.crashes ≤ 1000 ∧ E0.waits.length ≤ 1000) ∧ (E1.turns ≤ 1000 ∧ E1.crashes ≤ 1000 ∧ E1.waits.length ≤ 1000) ∧ (E2.turns ≤ 1000 ∧ E2.crashes ≤ 1000 ∧ E2.waits.length ≤ 1000) ∧ (E3.turns ≤ 1000 ∧ E3.crashes ≤ 1000 ∧ E3.waits.length ≤ 1000) ∧ (E4.turns ≤ 1000 ∧ E4.crashes ≤ 1000 ∧ E4.waits.length ≤ 1000) := by decide +kernel
theorem pad_at {bs : List Int} (i : Nat) (hi : i < 256) (hl : bs.length ≤ 256) : (u8s (padB bs))[i]? = some (.int .u8 (bs.getD i 0)) := by
  unfold u8s padB
  rw [List.getElem?_map, List.getD_eq_getElem?_getD]
  by_cases h : i < bs.length
  · rw [List.getElem?_append_left h, List.getElem?_eq_getElem h]; rfl
  · rw [List.getElem?_append_right (by omega), List.getElem?_replicate, if_pos (by omega), List.getElem?_eq_none (by omega)]; rfl
/-- What Read told, as a slice of 256 bytes. -/
theorem out_pad {w : World} {base : Nat} {v : Value} {bs : List Int} (h : OutAt w base v (padB bs)) (hl : bs.length ≤ 256) : ∃ g, v = .slice (some ⟨g, 0, none⟩) 256 256 ∧ ∀ i, i < 256 → w.cell? ⟨g, i, none⟩ = some (.int .u8 (bs.getD i 0)) := by
  have hp : (padB bs).length = 256 := by unfold padB; simp; omega
  rcases h with ⟨_, h2⟩ | ⟨g, t, rfl, _, hb, _⟩
  · rw [h2] at hp; exact absurd hp (by decide)
  · exact ⟨g, by rw [hp], fun i hi => by rw [hb.cell, List.getElem?_toArray]; exact pad_at i hi hl⟩
set_option maxRecDepth 100000 in
set_option maxHeartbeats 2000000 in
theorem awake_any (σ : SenD) (w : World) (hG : GlD σ w) :
    Calls Tryd.prog 8 #[] w fun e w' => e = .returned (.bool true) ∧ Below w.heap.size w w' := by
  go_enter Tryd.func8, Tryd.ntmps8
  go_wp2_with fail
  go_loopg [1] 2 (fun g i wx => ∃ k : Nat, g = 2 - k ∧ k ≤ 2 ∧ i = .int .i64 (k : Int) ∧ Below w.heap.size w wx)
  case atStart => exact ⟨0, rfl, by omega, rfl, Below.refl _ _⟩
  case round =>
    obtain ⟨k, hgk, hk, rfl, hb⟩ := hrel
    have Hgk := Lib.hid hgk; clear hgk
    have Hb := Lib.hid hb; clear hb
    have HG := Lib.hid hG; clear hG
    rcases (show k = 0 ∨ k = 1 ∨ k = 2 by omega) with rfl | rfl | rfl
    · have HE := Lib.hid (And.intro e5.1 e6.1)
      go_wp2_with fail
      refine (Own.new Hb.out 2 (by decide) (by decide)).mono ?_
      rintro e w1 ⟨h, rfl, k1⟩
      have K1 := Lib.hid k1
      clear k1
      go_wp2_with fail
      refine (Own.write HG.out K1.out (Own.few eFew.1.1 eFew.1.2.1 eFew.1.2.2) (below_new w1 _) 0 (some ⟨w1.heap.size, 0, none⟩) [1] 1 (bytesAt_lit w1 [1] (by decide)) (fun _ a e hh => by cases e; exact Nat.lt_irrefl _ hh.2) (by decide)).mono ?_
      rintro e w2 ⟨he, k2⟩
      rw [show (((DM.new 2).write 0 [1]).1 : Int) = 0 from e1] at he
      subst he
      have K2 : Hid (Own w w2 h E1) := Lib.hid k2
      clear k2
      go_wp2_with fail
      refine (Own.sync HG.out K2.out (Own.few eFew.2.1.1 eFew.2.1.2.1 eFew.2.1.2.2)).mono ?_
      rintro e w3 ⟨he, k3⟩
      rw [e2] at he
      subst he
      have K3 : Hid (Own w w3 h E2) := Lib.hid k3
      clear k3
      go_wp2_with fail
      refine (Own.write HG.out K3.out (Own.few eFew.2.2.1.1 eFew.2.2.1.2.1 eFew.2.2.1.2.2) (below_new w3 _) 0 (some ⟨w3.heap.size, 0, none⟩) [2] 1 (bytesAt_lit w3 [2] (by decide)) (fun _ a e hh => by cases e; exact Nat.lt_irrefl _ hh.2) (by decide)).mono ?_
      rintro e w4 ⟨he, k4⟩
      rw [e3] at he
      subst he
      have K4 : Hid (Own w w4 h E3) := Lib.hid k4
      clear k4
      go_wp2_with fail
      refine (Own.crash HG.out K4.out (Own.few eFew.2.2.2.1.1 eFew.2.2.2.1.2.1 eFew.2.2.2.1.2.2)).mono ?_
      rintro e w5 ⟨he, k5⟩
      rw [e4] at he
      subst he
      have K5 : Hid (Own w w5 h E4) := Lib.hid k5
      clear k5
      go_wp2_with fail
      refine (Own.wake K5.out (Own.few eFew.2.2.2.2.1 eFew.2.2.2.2.2.1 eFew.2.2.2.2.2.2) 0 (-1) 0).mono ?_
      rintro e w6 ⟨he, k6⟩
      rw [HE.out.1] at he
      subst he
      have K6 : Hid (Own w w6 h (E5 0)) := Lib.hid k6
      clear k6
      go_wp2_with fail
      refine (Own.read HG.out K6.out 0).mono ?_
      rintro e w7 ⟨v, he, ho, hb7, k7⟩
      rw [HE.out.2] at he ho
      subst he
      obtain ⟨g, rfl, hc⟩ := out_pad ho (by decide)
      have c0 : w7.cell? ⟨g, 0, none⟩ = some (.int .u8 1) := hc 0 (by decide)
      have c1 : w7.cell? ⟨g, 1, none⟩ = some (.int .u8 0) := hc 1 (by decide)
      have K7 := Lib.hid k7
      clear ho hb7 hc k7
      go_wp2_with fail
      go_roundg (2 - (0 + 1))
      case measure => rw [Hgk.out]; omega
      case rel => exact ⟨0 + 1, rfl, by omega, by go_num, K7.out.below⟩
    · have HE := Lib.hid (And.intro e5.2 e6.2)
      go_wp2_with fail
      refine (Own.new Hb.out 2 (by decide) (by decide)).mono ?_
      rintro e w1 ⟨h, rfl, k1⟩
      have K1 := Lib.hid k1
      clear k1
      go_wp2_with fail
      refine (Own.write HG.out K1.out (Own.few eFew.1.1 eFew.1.2.1 eFew.1.2.2) (below_new w1 _) 0 (some ⟨w1.heap.size, 0, none⟩) [1] 1 (bytesAt_lit w1 [1] (by decide)) (fun _ a e hh => by cases e; exact Nat.lt_irrefl _ hh.2) (by decide)).mono ?_
      rintro e w2 ⟨he, k2⟩
      rw [show (((DM.new 2).write 0 [1]).1 : Int) = 0 from e1] at he
      subst he
      have K2 : Hid (Own w w2 h E1) := Lib.hid k2
      clear k2
      go_wp2_with fail
      refine (Own.sync HG.out K2.out (Own.few eFew.2.1.1 eFew.2.1.2.1 eFew.2.1.2.2)).mono ?_
      rintro e w3 ⟨he, k3⟩
      rw [e2] at he
      subst he
      have K3 : Hid (Own w w3 h E2) := Lib.hid k3
      clear k3
      go_wp2_with fail
      refine (Own.write HG.out K3.out (Own.few eFew.2.2.1.1 eFew.2.2.1.2.1 eFew.2.2.1.2.2) (below_new w3 _) 0 (some ⟨w3.heap.size, 0, none⟩) [2] 1 (bytesAt_lit w3 [2] (by decide)) (fun _ a e hh => by cases e; exact Nat.lt_irrefl _ hh.2) (by decide)).mono ?_
      rintro e w4 ⟨he, k4⟩
      rw [e3] at he
      subst he
      have K4 : Hid (Own w w4 h E3) := Lib.hid k4
      clear k4
      go_wp2_with fail
      refine (Own.crash HG.out K4.out (Own.few eFew.2.2.2.1.1 eFew.2.2.2.1.2.1 eFew.2.2.2.1.2.2)).mono ?_
      rintro e w5 ⟨he, k5⟩
      rw [e4] at he
      subst he
      have K5 : Hid (Own w w5 h E4) := Lib.hid k5
      clear k5
      go_wp2_with fail
      refine (Own.wake K5.out (Own.few eFew.2.2.2.2.1 eFew.2.2.2.2.2.1 eFew.2.2.2.2.2.2) 1 (-1) 0).mono ?_
      rintro e w6 ⟨he, k6⟩
      rw [HE.out.1] at he
      subst he
      have K6 : Hid (Own w w6 h (E5 1)) := Lib.hid k6
      clear k6
      go_wp2_with fail
      refine (Own.read HG.out K6.out 0).mono ?_
      rintro e w7 ⟨v, he, ho, hb7, k7⟩
      rw [HE.out.2] at he ho
      subst he
      obtain ⟨g, rfl, hc⟩ := out_pad ho (by decide)
      have c0 : w7.cell? ⟨g, 0, none⟩ = some (.int .u8 2) := hc 0 (by decide)
      have c1 : w7.cell? ⟨g, 1, none⟩ = some (.int .u8 0) := hc 1 (by decide)
      have K7 := Lib.hid k7
      clear ho hb7 hc k7
      go_wp2_with fail
      go_roundg (2 - (1 + 1))
      case measure => rw [Hgk.out]; omega
      case rel => exact ⟨1 + 1, rfl, by omega, by go_num, K7.out.below⟩
    · go_wp2_with fail
      go_ret
      exact ⟨rfl, Hb.out⟩
end Go.Proofs.YtgjdoiblgbdebaaDoor
