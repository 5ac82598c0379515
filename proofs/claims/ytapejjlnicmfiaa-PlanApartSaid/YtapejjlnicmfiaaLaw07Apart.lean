/- PlanApart: the walk. -/
import Derived.Test.YtapejjlnicmfiaaLaw07ApartA
import Derived.Test.YtapejjlnicmfiaaLaw07ApartF
namespace Go.Proofs.Ytapejjlnicmfiaa
open Go.RowKit
set_option maxRecDepth 100000 in
set_option maxHeartbeats 4000000 in
theorem apart_right {S R P : Nat} (h : Pl.Right S R P) (w : World) :
    Calls Try.prog 5 #[shapeV S R P] w fun e w' => e = .returned (.bool true) ∧ Below w.heap.size w w' := by
  have HX := Lib.hid (Boxed.start w (S : Int) (R : Int) (P : Int))
  obtain ⟨d0, d1, d2⟩ := HX.out.cells
  have HA := Lib.hid awake_any
  obtain ⟨n, hn⟩ : ∃ n, n = Pl.all S R P := ⟨_, rfl⟩
  have hall : n ≤ 648 := hn ▸ Pl.all_le h
  have HB := Lib.hid (blocks_any h)
  rw [← hn] at HB
  have hr1 := h.r1
  have hs1 := h.s1
  have hn6 : 6 ≤ n := by rw [hn]; unfold Pl.all; omega
  have Hn := Lib.hid hn
  clear hn
  have HR : Hid (∀ w, Calls Try.prog 9 #[.agg #[.int .i64 (S : Int), .int .i64 (R : Int), .int .i64 (P : Int)]] w fun e w' => e = .returned (.bool true) ∧ Below w.heap.size w w') := Lib.hid (fun w => by have := right_any (S : Int) (R : Int) (P : Int) w; rw [right_of h] at this; exact this)
  have hmk := fun W => run_make_row' (P := Try.prog) 34 4 (.bool false) 1 Try.underlying34 infoBool rfl .i64 .i64 n (by omega) (by omega) W
  simp only [made_seen] at hmk
  go_enter Try.func5, Try.ntmps5
  go_wp2_with (first | (go_at_call 27; (with_reducible refine (HA.out _).mono ?_); rintro e w1 ⟨rfl, hb⟩; replace HX := Lib.hid (HX.out.below hb); clear hb d0 d1 d2; obtain ⟨d0, d1, d2⟩ := HX.out.cells) | (go_at_call 9; (with_reducible refine (HR.out _).mono ?_); rintro e w1 ⟨rfl, hb⟩; replace HX := Lib.hid (HX.out.below hb); clear hb d0 d1 d2; obtain ⟨d0, d1, d2⟩ := HX.out.cells) | (go_at_call 11; (with_reducible refine (HB.out _).mono ?_); rintro e w1 ⟨rfl, hb⟩; replace HX := Lib.hid (HX.out.below hb); clear hb d0 d1 d2; obtain ⟨d0, d1, d2⟩ := HX.out.cells))
  have HP : Hid (ApartAt w (w1.alloc (.cells (seenA n 0) 4)) S R P w1.heap.size n 0) := Lib.hid ⟨HX.out.alloc _, BlockIs.made w1 _ _, HX.out.box.lt⟩
  clear hmk d0 d1 d2
  generalize w1.alloc (.cells (seenA n 0) 4) = w2 at *
  generalize w1.heap.size = g4 at *
  clear HX
  go_loopg [5, 6] 6 (fun g x y wx => ∃ b : Nat, b + g = 6 ∧ x = .int .i64 (b : Int) ∧ y = .int .i64 (b : Int) ∧ ApartAt w wx S R P g4 n b)
  case atStart => exact ⟨0, rfl, rfl, rfl, HP.out⟩
  case round =>
    obtain ⟨b, hb6, rfl, rfl, hP⟩ := hrel
    have HP2 := Lib.hid hP
    obtain ⟨d0, d1, d2⟩ := hP.bx.cells
    clear hP
    by_cases hl : (b : Int) < 6
    · have HW := Lib.hid (what_small h (show b < 6 by omega))
      have hbn : (b : Int) < (n : Int) := by omega
      go_wp2_with (go_at_call 7; (with_reducible refine (HW.out _).mono ?_); rintro e w3 ⟨rfl, hb⟩; have HP3 := Lib.hid (HP2.out.below hb); have HP4 := Lib.hid (HP3.out.mark (show b < n by omega)); have c0 := HP3.out.cell (show b < n by omega); have f0 := HP3.out.seen.free b; clear hb)
      go_roundg (gk - 1)
      case measure => omega
      case rel => exact ⟨b + 1, by omega, rfl, rfl, HP4.out⟩
    · obtain rfl : b = 6 := by omega
      go_wp2_with fail
      clear d0 d1 d2
      go_loopg [5, 10] S (fun g x y wx => ∃ i : Nat, i + g = S ∧ x = .int .i64 ((6 + i * (R + 2) : Nat) : Int) ∧ y = .int .i64 (i : Int) ∧ ApartAt w wx S R P g4 n (6 + i * (R + 2)))
      case atStart => exact ⟨0, by omega, by rw [Nat.zero_mul]; rfl, rfl, by rw [Nat.zero_mul]; exact HP2.out⟩
      case round =>
        obtain ⟨i, hi, rfl, rfl, hP⟩ := hrel
        have HQ := Lib.hid hP
        obtain ⟨d0, d1, d2⟩ := hP.bx.cells
        have Hi := Lib.hid hi
        clear hP hi
        by_cases hl2 : (i : Int) < (S : Int)
        · obtain ⟨m0, hm0⟩ : ∃ m, 6 + i * (R + 2) = m := ⟨_, rfl⟩
          have HF := Lib.hid (seg_round h (show i < S by omega))
          have hmn : m0 + R + 2 ≤ n := by rw [Hn.out, ← hm0]; exact (seg_room2 (show i < S by omega))
          have Hm := Lib.hid hm0
          rw [hm0] at HQ HF ⊢
          clear hm0
          go_wp2_with fail
          go_loopg [5, 11] (R + 2) (fun g x y wx => ∃ v : Nat, v + g = R + 2 ∧ x = .int .i64 ((m0 + v : Nat) : Int) ∧ (∃ u : Int, u = (v : Int) - 1 ∧ y = .int .i64 u) ∧ ApartAt w wx S R P g4 n (m0 + v))
          case atStart => exact ⟨0, by omega, rfl, ⟨-1, rfl, rfl⟩, HQ.out⟩
          case round =>
            obtain ⟨v, hv, rfl, ⟨u, hu, rfl⟩, hP⟩ := hrel
            clear d0 d1 d2
            obtain ⟨mm, hmm⟩ : ∃ mm, m0 + v = mm := ⟨_, rfl⟩
            obtain ⟨f, hf⟩ : ∃ f, i * R + 1 = f := ⟨_, rfl⟩
            have hfb : f ≤ 513 := by rw [← hf]; have := Nat.mul_le_mul (show i ≤ 16 by omega) hr1; omega
            rw [hmm] at hP ⊢
            have HQ2 := Lib.hid hP
            obtain ⟨d0, d1, d2⟩ := hP.bx.cells
            have Hv := Lib.hid hv
            have Hmm := Lib.hid hmm
            clear hP
            have HFi : Hid (∀ w, Calls Try.prog 15 #[.agg #[.int .i64 (S : Int), .int .i64 (R : Int), .int .i64 (P : Int)], .int .i64 (i : Int)] w fun e w' => e = .returned (.int .i64 (f : Int)) ∧ Below w.heap.size w w') := Lib.hid (fun w => by have := firstN_any h (i : Int) w; rw [HF.out.fn, hf] at this; exact this)
            by_cases hl3 : u ≤ (R : Int)
            · have hmn2 : (mm : Int) < (n : Int) := by omega
              rcases (show v = 0 ∨ (∃ k, v = k + 1 ∧ k < R) ∨ v = R + 1 by
                rcases (show v = 0 ∨ (1 ≤ v ∧ v ≤ R) ∨ v = R + 1 by omega) with h1 | h1 | h1
                · exact .inl h1
                · exact .inr (.inl ⟨v - 1, by omega, by omega⟩)
                · exact .inr (.inr h1)) with hv0 | ⟨k, hvk, hkR⟩ | hvR
              · obtain rfl : u = -1 := by omega
                have hw : IntKind.i64.wrap ((f : Int) + -1) = (f : Int) + -1 := IntWalk.i64_in _ (by omega)
                obtain ⟨z, hz⟩ : ∃ z, recI S R P ((f : Int) + -1) = z := ⟨_, rfl⟩
                have HRc : Hid (∀ w, Calls Try.prog 17 #[.agg #[.int .i64 (S : Int), .int .i64 (R : Int), .int .i64 (P : Int)], .int .i64 ((f : Int) + -1)] w fun e w' => e = .returned (.int .i64 (z)) ∧ Below w.heap.size w w') := Lib.hid (fun w => by have := record_any h ((f : Int) + -1) w; rw [hz] at this; exact this)
                obtain rfl : m0 = mm := by omega
                have HE : Hid (∀ w, Calls Try.prog 19 #[.agg #[.int .i64 (S : Int), .int .i64 (R : Int), .int .i64 (P : Int)], .int .i64 (i : Int)] w fun e w' => e = .returned (.int .i64 (m0 : Int)) ∧ Below w.heap.size w w') := Lib.hid (fun w => by have := head_any h (i : Int) w; rw [HF.out.hb] at this; exact this)
                have HL : Hid (∀ w, BlockIs w g4 4 (seenA n m0) → Calls Try.prog 28 #[.agg #[.int .i64 (S : Int), .int .i64 (R : Int), .int .i64 (P : Int)], .slice (some ⟨g4, 0, none⟩) n n, .int .i64 (m0 : Int), .int .i64 4, .int .i64 (i : Int), .int .i64 0] w fun e w' => e = .returned (.bool true) ∧ w.grownBy w' (some g4) ∧ BlockIs w' g4 4 (seenA n (m0 + 1))) := Lib.hid (lies_any h (by omega) Hn.out (HF.out.head))
                have hne : ((-1 : Int) == (R : Int)) = false := beq_eq_false_iff_ne.2 (by omega)
                clear hf hz hv hmm hu
                
                go_wp2_with fail
                go_region_held3 (fun w' => w'.cell? ⟨w.heap.size, 0, none⟩ = some (.int .i64 (S : Int)) ∧ w'.cell? ⟨w.heap.size, 1, none⟩ = some (.int .i64 (R : Int)) ∧ w'.cell? ⟨w.heap.size, 2, none⟩ = some (.int .i64 (P : Int))) (first | exact ⟨d0, d1, d2⟩)
                  (first
                  | (go_at_call 15; (with_reducible refine (HFi.out _).mono ?_); rintro e w3 ⟨rfl, hb⟩; replace HQ2 := Lib.hid (show ApartAt w w3 S R P g4 n m0 from by first | exact HQ2.out.below hb | exact HQ2.out.drew.below hb); clear hb d0 d1 d2; obtain ⟨d0, d1, d2⟩ := HQ2.out.bx.cells)
                  | (go_at_call 17; (with_reducible refine (HRc.out _).mono ?_); rintro e w3 ⟨rfl, hb⟩; replace HQ2 := Lib.hid (show ApartAt w w3 S R P g4 n m0 from by first | exact HQ2.out.below hb | exact HQ2.out.drew.below hb); clear hb d0 d1 d2; obtain ⟨d0, d1, d2⟩ := HQ2.out.bx.cells)
                  | fail)
                all_goals clear hw
                all_goals go_wp2_with (first | (go_at_call 19; (with_reducible refine (HE.out _).mono ?_); rintro e w3 ⟨rfl, hb⟩; replace HQ2 := Lib.hid (HQ2.out.below hb); clear hb d0 d1 d2; obtain ⟨d0, d1, d2⟩ := HQ2.out.bx.cells) | (go_at_call 28; (with_reducible refine (HL.out _ (by first | exact HQ2.out.seen | exact HQ2.out.drew.seen)).mono ?_); rintro e w4 ⟨rfl, hg, hs⟩; have HQ3 := Lib.hid (show ApartAt w w4 S R P g4 n (m0 + 1) from by first | exact HQ2.out.grown hg hs | exact HQ2.out.drew.grown hg hs); clear hg hs d0 d1 d2; obtain ⟨d0, d1, d2⟩ := HQ3.out.bx.cells))
                go_roundg (gk - 1)
                case measure => have := Hv.out; omega
                case rel => exact ⟨v + 1, by have := Hv.out; omega, val_int (by have := Hmm.out; omega), ⟨_, by omega, rfl⟩, by have e : m0 + (v + 1) = m0 + 1 := (by have := Hmm.out; omega); rw [e]; exact HQ3.out⟩
              · obtain rfl : u = (k : Int) := by omega
                have hw : IntKind.i64.wrap ((f : Int) + (k : Int)) = (f : Int) + (k : Int) := IntWalk.i64_in _ (by omega)
                have HRc : Hid (∀ w, Calls Try.prog 17 #[.agg #[.int .i64 (S : Int), .int .i64 (R : Int), .int .i64 (P : Int)], .int .i64 ((f : Int) + (k : Int))] w fun e w' => e = .returned (.int .i64 ((mm : Int))) ∧ Below w.heap.size w w') := Lib.hid (fun w => by have h1 := record_any h (((f + k : Nat)) : Int) w; have h2 := HF.out.rb k hkR; rw [hf] at h2; rw [h2, show m0 + 1 + k = mm by omega] at h1; exact h1)
                have HL : Hid (∀ w, BlockIs w g4 4 (seenA n mm) → Calls Try.prog 28 #[.agg #[.int .i64 (S : Int), .int .i64 (R : Int), .int .i64 (P : Int)], .slice (some ⟨g4, 0, none⟩) n n, .int .i64 (mm : Int), .int .i64 5, .int .i64 (i : Int), .int .i64 (k : Int)] w fun e w' => e = .returned (.bool true) ∧ w.grownBy w' (some g4) ∧ BlockIs w' g4 4 (seenA n (mm + 1))) := Lib.hid (lies_any h (by omega) Hn.out (by have := HF.out.recs k hkR; rw [show m0 + 1 + k = mm by omega] at this; exact this))
                have hne : ((k : Int) == (R : Int)) = false := beq_eq_false_iff_ne.2 (by omega)
                have hk0 : ¬(k : Int) < 0 := by omega
                clear hf hv hmm hu
                
                go_wp2_with fail
                go_region_held3 (fun w' => w'.cell? ⟨w.heap.size, 0, none⟩ = some (.int .i64 (S : Int)) ∧ w'.cell? ⟨w.heap.size, 1, none⟩ = some (.int .i64 (R : Int)) ∧ w'.cell? ⟨w.heap.size, 2, none⟩ = some (.int .i64 (P : Int))) (first | exact ⟨d0, d1, d2⟩)
                  (first
                  | (go_at_call 15; (with_reducible refine (HFi.out _).mono ?_); rintro e w3 ⟨rfl, hb⟩; replace HQ2 := Lib.hid (show ApartAt w w3 S R P g4 n mm from by first | exact HQ2.out.below hb | exact HQ2.out.drew.below hb); clear hb d0 d1 d2; obtain ⟨d0, d1, d2⟩ := HQ2.out.bx.cells)
                  | (go_at_call 17; (with_reducible refine (HRc.out _).mono ?_); rintro e w3 ⟨rfl, hb⟩; replace HQ2 := Lib.hid (show ApartAt w w3 S R P g4 n mm from by first | exact HQ2.out.below hb | exact HQ2.out.drew.below hb); clear hb d0 d1 d2; obtain ⟨d0, d1, d2⟩ := HQ2.out.bx.cells)
                  | fail)
                all_goals clear hw
                all_goals go_wp2_with (first | (go_at_call 28; (with_reducible refine (HL.out _ (by first | exact HQ2.out.seen | exact HQ2.out.drew.seen)).mono ?_); rintro e w4 ⟨rfl, hg, hs⟩; have HQ3 := Lib.hid (show ApartAt w w4 S R P g4 n (mm + 1) from by first | exact HQ2.out.grown hg hs | exact HQ2.out.drew.grown hg hs); clear hg hs d0 d1 d2; obtain ⟨d0, d1, d2⟩ := HQ3.out.bx.cells))
                go_roundg (gk - 1)
                case measure => have := Hv.out; omega
                case rel => exact ⟨v + 1, by have := Hv.out; omega, val_int (by have := Hmm.out; omega), ⟨_, by omega, rfl⟩, by have e : m0 + (v + 1) = mm + 1 := (by have := Hmm.out; omega); rw [e]; exact HQ3.out⟩
              · obtain rfl : u = (R : Int) := by omega
                have hw : IntKind.i64.wrap ((f : Int) + (R : Int)) = (f : Int) + (R : Int) := IntWalk.i64_in _ (by omega)
                obtain ⟨z, hz⟩ : ∃ z, recI S R P ((f : Int) + (R : Int)) = z := ⟨_, rfl⟩
                have HRc : Hid (∀ w, Calls Try.prog 17 #[.agg #[.int .i64 (S : Int), .int .i64 (R : Int), .int .i64 (P : Int)], .int .i64 ((f : Int) + (R : Int))] w fun e w' => e = .returned (.int .i64 (z)) ∧ Below w.heap.size w w') := Lib.hid (fun w => by have := record_any h ((f : Int) + (R : Int)) w; rw [hz] at this; exact this)
                have HE : Hid (∀ w, Calls Try.prog 21 #[.agg #[.int .i64 (S : Int), .int .i64 (R : Int), .int .i64 (P : Int)], .int .i64 (i : Int)] w fun e w' => e = .returned (.int .i64 (mm : Int)) ∧ Below w.heap.size w w') := Lib.hid (fun w => by have := foot_any h (i : Int) w; rw [HF.out.fb, show m0 + 1 + R = mm by omega] at this; exact this)
                have HL : Hid (∀ w, BlockIs w g4 4 (seenA n mm) → Calls Try.prog 28 #[.agg #[.int .i64 (S : Int), .int .i64 (R : Int), .int .i64 (P : Int)], .slice (some ⟨g4, 0, none⟩) n n, .int .i64 (mm : Int), .int .i64 6, .int .i64 (i : Int), .int .i64 0] w fun e w' => e = .returned (.bool true) ∧ w.grownBy w' (some g4) ∧ BlockIs w' g4 4 (seenA n (mm + 1))) := Lib.hid (lies_any h (by omega) Hn.out (by have := HF.out.foot; rw [show m0 + 1 + R = mm by omega] at this; exact this))
                have hk0 : ¬(R : Int) < 0 := by omega
                clear hf hz hv hmm hu
                
                go_wp2_with fail
                go_region_held3 (fun w' => w'.cell? ⟨w.heap.size, 0, none⟩ = some (.int .i64 (S : Int)) ∧ w'.cell? ⟨w.heap.size, 1, none⟩ = some (.int .i64 (R : Int)) ∧ w'.cell? ⟨w.heap.size, 2, none⟩ = some (.int .i64 (P : Int))) (first | exact ⟨d0, d1, d2⟩)
                  (first
                  | (go_at_call 15; (with_reducible refine (HFi.out _).mono ?_); rintro e w3 ⟨rfl, hb⟩; replace HQ2 := Lib.hid (show ApartAt w w3 S R P g4 n mm from by first | exact HQ2.out.below hb | exact HQ2.out.drew.below hb); clear hb d0 d1 d2; obtain ⟨d0, d1, d2⟩ := HQ2.out.bx.cells)
                  | (go_at_call 17; (with_reducible refine (HRc.out _).mono ?_); rintro e w3 ⟨rfl, hb⟩; replace HQ2 := Lib.hid (show ApartAt w w3 S R P g4 n mm from by first | exact HQ2.out.below hb | exact HQ2.out.drew.below hb); clear hb d0 d1 d2; obtain ⟨d0, d1, d2⟩ := HQ2.out.bx.cells)
                  | fail)
                all_goals clear hw
                all_goals go_wp2_with (first | (go_at_call 21; (with_reducible refine (HE.out _).mono ?_); rintro e w3 ⟨rfl, hb⟩; replace HQ2 := Lib.hid (HQ2.out.below hb); clear hb d0 d1 d2; obtain ⟨d0, d1, d2⟩ := HQ2.out.bx.cells) | (go_at_call 28; (with_reducible refine (HL.out _ (by first | exact HQ2.out.seen | exact HQ2.out.drew.seen)).mono ?_); rintro e w4 ⟨rfl, hg, hs⟩; have HQ3 := Lib.hid (show ApartAt w w4 S R P g4 n (mm + 1) from by first | exact HQ2.out.grown hg hs | exact HQ2.out.drew.grown hg hs); clear hg hs d0 d1 d2; obtain ⟨d0, d1, d2⟩ := HQ3.out.bx.cells))
                go_roundg (gk - 1)
                case measure => have := Hv.out; omega
                case rel => exact ⟨v + 1, by have := Hv.out; omega, val_int (by have := Hmm.out; omega), ⟨_, by omega, rfl⟩, by have e : m0 + (v + 1) = mm + 1 := (by have := Hmm.out; omega); rw [e]; exact HQ3.out⟩
            · obtain rfl : v = R + 2 := by omega
              clear hf hfb
              go_wp2_with fail
              go_roundg (S - (i + 1))
              case measure => have := Hi.out; omega
              case rel => exact ⟨i + 1, by have := Hi.out; omega, val_int (by have := Hmm.out; have := Hm.out; rw [Nat.add_mul]; omega), rfl, by have e : 6 + (i + 1) * (R + 2) = mm := (by have := Hmm.out; have := Hm.out; rw [Nat.add_mul]; omega); rw [e]; exact HQ2.out⟩
        · obtain rfl : S = i := by have := Hi.out; omega
          have HQ0 := Lib.hid HQ.out
          clear HP2
          go_wp2_with fail
          clear d0 d1 d2
          go_loopg [5, 15] 2 (fun g x y wx => ∃ i : Nat, i + g = 2 ∧ x = .int .i64 ((6 + S * (R + 2) + i * (P + 1) : Nat) : Int) ∧ y = .int .i64 (i : Int) ∧ ApartAt w wx S R P g4 n (6 + S * (R + 2) + i * (P + 1)))
          case atStart => exact ⟨0, rfl, val_int (by rw [Nat.zero_mul, Nat.add_zero, Int.natCast_add, Int.natCast_mul, Int.natCast_add]; rfl), rfl, by rw [Nat.zero_mul, Nat.add_zero]; exact HQ0.out⟩
          case round =>
            obtain ⟨i, hi, rfl, rfl, hP⟩ := hrel
            have HQ := Lib.hid hP
            obtain ⟨d0, d1, d2⟩ := hP.bx.cells
            have Hi := Lib.hid hi
            clear hP hi
            by_cases hl2 : (i : Int) < 2
            · obtain ⟨m0, hm0⟩ : ∃ m, 6 + S * (R + 2) + i * (P + 1) = m := ⟨_, rfl⟩
              have HF := Lib.hid (area_round (S := S) (R := R) (P := P) (show i < 2 by omega))
              have hmn : m0 + P + 1 ≤ n := by
                rw [Hn.out, ← hm0]
                have := Pl.mul_le (c := P + 1) (show i < 2 by omega)
                unfold Pl.all; omega
              have Hm := Lib.hid hm0
              rw [hm0] at HQ HF ⊢
              clear hm0
              go_wp2_with fail
              go_loopg [5, 16] (P + 1) (fun g x y wx => ∃ v : Nat, v + g = P + 1 ∧ x = .int .i64 ((m0 + v : Nat) : Int) ∧ (∃ u : Int, u = (v : Int) - 1 ∧ y = .int .i64 u) ∧ ApartAt w wx S R P g4 n (m0 + v))
              case atStart => exact ⟨0, by omega, rfl, ⟨-1, rfl, rfl⟩, HQ.out⟩
              case round =>
                obtain ⟨v, hv, rfl, ⟨u, hu, rfl⟩, hP⟩ := hrel
                clear d0 d1 d2
                obtain ⟨mm, hmm⟩ : ∃ mm, m0 + v = mm := ⟨_, rfl⟩
                rw [hmm] at hP ⊢
                have HQ2 := Lib.hid hP
                obtain ⟨d0, d1, d2⟩ := hP.bx.cells
                have Hv := Lib.hid hv
                have Hmm := Lib.hid hmm
                clear hP
                by_cases hl3 : u < (P : Int)
                · have hmn2 : (mm : Int) < (n : Int) := by omega
                  rcases (show v = 0 ∨ (∃ k, v = k + 1 ∧ k < P) by
                    rcases (show v = 0 ∨ (1 ≤ v ∧ v ≤ P) by omega) with h1 | h1
                    · exact .inl h1
                    · exact .inr ⟨v - 1, by omega, by omega⟩) with hv0 | ⟨k, hvk, hkP⟩
                  · obtain rfl : u = -1 := by omega
                    obtain rfl : m0 = mm := by omega
                    obtain ⟨z, hz⟩ : ∃ z, blockI S R P 7 (i : Int) (-1) = z := ⟨_, rfl⟩
                    have HPc : Hid (∀ w, Calls Try.prog 25 #[.agg #[.int .i64 (S : Int), .int .i64 (R : Int), .int .i64 (P : Int)], .int .i64 (i : Int), .int .i64 (-1)] w fun e w' => e = .returned (.int .i64 (z)) ∧ Below w.heap.size w w') := Lib.hid (fun w => by have := piece_any h (i : Int) (-1) w; rw [hz] at this; exact this)
                    have HE : Hid (∀ w, Calls Try.prog 23 #[.agg #[.int .i64 (S : Int), .int .i64 (R : Int), .int .i64 (P : Int)], .int .i64 (i : Int)] w fun e w' => e = .returned (.int .i64 (m0 : Int)) ∧ Below w.heap.size w w') := Lib.hid (fun w => by have := snap_any h (i : Int) w; rw [HF.out.sb] at this; exact this)
                    have HL : Hid (∀ w, BlockIs w g4 4 (seenA n m0) → Calls Try.prog 28 #[.agg #[.int .i64 (S : Int), .int .i64 (R : Int), .int .i64 (P : Int)], .slice (some ⟨g4, 0, none⟩) n n, .int .i64 (m0 : Int), .int .i64 8, .int .i64 (i : Int), .int .i64 0] w fun e w' => e = .returned (.bool true) ∧ w.grownBy w' (some g4) ∧ BlockIs w' g4 4 (seenA n (m0 + 1))) := Lib.hid (lies_any h (by omega) Hn.out (HF.out.snap))
                    clear hz hv hmm hu
                    go_wp2_with (first | (go_at_call 25; (with_reducible refine (HPc.out _).mono ?_); rintro e w3 ⟨rfl, hb⟩; replace HQ2 := Lib.hid (HQ2.out.below hb); clear hb d0 d1 d2; obtain ⟨d0, d1, d2⟩ := HQ2.out.bx.cells) | (go_at_call 23; (with_reducible refine (HE.out _).mono ?_); rintro e w3 ⟨rfl, hb⟩; replace HQ2 := Lib.hid (HQ2.out.below hb); clear hb d0 d1 d2; obtain ⟨d0, d1, d2⟩ := HQ2.out.bx.cells) | (go_at_call 28; (with_reducible refine (HL.out _ HQ2.out.seen).mono ?_); rintro e w4 ⟨rfl, hg, hs⟩; have HQ3 := Lib.hid (show ApartAt w w4 S R P g4 n (m0 + 1) from HQ2.out.grown hg hs); clear hg hs d0 d1 d2; obtain ⟨d0, d1, d2⟩ := HQ3.out.bx.cells))
                    go_roundg (gk - 1)
                    case measure => have := Hv.out; omega
                    case rel => exact ⟨v + 1, by have := Hv.out; omega, val_int (by have := Hmm.out; omega), ⟨_, by omega, rfl⟩, by have e : m0 + (v + 1) = m0 + 1 := (by have := Hmm.out; omega); rw [e]; exact HQ3.out⟩
                  · obtain rfl : u = (k : Int) := by omega
                    have HPc : Hid (∀ w, Calls Try.prog 25 #[.agg #[.int .i64 (S : Int), .int .i64 (R : Int), .int .i64 (P : Int)], .int .i64 (i : Int), .int .i64 (k : Int)] w fun e w' => e = .returned (.int .i64 ((mm : Int))) ∧ Below w.heap.size w w') := Lib.hid (fun w => by have h1 := piece_any h (i : Int) (k : Int) w; rw [HF.out.pb k hkP, show m0 + 1 + k = mm by omega] at h1; exact h1)
                    have HL : Hid (∀ w, BlockIs w g4 4 (seenA n mm) → Calls Try.prog 28 #[.agg #[.int .i64 (S : Int), .int .i64 (R : Int), .int .i64 (P : Int)], .slice (some ⟨g4, 0, none⟩) n n, .int .i64 (mm : Int), .int .i64 7, .int .i64 (i : Int), .int .i64 (k : Int)] w fun e w' => e = .returned (.bool true) ∧ w.grownBy w' (some g4) ∧ BlockIs w' g4 4 (seenA n (mm + 1))) := Lib.hid (lies_any h (by omega) Hn.out (by have := HF.out.pies k hkP; rw [show m0 + 1 + k = mm by omega] at this; exact this))
                    have hk0 : ¬(k : Int) < 0 := by omega
                    clear hv hmm hu
                    go_wp2_with (first | (go_at_call 25; (with_reducible refine (HPc.out _).mono ?_); rintro e w3 ⟨rfl, hb⟩; replace HQ2 := Lib.hid (HQ2.out.below hb); clear hb d0 d1 d2; obtain ⟨d0, d1, d2⟩ := HQ2.out.bx.cells) | (go_at_call 28; (with_reducible refine (HL.out _ HQ2.out.seen).mono ?_); rintro e w4 ⟨rfl, hg, hs⟩; have HQ3 := Lib.hid (show ApartAt w w4 S R P g4 n (mm + 1) from HQ2.out.grown hg hs); clear hg hs d0 d1 d2; obtain ⟨d0, d1, d2⟩ := HQ3.out.bx.cells))
                    go_roundg (gk - 1)
                    case measure => have := Hv.out; omega
                    case rel => exact ⟨v + 1, by have := Hv.out; omega, val_int (by have := Hmm.out; omega), ⟨_, by omega, rfl⟩, by have e : m0 + (v + 1) = mm + 1 := (by have := Hmm.out; omega); rw [e]; exact HQ3.out⟩
                · obtain rfl : v = P + 1 := by omega
                  go_wp2_with fail
                  go_roundg (2 - (i + 1))
                  case measure => have := Hi.out; omega
                  case rel => exact ⟨i + 1, by have := Hi.out; omega, val_int (by have := Hmm.out; have := Hm.out; rw [Nat.add_mul]; omega), rfl, by have e : 6 + S * (R + 2) + (i + 1) * (P + 1) = mm := (by have := Hmm.out; have := Hm.out; rw [Nat.add_mul]; omega); rw [e]; exact HQ2.out⟩
            · obtain rfl : i = 2 := by have := Hi.out; omega
              have hnn : 6 + S * (R + 2) + 2 * (P + 1) = n := by rw [Hn.out]; rfl
              rw [hnn] at HQ ⊢
              have HW : Hid (∀ w, Calls Try.prog 7 #[.agg #[.int .i64 (S : Int), .int .i64 (R : Int), .int .i64 (P : Int)], .int .i64 (n : Int)] w fun e w' => e = .returned (.tuple #[.int .i64 0, .int .i64 0, .int .i64 0]) ∧ Below w.heap.size w w') := Lib.hid (fun w => by
                have := what_any h (n : Int) (by omega) (by omega) w
                rw [show whatI S R P (n : Int) = (0, 0, 0) by unfold whatI; rw [if_neg (by rw [← Hn.out]; omega)]] at this
                exact this)
              clear hnn
              go_wp2_with (go_at_call 7; (with_reducible refine (HW.out _).mono ?_); rintro e w3 ⟨rfl, hb⟩; have HQ3 := Lib.hid (HQ.out.below hb); clear hb)
              go_ret
              exact ⟨rfl, HQ3.out.bx.bl⟩
/-- PlanApart, of any shape. -/
theorem planApart_any (a b c : Int) (w : World) :
    Calls Try.prog 5 #[.agg #[.int .i64 a, .int .i64 b, .int .i64 c]] w fun e w' => e = .returned (.bool true) ∧ Below w.heap.size w w' := by
  cases hr : rightB a b c with
  | true =>
    obtain ⟨S, R, P, rfl, rfl, rfl, h⟩ := right_shape hr
    exact apart_right h w
  | false => exact apart_not hr w
end Go.Proofs.Ytapejjlnicmfiaa
