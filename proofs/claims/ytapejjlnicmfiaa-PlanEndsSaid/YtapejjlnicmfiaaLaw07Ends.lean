/- PlanEnds: the walk: shapes about the ends by numbers at their ends, small shapes block by block; each is a call of PlanTells. -/
import Derived.Test.YtapejjlnicmfiaaLaw07Tells
namespace Go.Proofs.Ytapejjlnicmfiaa
open Go.RowKit
/-- Numbers in a row at block g. -/
def Nums (w : World) (g : Nat) (zs : List Int) : Prop := ∀ i, i < zs.length → ∃ z : Int, w.cell? ⟨g, i, none⟩ = some (.int .i64 z) ∧ -9223372036854775808 ≤ z ∧ z ≤ 9223372036854775807
theorem Nums.below {w w' : World} {g : Nat} {zs : List Int} (h : Nums w g zs) (hb : Below w.heap.size w w') : Nums w' g zs := fun i hi => by
  obtain ⟨z, h1, h2⟩ := h i hi
  exact ⟨z, cell_below h1 hb, h2⟩
theorem nums_lit (w : World) (zs : List Int) (t : TypeId) (hz : ∀ z ∈ zs, -9223372036854775808 ≤ z ∧ z ≤ 9223372036854775807) : Nums (w.alloc (.cells (zs.map (Value.int .i64)).toArray t)) w.heap.size zs := fun i hi => by
  refine ⟨zs[i], ?_, hz _ (List.getElem_mem hi)⟩
  rw [World.cell?_alloc_new, List.getElem?_toArray, List.getElem?_map, List.getElem?_eq_getElem hi]; rfl
/-- How many blocks any shape has. -/
theorem rblocks_all (a b c : Int) : ∃ v : Int, 0 ≤ v ∧ v ≤ 648 ∧ ∀ w, Calls Try.prog 12 #[.agg #[.int .i64 a, .int .i64 b, .int .i64 c]] w fun e w' => e = .returned (.int .i64 v) ∧ Below w.heap.size w w' := by
  cases hr : rightB a b c with
  | true =>
    obtain ⟨S, R, P, rfl, rfl, rfl, h⟩ := right_shape hr
    have := Pl.all_le h
    exact ⟨(Pl.all S R P : Int), by omega, by omega, rblocks_any h⟩
  | false => exact ⟨0, by omega, by omega, rblocks_not hr⟩
/-- The four rows of numbers. -/
structure Four (w wx : World) (g1 g2 g3 g4 : Nat) : Prop where
  bl : Below w.heap.size w wx
  segs : Nums wx g1 [-1, 1, 2, 16, 17]
  recs : Nums wx g2 [0, 1, 32, 33]
  pies : Nums wx g3 [0, 1, 48, 49]
  nums : Nums wx g4 [-9223372036854775808, -1, 0, 1, 2, 32, 33, 1099511627776, 1099511627777, 9223372036854775807]
theorem Four.below {w wx wy : World} {g1 g2 g3 g4 : Nat} (h : Four w wx g1 g2 g3 g4) (hb : Below wx.heap.size wx wy) : Four w wy g1 g2 g3 g4 := ⟨h.bl.trans (hb.mono h.bl.size), h.segs.below hb, h.recs.below hb, h.pies.below hb, h.nums.below hb⟩
theorem Four.start (w : World) : Four w ((((w.alloc (.cells #[.int .i64 (-1), .int .i64 1, .int .i64 2, .int .i64 16, .int .i64 17] 3)).alloc (.cells #[.int .i64 0, .int .i64 1, .int .i64 32, .int .i64 33] 3)).alloc (.cells #[.int .i64 0, .int .i64 1, .int .i64 48, .int .i64 49] 3)).alloc
    (.cells #[.int .i64 (-9223372036854775808), .int .i64 (-1), .int .i64 0, .int .i64 1, .int .i64 2, .int .i64 32, .int .i64 33, .int .i64 1099511627776, .int .i64 1099511627777, .int .i64 9223372036854775807] 3)) w.heap.size (w.heap.size + 1) (w.heap.size + 1 + 1) (w.heap.size + 1 + 1 + 1) := by
  have n1 := nums_lit w [-1, 1, 2, 16, 17] 3 (by decide)
  have n2 := nums_lit (w.alloc (.cells #[.int .i64 (-1), .int .i64 1, .int .i64 2, .int .i64 16, .int .i64 17] 3)) [0, 1, 32, 33] 3 (by decide)
  have n3 := nums_lit ((w.alloc (.cells #[.int .i64 (-1), .int .i64 1, .int .i64 2, .int .i64 16, .int .i64 17] 3)).alloc (.cells #[.int .i64 0, .int .i64 1, .int .i64 32, .int .i64 33] 3)) [0, 1, 48, 49] 3 (by decide)
  have n4 := nums_lit (((w.alloc (.cells #[.int .i64 (-1), .int .i64 1, .int .i64 2, .int .i64 16, .int .i64 17] 3)).alloc (.cells #[.int .i64 0, .int .i64 1, .int .i64 32, .int .i64 33] 3)).alloc (.cells #[.int .i64 0, .int .i64 1, .int .i64 48, .int .i64 49] 3)) [-9223372036854775808, -1, 0, 1, 2, 32, 33, 1099511627776, 1099511627777, 9223372036854775807] 3 (by decide)
  rw [World.size_alloc] at n2
  rw [World.size_alloc, World.size_alloc] at n3
  rw [World.size_alloc, World.size_alloc, World.size_alloc] at n4
  exact ⟨(((below_new w _).alloc (by simp) _).alloc (by simp; omega) _).alloc (by simp; omega) _, ((n1.below (below_new _ _)).below (below_new _ _)).below (below_new _ _), (n2.below (below_new _ _)).below (below_new _ _), n3.below (below_new _ _), n4⟩
theorem wrap_lo (t : Int) : -9223372036854775808 ≤ IntKind.i64.wrap t := by rw [IntKind.wrap_i64]; omega
theorem wrap_hi (t : Int) : IntKind.i64.wrap t ≤ 9223372036854775807 := by rw [IntKind.wrap_i64]; omega
set_option maxRecDepth 100000 in
set_option maxHeartbeats 4000000 in
theorem planEnds_any (w : World) : Calls Try.prog 4 #[] w fun e w' => e = .returned (.bool true) ∧ Below w.heap.size w w' := by
  have H4 := Lib.hid (Four.start w)
  have HA := Lib.hid awake_any
  go_enter Try.func4, Try.ntmps4
  go_wp2
  generalize w.heap.size + 1 + 1 + 1 = g4 at *
  generalize w.heap.size + 1 + 1 = g3 at *
  generalize w.heap.size + 1 = g2 at *
  generalize hg1 : w.heap.size = g1 at *
  go_loopg [5] 80 (fun g x wx => ∃ n : Nat, n + g = 80 ∧ x = .int .i64 (n : Int) ∧ Four w wx g1 g2 g3 g4)
  case atStart => exact ⟨0, rfl, rfl, H4.out⟩
  case round =>
    obtain ⟨n, hn, rfl, h4⟩ := hrel
    by_cases hl : (n : Int) < 80
    · obtain ⟨m1, hm1⟩ : ∃ m, n % 5 = m := ⟨_, rfl⟩
      obtain ⟨m2, hm2⟩ : ∃ m, n / 5 = m := ⟨_, rfl⟩
      obtain ⟨m3, hm3⟩ : ∃ m, m2 % 4 = m := ⟨_, rfl⟩
      obtain ⟨m4, hm4⟩ : ∃ m, n / 20 = m := ⟨_, rfl⟩
      have f1 : Int.tmod (n : Int) 5 = (m1 : Int) := by rw [← hm1]; rfl
      have f2 : IntKind.i64.wrap ((n : Int) / 5) = (m2 : Int) := by rw [← hm2, IntWalk.i64_in _ (by omega)]; omega
      have f3 : Int.tmod (m2 : Int) 4 = (m3 : Int) := by rw [← hm3]; rfl
      have f4 : IntKind.i64.wrap ((n : Int) / 20) = (m4 : Int) := by rw [← hm4, IntWalk.i64_in _ (by omega)]; omega
      have b1 : (m1 : Int) < 5 := by omega
      have b3 : (m3 : Int) < 4 := by omega
      have b4 : (m4 : Int) < 4 := by omega
      obtain ⟨x, c1, _⟩ := h4.segs m1 (by show m1 < 5; omega)
      obtain ⟨y, c2, _⟩ := h4.recs m3 (by show m3 < 4; omega)
      obtain ⟨z, c3, _⟩ := h4.pies m4 (by show m4 < 4; omega)
      have c1a := fun o => cell_below c1 (below_new wr o)
      have c2a := fun o => cell_below c2 (below_new wr o)
      have c3a := fun o => cell_below c3 (below_new wr o)
      have HF := Lib.hid h4
      have Hn := Lib.hid hn
      clear hm1 hm2 hm3 hm4 h4 hn
      go_wp2_with fail
      go_region
      have h4 := HF.out.below (below_new wr (.cells #[.int .i64 x, .int .i64 y, .int .i64 z] 23))
      have hbx := BlockIs.made wr 23 #[.int .i64 x, .int .i64 y, .int .i64 z]
      have HW : Hid (Four w (wr.alloc (.cells #[.int .i64 x, .int .i64 y, .int .i64 z] 23)).drew g1 g2 g3 g4 ∧ BlockIs (wr.alloc (.cells #[.int .i64 x, .int .i64 y, .int .i64 z] 23)).drew wr.heap.size 23 #[.int .i64 x, .int .i64 y, .int .i64 z]) := Lib.hid ⟨h4.below (drewN_below (Below.refl _ _) 1), hbx⟩
      clear h4 hbx c1 c2 c3 c1a c2a c3a f1 f2 f3 f4 b1 b3 b4
      generalize (wr.alloc (.cells #[.int .i64 x, .int .i64 y, .int .i64 z] 23)).drew = w2 at *
      generalize wr.heap.size = g5 at *
      clear HF
      go_wp2_with fail
      go_loopg [7] 10 (fun g o wx => ∃ i : Nat, i + g = 10 ∧ o = .int .i64 (i : Int) ∧ Below w2.heap.size w2 wx)
      case atStart => exact ⟨0, rfl, rfl, Below.refl _ _⟩
      case round =>
        obtain ⟨i, hi, rfl, hB⟩ := hrel
        have HB := Lib.hid hB
        clear hB
        by_cases hl2 : (i : Int) < 10
        · obtain ⟨p1, hp1⟩ : ∃ m, i + n = m := ⟨_, rfl⟩
          obtain ⟨p2, hp2⟩ : ∃ m, i * 3 = m := ⟨_, rfl⟩
          obtain ⟨p3, hp3⟩ : ∃ m, p2 + n = m := ⟨_, rfl⟩
          obtain ⟨p4, hp4⟩ : ∃ m, i * 7 = m := ⟨_, rfl⟩
          obtain ⟨p5, hp5⟩ : ∃ m, p4 + n = m := ⟨_, rfl⟩
          obtain ⟨r1, hr1⟩ : ∃ m, p1 % 10 = m := ⟨_, rfl⟩
          obtain ⟨r2, hr2⟩ : ∃ m, p3 % 10 = m := ⟨_, rfl⟩
          obtain ⟨r3, hr3⟩ : ∃ m, p5 % 10 = m := ⟨_, rfl⟩
          have e1 : IntKind.i64.wrap ((i : Int) + (n : Int)) = (p1 : Int) := by rw [← hp1, IntWalk.i64_in _ (by omega)]; rfl
          have e2 : IntKind.i64.wrap ((i : Int) * 3) = (p2 : Int) := by rw [← hp2, IntWalk.i64_in _ (by omega)]; rfl
          have e3 : IntKind.i64.wrap ((p2 : Int) + (n : Int)) = (p3 : Int) := by rw [← hp3, IntWalk.i64_in _ (by omega)]; rfl
          have e4 : IntKind.i64.wrap ((i : Int) * 7) = (p4 : Int) := by rw [← hp4, IntWalk.i64_in _ (by omega)]; rfl
          have e5 : IntKind.i64.wrap ((p4 : Int) + (n : Int)) = (p5 : Int) := by rw [← hp5, IntWalk.i64_in _ (by omega)]; rfl
          have t1 : Int.tmod (p1 : Int) 10 = (r1 : Int) := by rw [← hr1]; rfl
          have t2 : Int.tmod (p3 : Int) 10 = (r2 : Int) := by rw [← hr2]; rfl
          have t3 : Int.tmod (p5 : Int) 10 = (r3 : Int) := by rw [← hr3]; rfl
          have q1 : (r1 : Int) < 10 := by omega
          have q2 : (r2 : Int) < 10 := by omega
          have q3 : (r3 : Int) < 10 := by omega
          obtain ⟨v0, n0, _⟩ := HW.out.1.nums i (by show i < 10; omega)
          obtain ⟨v1, n1, _⟩ := HW.out.1.nums r1 (by show r1 < 10; omega)
          obtain ⟨v2, n2, _⟩ := HW.out.1.nums r2 (by show r2 < 10; omega)
          obtain ⟨v3, n3, n4, n5⟩ := HW.out.1.nums r3 (by show r3 < 10; omega)
          have HT1 := Lib.hid (fun i g ar k => planTells_any x y z i g ar k v3 n4 n5)
          have HT2 := Lib.hid (fun i g ar k t => planTells_any x y z i g ar k (IntKind.i64.wrap t) (wrap_lo t) (wrap_hi t))
          obtain ⟨nb, _, _, hnb⟩ := rblocks_all x y z
          have HN := Lib.hid hnb
          have HK : Hid (∀ w3, Below w2.heap.size w2 w3 → w3.cell? ⟨g5, 0, none⟩ = some (.int .i64 x) ∧ w3.cell? ⟨g5, 1, none⟩ = some (.int .i64 y) ∧ w3.cell? ⟨g5, 2, none⟩ = some (.int .i64 z) ∧ w3.cell? ⟨g4, i, none⟩ = some (.int .i64 v0) ∧ w3.cell? ⟨g4, r1, none⟩ = some (.int .i64 v1) ∧ w3.cell? ⟨g4, r2, none⟩ = some (.int .i64 v2) ∧ w3.cell? ⟨g4, r3, none⟩ = some (.int .i64 v3)) := Lib.hid (fun w3 hb => ⟨cell_below (HW.out.2.cell 0) hb, cell_below (HW.out.2.cell 1) hb, cell_below (HW.out.2.cell 2) hb, cell_below n0 hb, cell_below n1 hb, cell_below n2 hb, cell_below n3 hb⟩)
          have Hi := Lib.hid hi
          clear hp1 hp2 hp3 hp4 hp5 hr1 hr2 hr3 n0 n1 n2 n3 n4 n5 hnb hi
          obtain ⟨k0, k1, k2, k3, k4, k5, k6⟩ := HK.out _ HB.out
          go_wp2_with fail
          go_region_held3 (fun w' => w'.cell? ⟨g5, 0, none⟩ = some (.int .i64 x) ∧ w'.cell? ⟨g5, 1, none⟩ = some (.int .i64 y) ∧ w'.cell? ⟨g5, 2, none⟩ = some (.int .i64 z) ∧ w'.cell? ⟨g4, i, none⟩ = some (.int .i64 v0) ∧ w'.cell? ⟨g4, r1, none⟩ = some (.int .i64 v1) ∧ w'.cell? ⟨g4, r2, none⟩ = some (.int .i64 v2) ∧ w'.cell? ⟨g4, r3, none⟩ = some (.int .i64 v3)) (first | exact ⟨k0, k1, k2, k3, k4, k5, k6⟩)
            (first
            | (go_at_call 3; (first | (with_reducible refine (HT1.out _ _ _ _ _).mono ?_) | (with_reducible refine (HT2.out _ _ _ _ _ _).mono ?_)); rintro e w3 ⟨rfl, hb⟩; replace HB := Lib.hid (show Below w2.heap.size w2 w3 from by first | exact HB.out.trans (hb.mono HB.out.size) | exact HB.out.drew.trans (hb.mono HB.out.size)); clear hb k0 k1 k2 k3 k4 k5 k6; obtain ⟨k0, k1, k2, k3, k4, k5, k6⟩ := HK.out _ HB.out)
            | (go_at_call 12; (with_reducible refine (HN.out _).mono ?_); rintro e w3 ⟨rfl, hb⟩; replace HB := Lib.hid (show Below w2.heap.size w2 w3 from by first | exact HB.out.trans (hb.mono HB.out.size) | exact HB.out.drew.trans (hb.mono HB.out.size)); clear hb k0 k1 k2 k3 k4 k5 k6; obtain ⟨k0, k1, k2, k3, k4, k5, k6⟩ := HK.out _ HB.out)
            | fail)
          all_goals clear e1 e2 e3 e4 e5 t1 t2 t3 q1 q2 q3 k0 k1 k2 k3 k4 k5 k6
          all_goals go_wp2_with fail
          go_roundg (gk - 1)
          case measure => have := Hi.out; omega
          case rel => exact ⟨i + 1, by have := Hi.out; omega, rfl, HB.out⟩
        · obtain rfl : i = 10 := by omega
          have h9 := HW.out.1.nums 9 (by decide)
          clear h9
          go_wp2_with fail
          go_roundg (80 - (n + 1))
          case measure => have := Hn.out; omega
          case rel => exact ⟨n + 1, by have := Hn.out; omega, rfl, HW.out.1.below HB.out⟩
    · obtain rfl : n = 80 := by omega
      have HB0 := Lib.hid h4.bl
      clear h4
      go_wp2_with fail
      go_loopg [8] 27 (fun g o wx => ∃ n : Nat, n + g = 27 ∧ o = .int .i64 (n : Int) ∧ Below w.heap.size w wx)
      case atStart => exact ⟨0, rfl, rfl, HB0.out⟩
      case round =>
        obtain ⟨n, hn, rfl, hb1⟩ := hrel
        have HB1 := Lib.hid hb1
        have Hn := Lib.hid hn
        clear hb1 hn
        by_cases hl : (n : Int) < 27
        · go_wp2_with fail
          generalize (2 : Int) + (n : Int) % 3 = x at *
          generalize (1 : Int) + (n : Int) / 3 % 3 = y at *
          generalize (1 : Int) + (n : Int) / 9 = z at *
          have HX := Lib.hid (Boxed.start wr x y z)
          have HT := Lib.hid (fun i g ar k v h0 h1 => planTells_any x y z i g ar k v h0 h1)
          generalize wr.alloc (.cells #[.int .i64 x, .int .i64 y, .int .i64 z] 23) = w2 at *
          go_loopg [10] 47 (fun g o wx => ∃ v : Int, v + g = 45 ∧ o = .int .i64 v ∧ -2 ≤ v ∧ Boxed wr wx x y z)
          case atStart => exact ⟨-2, rfl, rfl, by omega, HX.out⟩
          case round =>
            obtain ⟨v, hv, rfl, hv0, hX⟩ := hrel
            have HX2 := Lib.hid hX
            obtain ⟨d0, d1, d2⟩ := hX.cells
            have Hv := Lib.hid hv
            have HT2 := Lib.hid (fun i g ar k => HT.out i g ar k v (by omega) (by omega))
            clear hX hv
            by_cases hl2 : v < 45
            · go_wp2_with (go_at_call 3; (with_reducible refine (HT2.out _ _ _ _ _).mono ?_); rintro e w3 ⟨rfl, hb⟩; have HX3 := Lib.hid (HX2.out.below hb); clear hb)
              go_roundg (gk - 1)
              case measure => have := Hv.out; omega
              case rel => exact ⟨v + 1, by have := Hv.out; omega, rfl, by omega, HX3.out⟩
            · clear d0 d1 d2
              go_wp2_with fail
              go_roundg (27 - (n + 1))
              case measure => have := Hn.out; omega
              case rel => exact ⟨n + 1, by have := Hn.out; omega, rfl, HB1.out.trans (HX2.out.bl.mono HB1.out.size)⟩
        · obtain rfl : n = 27 := by have := Hn.out; omega
          go_wp2_with (go_at_call 27; (with_reducible refine (HA.out _).mono ?_); rintro e w3 ⟨rfl, hb⟩)
          go_ret
          exact ⟨rfl, HB1.out.trans (hb.mono HB1.out.size)⟩
end Go.Proofs.Ytapejjlnicmfiaa
