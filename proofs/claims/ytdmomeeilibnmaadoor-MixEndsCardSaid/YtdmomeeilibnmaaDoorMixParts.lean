/- MixParts: sums joined are the sum of both, however they are parted: the law's walk. -/
import Derived.Test.YtdmomeeilibnmaaDoorMixAwake
namespace Go.Proofs.YtdmomeeilibnmaaDoor
open Go.RowKit
theorem joined_sum (xs ys : List Int) (many : Int) (h : many = ys.length) : joined (Mx.sum xs) (Mx.sum ys) many = Mx.sum (xs ++ ys) := by
  subst h
  by_cases h0 : (ys.length : Int) < 1
  · have hy : ys = [] := List.eq_nil_of_length_eq_zero (by omega)
    subst hy
    rw [joined_none _ _ _ h0, List.append_nil]
  · rw [joined_some _ _ _ h0, Int.toNat_natCast, Mx.sum_append]
theorem join_sum (xs ys zs : List Int) (many : Int) (w : World) (h : many = ys.length) (hl : ys.length ≤ 9223372036854775807) (hz : xs ++ ys = zs) :
    Calls Tryd.prog 14 #[.int .u32 ((Mx.sum xs).toNat : Int), .int .u32 ((Mx.sum ys).toNat : Int), .int .i64 many] w fun e w' => e = .returned (.int .u32 ((Mx.sum zs).toNat : Int)) ∧ w = w' := by
  refine (join_any (Mx.sum xs) (Mx.sum ys) many w (by omega)).mono ?_
  rw [joined_sum xs ys many h, hz]
  exact fun _ _ h => h
theorem join_zero (x : BitVec 32) (w : World) :
    Calls Tryd.prog 14 #[.int .u32 (x.toNat : Int), .int .u32 0, .int .i64 0] w fun e w' => e = .returned (.int .u32 (x.toNat : Int)) ∧ w = w' := by
  refine (join_any x 0#32 0 w (by decide)).mono ?_
  rw [joined_none _ _ _ (by decide)]
  exact fun _ _ h => h
theorem join_front (xs : List Int) (w : World) (hl : xs.length ≤ 9223372036854775807) :
    Calls Tryd.prog 14 #[.int .u32 0, .int .u32 ((Mx.sum xs).toNat : Int), .int .i64 (xs.length : Int)] w fun e w' => e = .returned (.int .u32 ((Mx.sum xs).toNat : Int)) ∧ w = w' :=
  join_sum [] xs xs _ w rfl hl rfl
theorem sum_part (zs : List Int) (g : Nat) (A : Option Addr) (cap : Nat) (w : World) (hc : w.cell? ⟨g, 0, none⟩ = some (.slice A zs.length cap)) (hz : BytesAt w A zs) (hcap : zs.length ≤ cap) (hm : cap ≤ 9223372036854775807) :
    Calls Tryd.prog 12 #[.slice (some ⟨g, 0, none⟩) 1 1] w fun e w' => e = .returned (.int .u32 ((Mx.sum zs).toNat : Int)) ∧ Below w.heap.size w w' :=
  sum_at zs _ g A cap w rfl hc hz hcap hm
theorem sum_three (p q r : Part) (g : Nat) (w : World) (h0 : w.cell? ⟨g, 0, none⟩ = some p.val) (h1 : w.cell? ⟨g, 1, none⟩ = some q.val) (h2 : w.cell? ⟨g, 2, none⟩ = some r.val) (hp : p.ok w) (hq : q.ok w) (hr : r.ok w) :
    Calls Tryd.prog 12 #[.slice (some ⟨g, 0, none⟩) 3 3] w fun e w' => e = .returned (.int .u32 ((Mx.sum (p.zs ++ q.zs ++ r.zs)).toNat : Int)) ∧ Below w.heap.size w w' := by
  have hps : PartsAt w (some ⟨g, 0, none⟩) [p, q, r] := by
    refine ⟨fun x hx => ?_, fun _ => ⟨g, 0, rfl, fun i x hx => ?_⟩⟩
    · simp at hx
      rcases hx with rfl | rfl | rfl
      · exact hp
      · exact hq
      · exact hr
    · match i, hx with
      | 0, hx => obtain rfl : p = x := by simpa using hx
                 simpa using h0
      | 1, hx => obtain rfl : q = x := by simpa using hx
                 simpa using h1
      | 2, hx => obtain rfl : r = x := by simpa using hx
                 simpa using h2
      | i + 3, hx => simp at hx
  refine (sum_any _ _ 3 w hps (by simp)).mono ?_
  have e : bytesOf [p, q, r] = p.zs ++ q.zs ++ r.zs := by unfold bytesOf; simp
  rw [e]
  exact fun _ _ h => h
theorem row3_cells (W : World) (x y z : Value) (t : TypeId) : (W.alloc (.cells #[x, y, z] t)).cell? ⟨W.heap.size, 0, none⟩ = some x ∧ (W.alloc (.cells #[x, y, z] t)).cell? ⟨W.heap.size, 1, none⟩ = some y ∧ (W.alloc (.cells #[x, y, z] t)).cell? ⟨W.heap.size, 2, none⟩ = some z := by
  rw [World.cell?_alloc_new, World.cell?_alloc_new, World.cell?_alloc_new]; exact ⟨rfl, rfl, rfl⟩
theorem below_new (w : World) (o : Obj) : Below w.heap.size w (w.alloc o) := (Below.refl _ _).alloc (Nat.le_refl _) o
set_option maxRecDepth 100000 in
set_option maxHeartbeats 4000000 in
theorem mixParts_any (p q r : Part) (b : Addr) (w : World) (hg : w.cell? ⟨0, 0, none⟩ = some (.iface 73 (.pointer (some b))))
    (hp : p.ok w) (hq : q.ok w) (hr : r.ok w) (lp : p.cap ≤ 140737488351232) (lq : q.cap ≤ 140737488351232) (lr : r.cap ≤ 140737488351232) :
    Calls Tryd.prog 6 #[p.val, q.val, r.val] w fun e w' => e = .returned (.bool true) ∧ Below w.heap.size w w' := by
  obtain ⟨pA, pz, pc⟩ := p
  obtain ⟨qA, qz, qc⟩ := q
  obtain ⟨rA, rz, rc⟩ := r
  have hp1 : pz.length ≤ 140737488351232 := Nat.le_trans hp.2.1 lp
  have hq1 : qz.length ≤ 140737488351232 := Nat.le_trans hq.2.1 lq
  have hr1 : rz.length ≤ 140737488351232 := Nat.le_trans hr.2.1 lr
  unfold Part.val
  clear lp lq lr
  go_enter Tryd.func6, Tryd.ntmps6
  go_wp2_with fail
  refine (awake_any b w hg).mono ?_
  rintro e w1 ⟨rfl, hb1⟩
  have hp2 := hp.below hb1
  have hq2 := hq.below hb1
  have hr2 := hr.below hb1
  clear hp hq hr hg
  by_cases hlen : pz.length + qz.length + rz.length > 20000
  · go_wp2_with fail
    go_ret
    exact ⟨rfl, hb1⟩
  · go_wp2_with fail
    refine (sum_part pz _ pA pc _ (cell_row _ _ _) (hp2.1.below (below_new _ _)) hp2.2.1 hp2.2.2).mono ?_
    rintro e w2 ⟨rfl, hb2⟩
    have hB2 := (below_new w1 _).trans (hb2.mono (by simp))
    have hp3 := hp2.below hB2
    have hq3 := hq2.below hB2
    have hr3 := hr2.below hB2
    have hC2 := hb1.trans (hB2.mono hb1.size)
    go_wp2_with fail
    refine (sum_part qz _ qA qc _ (cell_row _ _ _) (hq3.1.below (below_new _ _)) hq3.2.1 hq3.2.2).mono ?_
    rintro e w3 ⟨rfl, hb3⟩
    have hB3 := (below_new w2 _).trans (hb3.mono (by simp))
    have hp4 := hp3.below hB3
    have hq4 := hq3.below hB3
    have hr4 := hr3.below hB3
    have hC3 := hC2.trans (hB3.mono hC2.size)
    go_wp2_with fail
    refine (sum_part rz _ rA rc _ (cell_row _ _ _) (hr4.1.below (below_new _ _)) hr4.2.1 hr4.2.2).mono ?_
    rintro e w4 ⟨rfl, hb4⟩
    have hB4 := (below_new w3 _).trans (hb4.mono (by simp))
    have hp5 := hp4.below hB4
    have hq5 := hq4.below hB4
    have hr5 := hr4.below hB4
    have hC4 := hC3.trans (hB4.mono hC3.size)
    go_wp2_with fail
    refine (sum_three ⟨pA, pz, pc⟩ ⟨qA, qz, qc⟩ ⟨rA, rz, rc⟩ w4.heap.size _ (row3_cells _ _ _ _ _).1 (row3_cells _ _ _ _ _).2.1 (row3_cells _ _ _ _ _).2.2 (hp5.below (below_new _ _)) (hq5.below (below_new _ _)) (hr5.below (below_new _ _))).mono ?_
    rintro e w5 ⟨rfl, hb5⟩
    have hB5 := (below_new w4 _).trans (hb5.mono (by simp))
    have hC5 := hC4.trans (hB5.mono hC4.size)
    clear hp2 hp3 hp4 hp5 hq2 hq3 hq4 hq5 hr2 hr3 hr4 hr5 hB2 hB3 hB4 hB5 hb1 hb2 hb3 hb4 hb5 hC2 hC3 hC4
    go_wp2_with fail
    refine (join_sum pz qz (pz ++ qz) _ _ rfl (by omega) rfl).mono ?_
    rintro e w' ⟨rfl, rfl⟩
    go_wp2_with fail
    refine (join_sum (pz ++ qz) rz (pz ++ qz ++ rz) _ _ rfl (by omega) rfl).mono ?_
    rintro e w' ⟨rfl, rfl⟩
    go_wp2_with fail
    refine (join_sum qz rz (qz ++ rz) _ _ rfl (by omega) rfl).mono ?_
    rintro e w' ⟨rfl, rfl⟩
    go_wp2_with fail
    refine (join_sum pz (qz ++ rz) (pz ++ qz ++ rz) _ _ (by simp) (by simp; omega) (by simp)).mono ?_
    rintro e w' ⟨rfl, rfl⟩
    go_wp2_with fail
    refine (sum_nothing _).mono ?_
    rintro e w6 ⟨rfl, hb6⟩
    have hC6 := hC5.trans (hb6.mono hC5.size)
    go_wp2_with fail
    refine (join_zero _ _).mono ?_
    rintro e w' ⟨rfl, rfl⟩
    go_wp2_with fail
    refine (sum_nothing _).mono ?_
    rintro e w7 ⟨rfl, hb7⟩
    have hC7 := hC6.trans (hb7.mono hC6.size)
    go_wp2_with fail
    refine (join_front pz _ (by omega)).mono ?_
    rintro e w' ⟨rfl, rfl⟩
    go_wp2_with fail
    go_ret
    exact ⟨rfl, hC7⟩
end Go.Proofs.YtdmomeeilibnmaaDoor
