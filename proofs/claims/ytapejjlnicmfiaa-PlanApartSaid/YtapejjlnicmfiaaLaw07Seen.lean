/- PlanApart's row of blocks that were seen; lies: a block that is seen for the first time. -/
import Derived.Test.YtapejjlnicmfiaaLaw07Awake
namespace Go.Proofs.Ytapejjlnicmfiaa
open Go.RowKit
/-- The first m of n blocks were seen. -/
def seenA (n m : Nat) : Array Value := ((List.range n).map fun j => Value.bool (decide (j < m))).toArray
theorem seenA_get {n m j : Nat} (hj : j < n) : (seenA n m)[j]? = some (.bool (decide (j < m))) := by
  unfold seenA
  rw [List.getElem?_toArray, List.getElem?_map, List.getElem?_range hj]; rfl
theorem seenA_size (n m : Nat) : (seenA n m).size = n := by unfold seenA; simp
theorem seenA_set {n m : Nat} (hm : m < n) : (seenA n m).setIfInBounds m (.bool true) = seenA n (m + 1) := by
  refine Array.ext_getElem? fun j => ?_
  rw [Array.getElem?_setIfInBounds]
  by_cases hj : j < n
  · by_cases hmj : m = j
    · subst hmj
      rw [if_pos rfl, if_pos (by rw [seenA_size]; exact hm), seenA_get hm, decide_eq_true (by omega)]
    · rw [if_neg hmj, seenA_get hj, seenA_get hj]
      congr 2
      simp only [decide_eq_decide]; omega
  · rw [if_neg (by omega), Array.getElem?_eq_none (by rw [seenA_size]; omega), Array.getElem?_eq_none (by rw [seenA_size]; omega)]
theorem seenA_none (n : Nat) : seenA n 0 = Array.replicate n (.bool false) := by
  refine Array.ext_getElem? fun j => ?_
  by_cases hj : j < n
  · rw [seenA_get hj]; simp [hj]
  · rw [Array.getElem?_eq_none (by rw [seenA_size]; omega), Array.getElem?_eq_none (by simpa using hj)]
/-- What PlanApart keeps: its shape, and which blocks were seen. -/
structure ApartAt (w wx : World) (S R P g4 n m : Nat) : Prop where
  bx : Boxed w wx (S : Int) (R : Int) (P : Int)
  seen : BlockIs wx g4 4 (seenA n m)
  lt : w.heap.size < g4
section
variable {w wx wy : World} {S R P g4 n m : Nat}
theorem ApartAt.below (h : ApartAt w wx S R P g4 n m) (hb : Below wx.heap.size wx wy) : ApartAt w wy S R P g4 n m := ⟨h.bx.below hb, h.seen.below hb h.seen.lt, h.lt⟩
theorem ApartAt.drew (h : ApartAt w wx S R P g4 n m) : ApartAt w wx.drew S R P g4 n m := ⟨h.bx.drew, h.seen, h.lt⟩
theorem ApartAt.grown (h : ApartAt w wx S R P g4 n m) {m' : Nat} (hg : wx.grownBy wy (some g4)) (hs : BlockIs wy g4 4 (seenA n m')) : ApartAt w wy S R P g4 n m' :=
  ⟨⟨h.bx.bl.grown hg h.bx.bl.size (fun k hk => by cases hk; exact Nat.le_of_lt h.lt), h.bx.box.kept hg (by intro e; have := h.lt; simp at e; omega)⟩, hs, h.lt⟩
theorem ApartAt.mark (h : ApartAt w wx S R P g4 n m) (hm : m < n) : ApartAt w (wx.setCell ⟨g4, m, none⟩ (.bool true)) S R P g4 n (m + 1) :=
  h.grown (grown_at (grown_below (Below.refl _ _) _) m _) (by rw [← seenA_set hm]; exact h.seen.set1 m _)
theorem ApartAt.cell (h : ApartAt w wx S R P g4 n m) {j : Nat} (hj : j < n) : wx.cell? ⟨g4, j, none⟩ = some (.bool (decide (j < m))) := by rw [h.seen.cell j, seenA_get hj]
end
set_option maxRecDepth 100000 in
set_option maxHeartbeats 1600000 in
theorem lies_any {S R P : Nat} (h : Pl.Right S R P) {g4 n m k r a : Nat} (hm : m < n) (hn : n = Pl.all S R P) (hc : Pl.cell S R P m = (k, r, a)) (w : World) (hs : BlockIs w g4 4 (seenA n m)) :
    Calls Try.prog 28 #[shapeV S R P, .slice (some ⟨g4, 0, none⟩) n n, .int .i64 (m : Int), .int .i64 (k : Int), .int .i64 (r : Int), .int .i64 (a : Int)] w fun e w' => e = .returned (.bool true) ∧ w.grownBy w' (some g4) ∧ BlockIs w' g4 4 (seenA n (m + 1)) := by
  have hall := Pl.all_le h
  have hw : whatI S R P (m : Int) = ((k : Int), (r : Int), (a : Int)) := by
    unfold whatI
    rw [if_pos ⟨by omega, by omega⟩, Int.toNat_natCast, hc]
  have hW := what_any h (m : Int) (by omega) (by omega)
  rw [hw] at hW
  have HW : Hid (∀ w, Calls Try.prog 7 #[.agg #[.int .i64 (S : Int), .int .i64 (R : Int), .int .i64 (P : Int)], .int .i64 (m : Int)] w fun e w' => e = .returned (.tuple #[.int .i64 (k : Int), .int .i64 (r : Int), .int .i64 (a : Int)]) ∧ Below w.heap.size w w') := Lib.hid hW
  clear hW
  have hbx := Boxed.start w (S : Int) (R : Int) (P : Int)
  have hs1 := hs.below (below_new w (.cells #[.int .i64 (S : Int), .int .i64 (R : Int), .int .i64 (P : Int)] 23)) hs.lt
  have hglt := hs.lt
  have c0 := hs1.cell m
  rw [seenA_get hm, decide_eq_false (by omega)] at c0
  have f0 := hs1.free m
  have hg1 := grown_at (grown_below (below_new w (.cells #[.int .i64 (S : Int), .int .i64 (R : Int), .int .i64 (P : Int)] 23)) (some g4)) m (.bool true)
  have hs2 := hs1.set1 m (.bool true)
  rw [seenA_set hm] at hs2
  have hb2 : BlockIs ((w.alloc (.cells #[.int .i64 (S : Int), .int .i64 (R : Int), .int .i64 (P : Int)] 23)).setCell ⟨g4, m, none⟩ (.bool true)) w.heap.size 23 #[.int .i64 (S : Int), .int .i64 (R : Int), .int .i64 (P : Int)] := hbx.box.other g4 m (by omega) _
  have HS := Lib.hid (And.intro hg1 (And.intro hs2 hb2))
  have d0 := hb2.cell 0
  have d1 := hb2.cell 1
  have d2 := hb2.cell 2
  have hmi : (m : Int) < (n : Int) := by omega
  have hm0 : (0 : Int) ≤ (m : Int) := by omega
  have hn1 : (n : Int) ≤ 648 := by omega
  clear hw hc hn hall hm hbx hs hs1 hg1 hs2 hb2 hglt
  go_enter Try.func28, Try.ntmps28
  go_wp2_with (go_at_call 7; (with_reducible refine (HW.out _).mono ?_); rintro e w1 ⟨rfl, hb⟩; have HS1 := Lib.hid (And.intro (HS.out.1.trans (grown_below hb (some g4))) (HS.out.2.1.below hb HS.out.2.1.lt)); clear hb)
  go_ret
  exact ⟨rfl, HS1.out⟩
end Go.Proofs.Ytapejjlnicmfiaa
