/- Two rows that were handed out lie apart, and a third between them is let be. -/
import Derived.Test.YtbkecaenjjlmoaaGreatDoorKitThree
namespace Go.Proofs.YtbkecaenjjlmoaaGreatDoor
open Go.RowKit
/-- Three rows: the first, the second between, the third. -/
def colT (a b : Nat) : Nat → Nat := fun k => if k < a then 2 else if k < b then 5 else 3
theorem rows_tri {wc wa wb wg : World} {XA XG : Option Addr} {ca cg : Nat} {y : List Int}
    (ha : wa.ownsRow wc.heap.size 5 1 (.slice XA y.length ca) y.length (u8s y)) (hba : Below wc.heap.size wc wa)
    (hbb : Below wa.heap.size wa wb)
    (hg : wg.ownsRow wb.heap.size 5 1 (.slice XG y.length cg) y.length (u8s y)) (hbg : Below wb.heap.size wb wg) :
    ∀ k v, [(.slice XA y.length ca : Value), .slice XG y.length cg][k]? = some v → wg.ownsRow wc.heap.size 5 1 v y.length (u8s y) ∧ Col (colT wa.heap.size wb.heap.size) v (k + 2) := by
  have h1 := hba.size
  have h2 := hbb.size
  intro k v hv
  match k, hv with
  | 0, hv =>
    obtain rfl := Option.some.inj hv
    refine ⟨ownsRow_below (ownsRow_below ha hbb) hbg, fun b e => ?_⟩
    have := (ha.lt b e).2
    unfold colT; rw [if_pos this]
  | 1, hv =>
    obtain rfl := Option.some.inj hv
    refine ⟨ownsRow_base hg (Nat.le_trans h1 h2), fun b e => ?_⟩
    have := (hg.lt b e).1
    unfold colT; rw [if_neg (by omega), if_neg (by omega)]
  | k + 2, hv => simp at hv
theorem apart_tri {wc wa wb wg w1 : World} {XA XG : Option Addr} {ca cg : Nat} {y : List Int}
    (hr : ∀ k v, [(.slice XA y.length ca : Value), .slice XG y.length cg][k]? = some v → wg.ownsRow wc.heap.size 5 1 v y.length (u8s y) ∧ Col (colT wa.heap.size wb.heap.size) v (k + 2))
    (hl : y.length ≤ 140737488000000) (hbc : Below wc.heap.size wc wg) (h1 : Below wg.heap.size wg w1) :
    Calls Tryz.prog 13 #[.slice (some ⟨w1.heap.size, 0, none⟩) 2 2] (w1.alloc (.cells #[.slice XA y.length ca, .slice XG y.length cg] 22)) fun e w' => e = .returned (.bool true) ∧ Below wc.heap.size wc w' := by
  have hbn := h1.trans ((below_new w1 (.cells #[.slice XA y.length ca, .slice XG y.length cg] 22)).mono h1.size)
  have hs := hbc.size
  refine (apartBytes_any _ wc.heap.size 2 2 (some ⟨w1.heap.size, 0, none⟩) (colT wa.heap.size wb.heap.size) [.slice XA y.length ca, .slice XG y.length cg] (fun _ => y) rfl ?_ ?_ (Nat.le_trans hs hbn.size) (by decide) (fun _ => hl)).mono ?_
  · intro _
    refine ⟨w1.heap.size, 0, rfl, fun k v hv => ?_⟩
    obtain ⟨r0, r1⟩ := row2_cells w1 (.slice XA y.length ca) (.slice XG y.length cg) 22
    match k, hv with
    | 0, hv => obtain rfl := Option.some.inj hv; exact r0
    | 1, hv => obtain rfl := Option.some.inj hv; exact r1
    | k + 2, hv => simp at hv
  · intro k v hv
    obtain ⟨r1, r2⟩ := hr k v hv
    exact ⟨ownsRow_below r1 hbn, r2⟩
  · rintro e w' ⟨rfl, h2, _⟩
    exact ⟨rfl, (hbc.trans (hbn.mono hs)).trans h2⟩
end Go.Proofs.YtbkecaenjjlmoaaGreatDoor
