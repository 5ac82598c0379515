/- UnitSeals: the law's walk. -/
import Derived.Test.YtbkecaenjjlmoaaGreatDoorLaw04Base
import Derived.Test.YtbkecaenjjlmoaaGreatDoorRef4SealW
import Derived.Test.YtbkecaenjjlmoaaGreatDoorKitTwo
import Derived.Test.YtbkecaenjjlmoaaGreatDoorKitC
import Derived.Deep.RegionHeld3
namespace Go.Proofs.YtbkecaenjjlmoaaGreatDoor
open Go.RowKit
/-- What was lent is there as long as its block is. -/
theorem lent_on {w w' : World} {g cap : Nat} {zs : List Int} (h : LentAt w (.slice (some ⟨g, 0, none⟩) zs.length cap) zs) (hb : Below w.heap.size w w') : LentAt w' (.slice (some ⟨g, 0, none⟩) zs.length cap) zs := by
  obtain ⟨g', cap', cs, e, h1, h2, h3, h4, h5⟩ := h
  obtain ⟨rfl, rfl⟩ : g = g' ∧ cap = cap' := by simpa using e
  exact ⟨g, cap, cs, rfl, h1, h2, (hb.block g (Array.getElem?_eq_some_iff.1 h3).1).trans h3, h4, h5⟩
theorem lent_bytes {w : World} {g cap : Nat} {zs : List Int} (h : LentAt w (.slice (some ⟨g, 0, none⟩) zs.length cap) zs) : BytesAt w (some ⟨g, 0, none⟩) zs := by
  obtain ⟨g', cap', cs, e, h1, h2, h3, h4, h5⟩ := h
  obtain ⟨rfl, rfl⟩ : g = g' ∧ cap = cap' := by simpa using e
  refine bytesAt_cells h5 (fun i hi => ?_)
  rw [cell_of_row _ _ _ _ _ _ h3, Nat.zero_add]
  have h6 : (cs.toList.take (zs.length + 12))[i]? = cs[i]? := by
    rw [List.getElem?_take_of_lt (by omega)]; simp
  rw [← h6, h4]
  unfold u8s
  rw [List.getElem?_map, List.getElem?_append_left hi, List.getD_eq_getElem?_getD, List.getElem?_eq_getElem hi]; rfl
/-- The two units' cells. -/
def T6 (q b : Nat) (u : UnitV) (X : Option Addr) (cap : Nat) (A : Option Addr) (c : Nat) (w : World) : Prop :=
  w.cell? ⟨q, 0, none⟩ = some (.int .i64 u.kind) ∧ w.cell? ⟨q, 1, none⟩ = some (.int .i64 u.num) ∧ w.cell? ⟨q, 2, none⟩ = some (.slice X u.body.length cap) ∧ w.cell? ⟨b, 0, none⟩ = some (.int .i64 u.kind) ∧ w.cell? ⟨b, 1, none⟩ = some (.int .i64 u.num) ∧ w.cell? ⟨b, 2, none⟩ = some (.slice A u.body.length c)
theorem T6.below {q b : Nat} {u : UnitV} {X : Option Addr} {cap : Nat} {A : Option Addr} {c : Nat} {w w' : World} (h : T6 q b u X cap A c w) (hb : Below w.heap.size w w') : T6 q b u X cap A c w' := by
  obtain ⟨h1, h2, h3, h4, h5, h6⟩ := h
  exact ⟨cell_below h1 hb, cell_below h2 hb, cell_below h3 hb, cell_below h4 hb, cell_below h5 hb, cell_below h6 hb⟩
theorem sealR_len {u : UnitV} : (sealR u).1.length ≤ 256 := by
  unfold sealR
  split
  · next hu => rw [show ((sealB u, (0 : Int))).1 = sealB u from rfl, seal_len hu.2.2]; exact Nat.le_refl _
  · exact Nat.zero_le _
theorem unitBox {w w' : World} {u : UnitV} {A : Option Addr} {c : Nat} (hb : Below (w.alloc (.cells #[.int .i64 u.kind, .int .i64 u.num, .slice A u.body.length c] 27)).heap.size (w.alloc (.cells #[.int .i64 u.kind, .int .i64 u.num, .slice A u.body.length c] 27)) w') :
    w'.cell? ⟨w.heap.size, 0, none⟩ = some (.int .i64 u.kind) ∧ w'.cell? ⟨w.heap.size, 1, none⟩ = some (.int .i64 u.num) ∧ w'.cell? ⟨w.heap.size, 2, none⟩ = some (.slice A u.body.length c) := by
  obtain ⟨c0, c1, c2⟩ := row3_cells w (.int .i64 u.kind) (.int .i64 u.num) (.slice A u.body.length c) 27
  exact ⟨cell_below c0 hb, cell_below c1 hb, cell_below c2 hb⟩
/-- Both units lie there, the lent body among them. -/
def Ready (w wc : World) (q g cap : Nat) (u : UnitV) (A : Option Addr) (c : Nat) : Prop := T6 q w.heap.size u (some ⟨g, 0, none⟩) cap A c wc ∧ LentAt wc (.slice (some ⟨g, 0, none⟩) u.body.length cap) u.body ∧ Below w.heap.size w wc
theorem ready_new {w w2 : World} {g cap : Nat} {u : UnitV} {A : Option Addr} {c : Nat} (hq : Below (w.alloc (.cells #[.int .i64 u.kind, .int .i64 u.num, .slice A u.body.length c] 27)).heap.size (w.alloc (.cells #[.int .i64 u.kind, .int .i64 u.num, .slice A u.body.length c] 27)) w2) (hl : LentAt w2 (.slice (some ⟨g, 0, none⟩) u.body.length cap) u.body) : Ready w (w2.alloc (.cells #[.int .i64 u.kind, .int .i64 u.num, .slice (some ⟨g, 0, none⟩) u.body.length cap] 27)) w2.heap.size g cap u A c := by
  have hbn := below_new w (.cells #[.int .i64 u.kind, .int .i64 u.num, .slice A u.body.length c] 27)
  have hbn2 := below_new w2 (.cells #[.int .i64 u.kind, .int .i64 u.num, .slice (some ⟨g, 0, none⟩) u.body.length cap] 27)
  obtain ⟨q0, q1, q2⟩ := row3_cells w2 (.int .i64 u.kind) (.int .i64 u.num) (.slice (some ⟨g, 0, none⟩) u.body.length cap) 27
  obtain ⟨k0, k1, k2⟩ := unitBox hq
  exact ⟨⟨q0, q1, q2, cell_below k0 hbn2, cell_below k1 hbn2, cell_below k2 hbn2⟩, lent_on hl hbn2, hbn.trans ((hq.trans (hbn2.mono hq.size)).mono hbn.size)⟩
theorem ready_set {w w2 : World} {q g cap : Nat} {u : UnitV} {A : Option Addr} {c : Nat} {x y z : Value} (hB : BlockIs w2 q 27 #[x, y, z]) (hq : Below (w.alloc (.cells #[.int .i64 u.kind, .int .i64 u.num, .slice A u.body.length c] 27)).heap.size (w.alloc (.cells #[.int .i64 u.kind, .int .i64 u.num, .slice A u.body.length c] 27)) w2) (hl : LentAt w2 (.slice (some ⟨g, 0, none⟩) u.body.length cap) u.body) (hwq : w.heap.size < q) (hqg : q ≠ g) : Ready w (((w2.setCell ⟨q, 0, none⟩ (.int .i64 u.kind)).setCell ⟨q, 1, none⟩ (.int .i64 u.num)).setCell ⟨q, 2, none⟩ (.slice (some ⟨g, 0, none⟩) u.body.length cap)) q g cap u A c := by
  have hbn := below_new w (.cells #[.int .i64 u.kind, .int .i64 u.num, .slice A u.body.length c] 27)
  have hg := grown_at (grown_at (grown_at (World.grownBy.refl w2 (some q)) 0 (.int .i64 u.kind)) 1 (.int .i64 u.num)) 2 (.slice (some ⟨g, 0, none⟩) u.body.length cap)
  have hS := unit_set hB (.int .i64 u.kind) (.int .i64 u.num) (.slice (some ⟨g, 0, none⟩) u.body.length cap)
  obtain ⟨k0, k1, k2⟩ := unitBox hq
  have hl0 : w.heap.size < w2.heap.size := Nat.lt_of_lt_of_le (by rw [World.size_alloc]; omega) hq.size
  have hk := fun i => World.cell?_of_block (a := ⟨w.heap.size, i, none⟩) (hg.block w.heap.size hl0 (by simp only [ne_eq, Option.some.injEq]; omega))
  refine ⟨⟨hS.cell 0, hS.cell 1, hS.cell 2, (hk 0).trans k0, (hk 1).trans k1, (hk 2).trans k2⟩, ?_, ?_⟩
  · obtain ⟨g', cap', cs, e, h1, h2, h3, h4, h5⟩ := hl
    obtain ⟨rfl, rfl⟩ : g = g' ∧ cap = cap' := by simpa using e
    exact ⟨g, cap, cs, rfl, h1, h2, (hg.block g (Array.getElem?_eq_some_iff.1 h3).1 (by simp only [ne_eq, Option.some.injEq]; omega)).trans h3, h4, h5⟩
  · exact ((hbn.trans (hq.mono hbn.size)).setCell (by simp only; omega) _).setCell (by simp only; omega) _ |>.setCell (by simp only; omega) _
set_option maxRecDepth 100000 in
set_option maxHeartbeats 32000000 in
theorem unitSeals_any (σ : Sen) (τ : SenU) (w : World) (hC : GlAt σ w) (hU : GlU τ w) (u : UnitV) (A : Option Addr) (c : Nat) (hb : BytesAt w A u.body) (hc : u.body.length ≤ c) (hm : c ≤ 140737488351232) (hA0 : A = none → c = 0) :
    Calls Tryz.prog 15 #[u.val A c] w fun e w' => e = .returned (.bool true) ∧ Below w.heap.size w w' := by
  have hbn := below_new w (.cells #[.int .i64 u.kind, .int .i64 u.num, .slice A u.body.length c] 27)
  have HA := Lib.hid (awake_any σ τ _ (hC.below hbn) (hU.below hbn))
  have HG := Lib.hid (show GlAt σ w ∧ GlU τ w ∧ BytesAt w A u.body from ⟨hC, hU, hb⟩)
  have Hbn := Lib.hid hbn
  by_cases hlen : 5000 < u.body.length
  · have hli : (5000 : Int) < (u.body.length : Int) := by omega
    unfold UnitV.val
    clear hC hU hb hbn hc hm hA0
    go_enter Tryz.func15, Tryz.ntmps15
    go_wp2_with fail
    refine HA.out.mono ?_
    rintro e w2 ⟨rfl, hb2⟩
    go_wp2_with fail
    go_ret
    exact ⟨rfl, Hbn.out.trans (hb2.mono Hbn.out.size)⟩
  · have hli : ¬ (5000 : Int) < (u.body.length : Int) := by omega
    obtain ⟨c0, c1, c2⟩ := unitBox (w := w) (u := u) (A := A) (c := c) (Below.refl _ _)
    have HLn := Lib.hid (fun w1 (h1 : Below (w.alloc (.cells #[.int .i64 u.kind, .int .i64 u.num, .slice A u.body.length c] 27)).heap.size (w.alloc (.cells #[.int .i64 u.kind, .int .i64 u.num, .slice A u.body.length c] 27)) w1) => lentBytes_new u.body A c w1 ((hb.below hbn).below h1) (by omega) hA0)
    have Hrf := Lib.hid (Below.refl (w.alloc (.cells #[.int .i64 u.kind, .int .i64 u.num, .slice A u.body.length c] 27)).heap.size (w.alloc (.cells #[.int .i64 u.kind, .int .i64 u.num, .slice A u.body.length c] 27)))
    have HL256 := Lib.hid (sealR_len (u := u))
    have Hybd := Lib.hid (sealR_bd (u := u) hb.1)
    have HSu := Lib.hid (fun w A c => useal_any w u A c)
    have HSr := Lib.hid (fun w A c => rseal_any w u A c)
    have HRt := Lib.hid (fun w A c => uright_any w u A c)
    have HRr := Lib.hid (fun w A c => rright_any w u A c)
    have HMt := Lib.hid (fun w A c => usmall_any w u A c)
    have HMr := Lib.hid (fun w A c => rsmall_any w u A c)
    obtain ⟨yy, hyy⟩ : ∃ yy, sealR u = yy := ⟨_, rfl⟩
    rw [hyy] at HL256 Hybd HSu HSr
    obtain ⟨y, ec⟩ := yy
    obtain ⟨r1, hr1⟩ : ∃ r, decide u.right = r := ⟨_, rfl⟩
    obtain ⟨r2, hr2⟩ : ∃ r, decide u.small = r := ⟨_, rfl⟩
    rw [hr1] at HRt HRr
    rw [hr2] at HMt HMr
    have Hc := Lib.hid (show u.body.length ≤ c ∧ c ≤ 140737488351232 ∧ u.body.length ≤ 5000 from ⟨hc, hm, by omega⟩)
    unfold UnitV.val at *
    clear hC hU hb hc hm hA0 hyy hr1 hr2 hlen
    go_enter Tryz.func15, Tryz.ntmps15
    go_wp2_with fail
    have Hrz := Lib.hid (below_new (w.alloc (.cells #[.int .i64 u.kind, .int .i64 u.num, .slice A u.body.length c] 27)) (.cells #[.int .i64 0, .int .i64 0, .slice none 0 0] 27))
    have Hrz2 := Lib.hid (show Below (w.alloc (.cells #[.int .i64 u.kind, .int .i64 u.num, .slice A u.body.length c] 27)).heap.size (w.alloc (.cells #[.int .i64 u.kind, .int .i64 u.num, .slice A u.body.length c] 27)) ((w.alloc (.cells #[.int .i64 u.kind, .int .i64 u.num, .slice A u.body.length c] 27)).drew.alloc (.cells #[.int .i64 0, .int .i64 0, .slice none 0 0] 27)) from Hrf.out.drew.alloc Hrf.out.drew.size _)
    go_region_held3 (fun w' => w'.cell? ⟨w.heap.size, 0, none⟩ = some (.int .i64 u.kind) ∧ w'.cell? ⟨w.heap.size, 1, none⟩ = some (.int .i64 u.num) ∧ w'.cell? ⟨w.heap.size, 2, none⟩ = some (.slice A u.body.length c)) (first | exact ⟨c0, c1, c2⟩ | exact unitBox Hrz.out | exact unitBox Hrz2.out | exact ⟨k0, k1, k2⟩ | exact HR1.out.1.2.2.2 | exact ⟨cell_below k0 (below_new _ _), cell_below k1 (below_new _ _), cell_below k2 (below_new _ _)⟩) (first
      | (go_at_call 6; (first | (with_reducible refine (HLn.out _ Hrf.out).mono ?_) | (with_reducible refine (HLn.out _ Hrf.out.drew).mono ?_)); rintro e w2 ⟨v, rfl, hL, hq, hown⟩; obtain ⟨g, cap, cs, rfl, x1, x2, x3, x4, x5⟩ := hL; have HL := Lib.hid (show LentAt w2 (.slice (some ⟨g, 0, none⟩) u.body.length cap) u.body from ⟨g, cap, cs, rfl, x1, x2, x3, x4, x5⟩); have Hcap := Lib.hid (And.intro x1 x2); have HQ2 : Hid (Below (w.alloc (.cells #[.int .i64 u.kind, .int .i64 u.num, .slice A u.body.length c] 27)).heap.size (w.alloc (.cells #[.int .i64 u.kind, .int .i64 u.num, .slice A u.body.length c] 27)) w2) := Lib.hid (by first | exact hq | exact Hrf.out.drew.trans hq); obtain ⟨k0, k1, k2⟩ := unitBox HQ2.out; have HR1 := Lib.hid (ready_new HQ2.out HL.out); obtain ⟨wc, hwc⟩ : ∃ wc, w2.alloc (.cells #[.int .i64 u.kind, .int .i64 u.num, .slice (some ⟨g, 0, none⟩) u.body.length cap] 27) = wc := ⟨_, rfl⟩; obtain ⟨q, hqe⟩ : ∃ q, w2.heap.size = q := ⟨_, rfl⟩; have HR : Hid (Ready w wc q g cap u A c) := Lib.hid (by rw [← hwc, ← hqe]; exact HR1.out); have Hwc := Lib.hid hwc; have Hqe := Lib.hid hqe; clear hwc hqe hq hown x1 x2 x3 x4 x5)
      | (go_at_call 6; (first | (with_reducible refine (HLn.out _ Hrz.out).mono ?_) | (with_reducible refine (HLn.out _ Hrz.out.drew).mono ?_) | (with_reducible refine (HLn.out _ Hrz2.out).mono ?_) | (with_reducible refine (HLn.out _ Hrz2.out.drew).mono ?_)); rintro e w2 ⟨v, rfl, hL, hq, hown⟩; obtain ⟨g, cap, cs, rfl, x1, x2, x3, x4, x5⟩ := hL; have HL := Lib.hid (show LentAt w2 (.slice (some ⟨g, 0, none⟩) u.body.length cap) u.body from ⟨g, cap, cs, rfl, x1, x2, x3, x4, x5⟩); have Hcap := Lib.hid (And.intro x1 x2); have HQZ : Hid (Below ((w.alloc (.cells #[.int .i64 u.kind, .int .i64 u.num, .slice A u.body.length c] 27)).alloc (.cells #[.int .i64 0, .int .i64 0, .slice none 0 0] 27)).heap.size ((w.alloc (.cells #[.int .i64 u.kind, .int .i64 u.num, .slice A u.body.length c] 27)).alloc (.cells #[.int .i64 0, .int .i64 0, .slice none 0 0] 27)) w2) := Lib.hid (by first | exact hq | exact ((Below.refl _ _).drew).trans hq); have HQ2 : Hid (Below (w.alloc (.cells #[.int .i64 u.kind, .int .i64 u.num, .slice A u.body.length c] 27)).heap.size (w.alloc (.cells #[.int .i64 u.kind, .int .i64 u.num, .slice A u.body.length c] 27)) w2) := Lib.hid (Hrz.out.trans (HQZ.out.mono Hrz.out.size)); obtain ⟨k0, k1, k2⟩ := unitBox HQ2.out; have hge : ((w.alloc (.cells #[.int .i64 u.kind, .int .i64 u.num, .slice A u.body.length c] 27)).alloc (.cells #[.int .i64 0, .int .i64 0, .slice none 0 0] 27)).heap.size ≤ g := hown g rfl; have hBq : BlockIs w2 (w.heap.size + 1) 27 #[.int .i64 0, .int .i64 0, .slice none 0 0] := (by have hB9 := (BlockIs.made (w.alloc (.cells #[.int .i64 u.kind, .int .i64 u.num, .slice A u.body.length c] 27)) 27 #[.int .i64 0, .int .i64 0, .slice none 0 0]).below HQZ.out (by simp only [World.size_alloc]; omega); rw [World.size_alloc] at hB9; exact hB9); have HR1 := Lib.hid (ready_set (A := A) (c := c) hBq HQ2.out HL.out (Nat.lt_succ_self _) (by simp only [World.size_alloc] at hge; omega)); obtain ⟨b0, b1, b2, f0, f1, f2⟩ := unit_cells hBq; obtain ⟨wc, hwc⟩ : ∃ wc, (((w2.setCell ⟨w.heap.size + 1, 0, none⟩ (.int .i64 u.kind)).setCell ⟨w.heap.size + 1, 1, none⟩ (.int .i64 u.num)).setCell ⟨w.heap.size + 1, 2, none⟩ (.slice (some ⟨g, 0, none⟩) u.body.length cap)) = wc := ⟨_, rfl⟩; obtain ⟨q, hqe⟩ : ∃ q, w.heap.size + 1 = q := ⟨_, rfl⟩; have HR : Hid (Ready w wc q g cap u A c) := Lib.hid (by rw [← hwc, ← hqe]; exact HR1.out); have Hwc := Lib.hid hwc; have Hqe := Lib.hid hqe; clear hwc hqe hq hown hge hBq x1 x2 x3 x4 x5)
      | fail)
    all_goals
      rw [Hwc.out, Hqe.out]
      obtain ⟨h6, hlc, hw⟩ := HR.out
      clear HR HR1 Hwc Hqe HL HQ2 k0 k1 k2 c0 c1 c2
      have H0 := Lib.hid h6
      have HLc := Lib.hid hlc
      have HW := Lib.hid hw
      have HZ := Lib.hid (lent_bytes hlc)
      have HKp := Lib.hid (fun W (hv : Below wc.heap.size wc W) => keptBytes_any u.body _ A c W (lent_on hlc hv) (HG.out.2.2.below (hw.trans (hv.mono hw.size))) (by have := Hc.out; omega))
      have HAw := Lib.hid (fun W (hv : Below wc.heap.size wc W) => awake_any σ τ W (HG.out.1.below (hw.trans (hv.mono hw.size))) (HG.out.2.1.below (hw.trans (hv.mono hw.size))))
      obtain ⟨d0, d1, d2, e0, e1, e2⟩ := h6
      clear hlc hw
      go_wp2_with fail
      first
        | refine (HSu.out wc (some ⟨g, 0, none⟩) cap HZ.out (by have := Hcap.out; omega) Hcap.out.2).mono ?_
        | refine (HSu.out wc.drew (some ⟨g, 0, none⟩) cap HZ.out (by have := Hcap.out; omega) Hcap.out.2).mono ?_
      rintro e wa ⟨v, rfl, ho, hq⟩
      have hq : Below wc.heap.size wc wa := by first | exact hq | exact (Below.refl _ _).drew.trans hq
      have ho : wa.ownsRow wc.heap.size 5 1 v y.length (u8s y) := ho
      obtain ⟨XA, ca, rfl, _, _⟩ := own_slice ho
      have HAo := Lib.hid (And.intro ho hq)
      clear ho hq d0 d1 d2 e0 e1 e2
      obtain ⟨d0, d1, d2, e0, e1, e2⟩ := H0.out.below HAo.out.2
      go_wp2_with fail
      refine (HSr.out wa A c (HG.out.2.2.below (HW.out.trans (HAo.out.2.mono HW.out.size))) Hc.out.1 (by have := Hc.out; omega)).mono ?_
      rintro e wb ⟨v, rfl, ho, hq⟩
      obtain ⟨XB, cb, rfl, _, _⟩ := own_slice ho
      have HBo := Lib.hid (And.intro ho hq)
      have Hcb := Lib.hid (HAo.out.2.trans (hq.mono HAo.out.2.size))
      clear ho hq d0 d1 d2 e0 e1 e2
      obtain ⟨d0, d1, d2, e0, e1, e2⟩ := H0.out.below Hcb.out
      go_wp2_with fail
      refine (HSu.out wb (some ⟨g, 0, none⟩) cap (HZ.out.below Hcb.out) (by have := Hcap.out; omega) Hcap.out.2).mono ?_
      rintro e wg ⟨v, rfl, ho, hq⟩
      obtain ⟨XG, cg, rfl, _, _⟩ := own_slice ho
      have HGo := Lib.hid (And.intro ho hq)
      have Hcg := Lib.hid (Hcb.out.trans (hq.mono Hcb.out.size))
      clear ho hq d0 d1 d2 e0 e1 e2
      have H7 := Lib.hid (H0.out.below Hcg.out)
      have K7 := Lib.hid H7.out
      have HQ := Lib.hid (Below.refl wg.heap.size wg)
      have HAp := Lib.hid (fun w1 h1 => apart_tri (w1 := w1) (rows_tri HAo.out.1 HAo.out.2 HBo.out.2 HGo.out.1 HGo.out.2) (by have := HL256.out; omega) Hcg.out h1)
      have hza := (own_reads HAo.out.1 Hybd.out).below (HBo.out.2.trans (HGo.out.2.mono HBo.out.2.size))
      have hzb := (own_reads HBo.out.1 Hybd.out).below HGo.out.2
      have HSB := Lib.hid (fun w1 (h1 : Below wg.heap.size wg w1) => sameBytes_any y y XA XB ca cb w1 (hza.below h1) (hzb.below h1) (by have := HL256.out; omega))
      rw [show sameB y y = true from decide_eq_true rfl] at HSB
      clear hza hzb
      obtain ⟨d0, d1, d2, e0, e1, e2⟩ := H7.out
      go_wp2_with fail
      go_region_held3 (fun w' => w'.cell? ⟨q, 0, none⟩ = some (.int .i64 u.kind) ∧ w'.cell? ⟨q, 1, none⟩ = some (.int .i64 u.num) ∧ w'.cell? ⟨q, 2, none⟩ = some (.slice (some ⟨g, 0, none⟩) u.body.length cap) ∧ w'.cell? ⟨w.heap.size, 0, none⟩ = some (.int .i64 u.kind) ∧ w'.cell? ⟨w.heap.size, 1, none⟩ = some (.int .i64 u.num) ∧ w'.cell? ⟨w.heap.size, 2, none⟩ = some (.slice A u.body.length c)) (first | exact K7.out | exact K7.out.below (below_new _ _)) (first
        | (go_at_call 27; (with_reducible refine (HRt.out _ _ _).mono ?_); rintro e w9 ⟨rfl, hq⟩; have HQ9 : Hid (Below wg.heap.size wg w9) := Lib.hid (by first | exact HQ.out.trans (hq.mono HQ.out.size) | exact HQ.out.drew.trans (hq.mono HQ.out.drew.size)); clear K7; have K7 := Lib.hid (H7.out.below HQ9.out); clear hq HQ; have HQ := HQ9; clear HQ9)
        | (go_at_call 28; (with_reducible refine (HRr.out _ _ _).mono ?_); rintro e w9 ⟨rfl, hq⟩; have HQ9 : Hid (Below wg.heap.size wg w9) := Lib.hid (by first | exact HQ.out.trans (hq.mono HQ.out.size) | exact HQ.out.drew.trans (hq.mono HQ.out.drew.size)); clear K7; have K7 := Lib.hid (H7.out.below HQ9.out); clear hq HQ; have HQ := HQ9; clear HQ9)
        | (go_at_call 29; (with_reducible refine (HMt.out _ _ _).mono ?_); rintro e w9 ⟨rfl, hq⟩; have HQ9 : Hid (Below wg.heap.size wg w9) := Lib.hid (by first | exact HQ.out.trans (hq.mono HQ.out.size) | exact HQ.out.drew.trans (hq.mono HQ.out.drew.size)); clear K7; have K7 := Lib.hid (H7.out.below HQ9.out); clear hq HQ; have HQ := HQ9; clear HQ9)
        | (go_at_call 30; (with_reducible refine (HMr.out _ _ _).mono ?_); rintro e w9 ⟨rfl, hq⟩; have HQ9 : Hid (Below wg.heap.size wg w9) := Lib.hid (by first | exact HQ.out.trans (hq.mono HQ.out.size) | exact HQ.out.drew.trans (hq.mono HQ.out.drew.size)); clear K7; have K7 := Lib.hid (H7.out.below HQ9.out); clear hq HQ; have HQ := HQ9; clear HQ9)
        | (go_at_call 12; (with_reducible refine (HSB.out _ ?_).mono ?_); (first | exact HQ.out | exact HQ.out.drew); rintro e w9 ⟨rfl, hq⟩; have HQ9 : Hid (Below wg.heap.size wg w9) := Lib.hid (by obtain ⟨nq, e⟩ := hq; subst e; first | exact drewN_below HQ.out nq | exact drewN_below HQ.out.drew nq); clear K7; have K7 := Lib.hid (H7.out.below HQ9.out); clear hq HQ; have HQ := HQ9; clear HQ9)
        | (go_at_call 13; (first | (with_reducible refine (HAp.out w9 HQ.out).mono ?_) | (with_reducible refine (HAp.out w9.drew HQ.out.drew).mono ?_)); rintro e w10 ⟨rfl, hv⟩; have HV := Lib.hid hv; clear K7; have K7 := Lib.hid (H0.out.below HV.out); clear hv)
        | (go_at_call 14; (with_reducible refine (HKp.out _ ?_).mono ?_); (first | exact HV.out | exact HV.out.drew); rintro e w11 ⟨rfl, hq⟩; have HV9 : Hid (Below wc.heap.size wc w11) := Lib.hid (by obtain ⟨nq, e⟩ := hq; subst e; first | exact drewN_below HV.out nq | exact drewN_below HV.out.drew nq); clear K7; have K7 := Lib.hid (H0.out.below HV9.out); clear hq HV; have HV := HV9; clear HV9)
        | (go_at_call 5; (with_reducible refine (HAw.out _ ?_).mono ?_); (first | exact HV.out | exact HV.out.drew); rintro e w12 ⟨rfl, hq⟩; have HV9 : Hid (Below wc.heap.size wc w12) := Lib.hid (by first | exact HV.out.trans (hq.mono HV.out.size) | exact HV.out.drew.trans (hq.mono HV.out.drew.size)); clear K7; have K7 := Lib.hid (H0.out.below HV9.out); clear hq HV; have HV := HV9; clear HV9)
        | fail)
      all_goals
        go_wp2_with fail
        go_ret
        first | exact ⟨rfl, HW.out.trans (HV.out.mono HW.out.size)⟩ | exact ⟨rfl, HW.out.trans (HV.out.drew.mono HW.out.size)⟩
end Go.Proofs.YtbkecaenjjlmoaaGreatDoor
