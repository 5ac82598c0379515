/- The document's own reader (limpetref02), in memory; fields. -/
import Derived.Test.YtbkecaenjjlmoaaGreatDoorRefField
import Derived.Test.YtbkecaenjjlmoaaGreatDoorReadErr
import Derived.Test.YtbkecaenjjlmoaaGreatDoorCodeMath
import Derived.IntWalk
namespace Go.Proofs.YtbkecaenjjlmoaaGreatDoor
open Go.RowKit
def RrSt : RSt → Nat → Int → Int → Nat → Prop
  | .ok j, k, e, b, n => k = j ∧ e = 0 ∧ b = 0 ∧ j ≤ n
  | .bad p l, k, e, b, n => e = errCode l ∧ b = p ∧ k ≤ n
/-- The reader's cells. -/
structure RrIs (lo : Nat) (w : World) (g : Nat) (bs : List Int) (s : RSt) (x : Option Addr) (cap k : Nat) (e b : Int) : Prop where
  blk : BlockIs w g 49 #[.slice x bs.length cap, .int .i64 (k : Int), .int .i64 e, .int .i64 b]
  bytes : BytesAt w x bs
  fit : bs.length ≤ cap ∧ cap ≤ 9223372036854775807
  off : bs ≠ [] → ∀ a, x = some a → a.block < lo
  low : lo ≤ g
  nil : x = none → cap = 0
  st : RrSt s k e b bs.length
def RrAt (lo : Nat) (w : World) (g : Nat) (bs : List Int) (s : RSt) : Prop := ∃ x cap k e b, RrIs lo w g bs s x cap k e b
section
variable {w w' : World} {g cap k : Nat} {bs : List Int} {s : RSt} {x : Option Addr} {e b : Int}
theorem RrIs.cells {lo : Nat} (h : RrIs lo w g bs s x cap k e b) : w.cell? ⟨g, 0, none⟩ = some (.slice x bs.length cap) ∧ w.cell? ⟨g, 1, none⟩ = some (.int .i64 (k : Int)) ∧ w.cell? ⟨g, 2, none⟩ = some (.int .i64 e) ∧ w.cell? ⟨g, 3, none⟩ = some (.int .i64 b) := ⟨h.blk.cell 0, h.blk.cell 1, h.blk.cell 2, h.blk.cell 3⟩
theorem RrIs.free {lo : Nat} (h : RrIs lo w g bs s x cap k e b) (i : Nat) : w.frozen? ⟨g, i, none⟩ = false := h.blk.free i
theorem RrIs.below {lo : Nat} (h : RrIs lo w g bs s x cap k e b) (hb : Below w.heap.size w w') : RrIs lo w' g bs s x cap k e b := ⟨h.blk.below hb h.blk.lt, h.bytes.below hb, h.fit, h.off, h.low, h.nil, h.st⟩
theorem RrIs.kept {lo : Nat} (h : RrIs lo w g bs s x cap k e b) {row : Option Nat} (hg : w.grownBy w' row) (hr : ∀ b, row = some b → lo ≤ b ∧ b ≠ g) : RrIs lo w' g bs s x cap k e b :=
  ⟨h.blk.kept hg (fun e => (hr g e.symm).2 rfl), ⟨h.bytes.1, fun hne => by
    obtain ⟨b0, off, rfl, hc⟩ := h.bytes.2 hne
    exact ⟨b0, off, rfl, fun i hi => hg.cell (hc i hi) (fun e => by have := hr _ e.symm; have := h.off hne _ rfl; simp only at *; omega)⟩⟩, h.fit, h.off, h.low, h.nil, h.st⟩
theorem RrIs.turn {lo : Nat} (h : RrIs lo w g bs s x cap k e b) {s' : RSt} {k' : Nat} {e' b' : Int} (hg : w.grownBy w' (some g)) (hb : BlockIs w' g 49 #[.slice x bs.length cap, .int .i64 (k' : Int), .int .i64 e', .int .i64 b']) (hs : RrSt s' k' e' b' bs.length) : RrIs lo w' g bs s' x cap k' e' b' :=
  ⟨hb, ⟨h.bytes.1, fun hne => by
    obtain ⟨b0, off, rfl, hc⟩ := h.bytes.2 hne
    exact ⟨b0, off, rfl, fun i hi => hg.cell (hc i hi) (fun e => Nat.ne_of_lt (Nat.lt_of_lt_of_le (h.off hne _ rfl) h.low) (Option.some.inj e))⟩⟩, h.fit, h.off, h.low, h.nil, hs⟩
end
theorem RrAt.below {lo : Nat} {w w' : World} {g : Nat} {bs : List Int} {s : RSt} (h : RrAt lo w g bs s) (hb : Below w.heap.size w w') : RrAt lo w' g bs s := by
  obtain ⟨x, cap, k, e, b, h⟩ := h; exact ⟨x, cap, k, e, b, h.below hb⟩
theorem RrAt.kept {lo : Nat} {w w' : World} {g : Nat} {bs : List Int} {s : RSt} {row : Option Nat} (h : RrAt lo w g bs s) (hg : w.grownBy w' row) (hr : ∀ b, row = some b → lo ≤ b ∧ b ≠ g) : RrAt lo w' g bs s := by
  obtain ⟨x, cap, k, e, b, h⟩ := h; exact ⟨x, cap, k, e, b, h.kept hg hr⟩
theorem RrAt.low {lo : Nat} {w : World} {g : Nat} {bs : List Int} {s : RSt} (h : RrAt lo w g bs s) : lo ≤ g := by
  obtain ⟨x, cap, k, e, b, h⟩ := h; exact h.low
theorem RrAt.lt {lo : Nat} {w : World} {g : Nat} {bs : List Int} {s : RSt} (h : RrAt lo w g bs s) : g < w.heap.size := by
  obtain ⟨x, cap, k, e, b, h⟩ := h; exact h.blk.lt
theorem RrAt.le {lo : Nat} {w : World} {g j : Nat} {bs : List Int} (h : RrAt lo w g bs (.ok j)) : j ≤ bs.length := by
  obtain ⟨x, cap, k, e, b, h⟩ := h; exact h.st.2.2.2
structure RGot (lo : Nat) (w : World) (g : Nat) (bs : List Int) (s : RSt) (w' : World) : Prop where
  rd : RrAt lo w' g bs s
  fr : w.grownBy w' (some g)
theorem RGot.same {lo : Nat} {w : World} {g : Nat} {bs : List Int} {s : RSt} (h : RrAt lo w g bs s) : RGot lo w g bs s w := ⟨h, World.grownBy.refl _ _⟩
theorem RGot.trans {lo : Nat} {w w1 w2 : World} {g : Nat} {bs : List Int} {s1 s2 : RSt} (h : RGot lo w g bs s1 w1) (k : RGot lo w1 g bs s2 w2) : RGot lo w g bs s2 w2 := ⟨k.rd, h.fr.trans k.fr⟩
theorem RGot.pre {lo : Nat} {w w1 w2 : World} {g : Nat} {bs : List Int} {s : RSt} (hb : Below w.heap.size w w1) (h : RGot lo w1 g bs s w2) : RGot lo w g bs s w2 := ⟨h.rd, (grown_below hb _).trans h.fr⟩
theorem RrAt.drewN {lo : Nat} {w : World} {g : Nat} {bs : List Int} {s : RSt} (h : RrAt lo w g bs s) (n : Nat) : RrAt lo (w.drewN n) g bs s := h.below (drewN_below (Below.refl _ _) n)
theorem rtop_q (n : Int) (w : World) : Calls Tryz.prog 40 #[.int .i64 n] w fun e w' => e = .returned (.int .i64 (top n)) ∧ w' = w := (rtop_any n w).mono fun _ _ h => ⟨h.1, h.2.symm⟩
theorem RGot.far {lo : Nat} {w w1 w2 : World} {g : Nat} {bs : List Int} {s : RSt} {row : Option Nat} (h : RGot lo w g bs s w1) (hg : w1.grownBy w2 row) (hr : ∀ b, row = some b → w.heap.size ≤ b) (hlt : g < w.heap.size) : RGot lo w g bs s w2 :=
  ⟨h.rd.kept hg (fun b e => by have := hr b e; have := h.rd.low; omega), h.fr.andThen hg (fun b e => .inl (hr b e))⟩
theorem RGot.on {lo : Nat} {w w1 w2 : World} {g : Nat} {bs : List Int} {s : RSt} (h : RGot lo w g bs s w1) (hb : Below w1.heap.size w1 w2) : RGot lo w g bs s w2 := ⟨h.rd.below hb, h.fr.trans (grown_below hb _)⟩
set_option maxRecDepth 100000 in
theorem rrfail_any {lo : Nat} (w : World) (g : Nat) (bs : List Int) (j p : Nat) (l : Bool) (h : RrAt lo w g bs (.ok j)) :
    Calls Tryz.prog 41 #[.pointer (some ⟨g, 0, none⟩), .int .i64 (p : Int), .int .i64 (errCode l)] w fun e w' => e = .returned (.tuple #[]) ∧ RGot lo w g bs (.bad p l) w' := by
  obtain ⟨x, cap, k, e, b, h⟩ := h
  obtain ⟨rfl, rfl, rfl, hj⟩ := h.st
  obtain ⟨c0, c1, c2, c3⟩ := h.cells
  have f2 := h.free 2
  have f3 := h.free 3
  have hg := grown_at (grown_at (World.grownBy.refl w (some g)) 2 (.int .i64 (errCode l))) 3 (.int .i64 (p : Int))
  have hb := (h.blk.set1 2 (.int .i64 (errCode l))).set1 3 (.int .i64 (p : Int))
  have HS := Lib.hid (show RGot lo w g bs (.bad p l) _ from ⟨⟨x, cap, k, errCode l, (p : Int), h.turn hg hb ⟨rfl, rfl, hj⟩⟩, hg⟩)
  clear h hg hb
  go_enter Tryz.func41, Tryz.ntmps41
  go_wp2_with fail
  go_end0
  exact ⟨rfl, HS.out⟩
theorem unle_drop (zs : List Int) (hz : ∀ z ∈ zs, 0 ≤ z ∧ z < 256) (j : Nat) : unle (zs.drop j) ≤ unle zs := by
  induction zs generalizing j with
  | nil => simp
  | cons z zs ih =>
    cases j with
    | zero => exact Int.le_refl _
    | succ j =>
      have h1 := ih (fun y hy => hz y (List.mem_cons_of_mem _ hy)) j
      have h2 := hz z List.mem_cons_self
      have h3 := unle_bd zs (fun y hy => hz y (List.mem_cons_of_mem _ hy))
      simp only [List.drop_succ_cons, unle]; omega
theorem unle_step (zs : List Int) (j : Nat) (hj : j < zs.length) : unle (zs.drop j) = zs.getD j 0 + 256 * unle (zs.drop (j + 1)) := by
  rw [List.drop_eq_getElem_cons hj, List.getD_eq_getElem?_getD, List.getElem?_eq_getElem hj]; rfl
theorem here_getD (bs : List Int) (k w j : Nat) (hj : j < w) : ((bs.drop k).take w).getD j 0 = bs.getD (k + j) 0 := by
  rw [List.getD_eq_getElem?_getD, List.getElem?_take_of_lt hj, List.getElem?_drop, ← List.getD_eq_getElem?_getD]
set_option maxRecDepth 100000 in
theorem rrField_bad {lo : Nat} (w : World) (g : Nat) (bs : List Int) (p : Nat) (l : Bool) (wd : Int) (h : RrAt lo w g bs (.bad p l)) :
    Calls Tryz.prog 22 #[.pointer (some ⟨g, 0, none⟩), .int .i64 wd] w fun e w' => e = .returned (.int .i64 0) ∧ w = w' := by
  obtain ⟨x, cap, k, e, b, h⟩ := h
  obtain ⟨rfl, rfl, hk⟩ := h.st
  obtain ⟨c0, c1, c2, c3⟩ := h.cells
  have hne : (errCode l != 0) = true := by cases l <;> rfl
  clear h
  go_enter Tryz.func22, Tryz.ntmps22
  go_wp2_with fail
  go_ret
  exact ⟨rfl, rfl⟩
set_option maxRecDepth 100000 in
set_option maxHeartbeats 2000000 in
theorem rrField_any {lo : Nat} (w : World) (g : Nat) (bs : List Int) (s : RSt) (wd : Int) (h : RrAt lo w g bs s) (hl : bs.length ≤ 140737488351232) (hw : -9223372036854775808 ≤ wd) :
    Calls Tryz.prog 22 #[.pointer (some ⟨g, 0, none⟩), .int .i64 wd] w fun e w' => e = .returned (.int .i64 (fieldR bs wd s).1) ∧ RGot lo w g bs (fieldR bs wd s).2 w' := by
  cases s with
  | bad p l => exact (rrField_bad w g bs p l wd h).mono fun e w' ⟨he, hw⟩ => ⟨he, by subst hw; exact RGot.same h⟩
  | ok j =>
    have HF := Lib.hid (fun n => rrfail_any (w.drewN n) g bs j j false (h.drewN n))
    have Hh := Lib.hid h
    obtain ⟨x, cap, k, e, b, h⟩ := h
    obtain ⟨rfl, rfl, rfl, hj⟩ := h.st
    obtain ⟨c0, c1, c2, c3⟩ := h.cells
    have HI := Lib.hid h
    have HT := Lib.hid (rtop_any wd w)
    have hcap := h.fit
    clear h
    by_cases ht : top wd < 0
    · have HR := Lib.hid (show fieldR bs wd (.ok k) = (0, .bad k false) by simp only [fieldR]; rw [if_pos (.inl ht)])
      unfold errCode at HF
      go_enter Tryz.func22, Tryz.ntmps22
      go_wp2_with fail
      go_quiet ((go_at_call 40; exact Calls.quiet_of_same (rtop_q _ _)))
      go_wp2_with fail
      refine (HF.out _).mono ?_
      rintro e w' ⟨rfl, hG⟩
      go_wp2_with fail
      go_ret
      rw [HR.out]; exact ⟨rfl, RGot.pre (drewN_below (Below.refl _ _) _) hG⟩
    · have htw := top_width (n := wd) (by omega)
      have hnt : decide (top wd < 0) = false := decide_eq_false ht
      by_cases hf : wd > (bs.length : Int) - (k : Int)
      · have HR := Lib.hid (show fieldR bs wd (.ok k) = (0, .bad k false) by simp only [fieldR]; rw [if_pos (.inr hf)])
        unfold errCode at HF
        go_enter Tryz.func22, Tryz.ntmps22
        go_wp2_with fail
        go_quiet ((go_at_call 40; exact Calls.quiet_of_same (rtop_q _ _)))
        go_wp2_with fail
        refine (HF.out _).mono ?_
        rintro e w' ⟨rfl, hG⟩
        go_wp2_with fail
        go_ret
        rw [HR.out]; exact ⟨rfl, RGot.pre (drewN_below (Below.refl _ _) _) hG⟩
      · obtain ⟨wn, rfl⟩ := Int.eq_ofNat_of_zero_le (show 0 ≤ wd by omega)
        have hwn : k + wn ≤ bs.length := by omega
        have hw6 : 1 ≤ wn ∧ wn ≤ 6 := by omega
        obtain ⟨zs, hzs⟩ : ∃ zs, (bs.drop k).take wn = zs := ⟨_, rfl⟩
        have hzl : zs.length = wn := by rw [← hzs, List.length_take, List.length_drop]; omega
        have hzb : ∀ z ∈ zs, 0 ≤ z ∧ z < 256 := fun z hz => HI.out.bytes.1 z (by rw [← hzs] at hz; exact List.mem_of_mem_drop (List.mem_of_mem_take hz))
        have hgd : ∀ i, i < wn → zs.getD i 0 = bs.getD (k + i) 0 := fun i hi => by rw [← hzs]; exact here_getD bs k wn i hi
        obtain ⟨b0, off, rfl⟩ := HI.out.bytes.some_ (by intro e; simp [e] at hwn; omega)
        have hub := unle_bd zs hzb
        have hts := top_small (wn : Int)
        have HR1 := Lib.hid (fun (hgt : unle zs > top (wn : Int)) => show fieldR bs (wn : Int) (.ok k) = (0, .bad k false) by
          simp only [fieldR]; rw [if_neg (by omega), show ((wn : Int)).toNat = wn by omega, hzs, if_pos hgt])
        have HR2 := Lib.hid (fun (hle : ¬ unle zs > top (wn : Int)) => show fieldR bs (wn : Int) (.ok k) = (unle zs, .ok (k + wn)) by
          simp only [fieldR]; rw [if_neg (by omega), show ((wn : Int)).toNat = wn by omega, hzs, if_neg hle])
        have HZ := Lib.hid (And.intro hzl (And.intro hzb hgd))
        have Hf := Lib.hid hf
        unfold errCode at HF
        have hf2 : decide ((bs.length : Int) - (k : Int) < (wn : Int)) = false := decide_eq_false (by omega)
        have hl2 : bs.length ≤ 140737488351232 := hl
        clear hzs hzl hzb hgd hub hf
        go_enter Tryz.func22, Tryz.ntmps22
        go_wp2_with fail
        go_quiet ((go_at_call 40; exact Calls.quiet_of_same (rtop_q _ _)))
        go_wp2_with fail
        go_loopg [5, 6] (wn + 1) (fun gk n i wx => ∃ (j : Nat) (y : Int), gk = j + 1 ∧ j ≤ wn ∧ (∃ z : Int, i = .int .i64 z ∧ z = (j : Int) - 1) ∧ n = .int .i64 y ∧ 0 ≤ y ∧ y ≤ 300000000000000 ∧ Hid (y = unle (zs.drop j)) ∧ ∃ nq, wx = w.drewN nq)
        case atStart => exact ⟨wn, 0, rfl, Nat.le_refl _, ⟨_, rfl, rfl⟩, rfl, by omega, by omega, Lib.hid (by rw [List.drop_eq_nil_of_le (by rw [HZ.out.1]; omega)]; rfl), _, rfl⟩
        case round =>
          obtain ⟨j, y, hgj, hj, ⟨z, rfl, hz⟩, rfl, hy0, hy1, hy, nq, rfl⟩ := hrel
          have Hgj := Lib.hid hgj; clear hgj
          have Hz := Lib.hid hz
          have HT := Lib.hid (rtop_any (wn : Int) (w.drewN nq))
          by_cases hj0 : j = 0
          · have hz0 : z < 0 := by omega
            have hy' := hy.out
            rw [hj0, List.drop_zero] at hy'
            clear hz hj0
            by_cases hgt : y > top (wn : Int)
            · have Hgt := Lib.hid (show unle zs > top (wn : Int) by rw [← hy']; exact hgt)
              clear hy'
              go_wp2_with fail
              refine HT.out.mono ?_
              rintro e w' ⟨rfl, rfl⟩
              go_wp2_with fail
              refine (HF.out _).mono ?_
              rintro e w' ⟨rfl, hG⟩
              go_wp2_with fail
              go_ret
              rw [HR1.out Hgt.out]; exact ⟨rfl, RGot.pre (drewN_below (Below.refl _ _) _) hG⟩
            · have Hy := Lib.hid hy'
              have hle : decide (top (wn : Int) < y) = false := decide_eq_false hgt
              clear hy'
              have hb := HI.out.blk.below (drewN_below (Below.refl _ _) nq) HI.out.blk.lt
              have hg := grown_at (grown_below (drewN_below (Below.refl w.heap.size w) nq) (some g)) 1 (.int .i64 ((k : Int) + (wn : Int)))
              have HS := Lib.hid (show RGot lo w g bs (.ok (k + wn)) _ from ⟨⟨_, cap, k + wn, 0, 0, HI.out.turn hg (by
                have := hb.set1 1 (.int .i64 ((k : Int) + (wn : Int)))
                rw [show ((k + wn : Nat) : Int) = (k : Int) + (wn : Int) by omega]; exact this) ⟨rfl, rfl, rfl, hwn⟩⟩, hg⟩)
              have f1 := HI.out.free 1
              clear hb hg
              go_wp2_with fail
              refine HT.out.mono ?_
              rintro e w' ⟨rfl, rfl⟩
              go_wp2_with fail
              go_ret
              rw [HR2.out (by rw [← Hy.out]; exact hgt), Hy.out]; exact ⟨rfl, HS.out⟩
          · obtain ⟨i, rfl⟩ : ∃ i, j = i + 1 := ⟨j - 1, by omega⟩
            obtain rfl : z = (i : Int) := by omega
            clear hz Hz hj0
            by_cases hbig : y > 1099511627776
            · have Hgt := Lib.hid (show unle zs > top (wn : Int) by
                have h1 := unle_drop zs HZ.out.2.1 (i + 1)
                rw [← hy.out] at h1; omega)
              have hgt : y > top (wn : Int) := by omega
              go_wp2_with fail
              refine HT.out.mono ?_
              rintro e w' ⟨rfl, rfl⟩
              go_wp2_with fail
              refine (HF.out _).mono ?_
              rintro e w' ⟨rfl, hG⟩
              go_wp2_with fail
              go_ret
              rw [HR1.out Hgt.out]; exact ⟨rfl, RGot.pre (drewN_below (Below.refl _ _) _) hG⟩
            · have hst := unle_step zs i (by rw [HZ.out.1]; omega)
              rw [← hy.out, HZ.out.2.2 i (by omega)] at hst
              have d1 := HI.out.bytes.one (k + i) (by omega)
              have hzb := HI.out.bytes.1 (bs.getD (k + i) 0) (by rw [List.getD_eq_getElem?_getD, List.getElem?_eq_getElem (show k + i < bs.length by omega)]; exact List.getElem_mem _)
              generalize bs.getD (k + i) 0 = zz at *
              have Hst := Lib.hid hst
              have q1 : IntKind.i64.wrap ((k : Int) + (i : Int)) = (k : Int) + (i : Int) := IntWalk.i64_in _ (by omega)
              have q2 : (0 : Int) ≤ (k : Int) + (i : Int) := by omega
              have q3 : ((k : Int) + (i : Int)).toNat = k + i := by omega
              have q4 : IntKind.i64.wrap (256 * y) = 256 * y := IntWalk.i64_in _ (by omega)
              have q5 : IntKind.i64.wrap (256 * y + zz) = 256 * y + zz := IntWalk.i64_in _ (by omega)
              have q6 : k + i < bs.length := by omega
              clear hst
              go_wp2_with fail
              go_quiet (fail)
              clear q1 q2 q3 q4 q5
              go_wp2_with fail
              go_roundg (i + 1)
              case measure => rw [Hgj.out]; omega
              case rel => exact ⟨i, 256 * y + zz, rfl, by omega, ⟨_, rfl, rfl⟩, rfl, by omega, by omega, Lib.hid (by rw [Hst.out]; omega), _, rfl⟩
end Go.Proofs.YtbkecaenjjlmoaaGreatDoor
