/- Opening a block. -/
/- As. -/
/- What an opened unit's body is made of. -/
import Derived.Test.YtpdfmpegcejmkaaGreatDoorUnitUnit
import Derived.Deep.RegionHeld3
import Derived.Test.YtpdfmpegcejmkaaGreatDoorUnitModel
namespace Go.Proofs.YtpdfmpegcejmkaaGreatDoor
open Go.RowKit
theorem RdAt.lt {σ : Sen} {w : World} {g : Nat} {bs : List Int} {s : RSt} (h : RdAt σ w g bs s) : g < w.heap.size := by
  obtain ⟨x, cap, k, ev, h⟩ := h
  exact h.blk.lt
theorem own_set3 {w : World} {B n q : Nat} {v x y z : Value} {xs : List Value} (h : w.ownsRow B 5 1 v n xs) (hq : q < B) : (((w.setCell ⟨q, 0, none⟩ x).setCell ⟨q, 1, none⟩ y).setCell ⟨q, 2, none⟩ z).ownsRow B 5 1 v n xs :=
  own_keep h (fun bb e => by
    have hlo := (h.lt bb e).1
    have hne : bb ≠ q := by omega
    exact (Below.heap_setCell _ ⟨q, 2, none⟩ _ bb hne).trans ((Below.heap_setCell _ ⟨q, 1, none⟩ _ bb hne).trans (Below.heap_setCell _ ⟨q, 0, none⟩ _ bb hne)))
theorem below_set3 {w w' : World} {q : Nat} (h : Below w.heap.size w w') (hq : w.heap.size ≤ q) (x y z : Value) : Below w.heap.size w (((w'.setCell ⟨q, 0, none⟩ x).setCell ⟨q, 1, none⟩ y).setCell ⟨q, 2, none⟩ z) :=
  below_grown h (grown_at (grown_at (grown_at (World.grownBy.refl w' (some q)) 0 x) 1 y) 2 z) h.size hq
/-- What opening leaves: the unit's body is its own. -/
def OutU (w w' : World) (u : UnitV) (X : Option Addr) (k : Nat) : Prop := w'.ownsRow w.heap.size 5 1 (.slice X u.body.length k) u.body.length (u8s u.body)
set_option maxRecDepth 100000 in
set_option maxHeartbeats 8000000 in
theorem open_any (σ : Sen) (τ : SenU) (w : World) (hC : GlAt σ w) (hU : GlU τ w) (A : Option Addr) (b : List Int) (c : Nat) (hb : BytesAt w A b) (hbc : b.length ≤ c) (hm : c ≤ 9223372036854775807) :
    Calls Tryz.prog 143 #[.slice A b.length c] w fun e w' => ∃ v X k, e = .returned (.tuple #[(openB b).1.val X k, v]) ∧ FlawOf τ (openB b).2 v ∧ OutU w w' (openB b).1 X k ∧ Below w.heap.size w w' := by
  have hbn := below_new w (.cells #[.int .i64 0, .int .i64 0, .slice none 0 0] 34)
  have hQ := BlockIs.made w 34 #[.int .i64 0, .int .i64 0, .slice none 0 0]
  have HS := Lib.hid (shapeless_any τ _ (hU.below hbn) A b c (hb.below hbn))
  have HB1 := Lib.hid (hb.below hbn)
  obtain ⟨w1, hw1⟩ : ∃ w1, w.alloc (.cells #[.int .i64 0, .int .i64 0, .slice none 0 0] 34) = w1 := ⟨_, rfl⟩
  rw [hw1] at hbn hQ HS HB1
  have H1 := Lib.hid (And.intro hbn hQ)
  have Hw1 := Lib.hid hw1
  by_cases hbad : badB b
  · rw [if_pos hbad] at HS
    rw [openB_shape hbad]
    clear hbn hQ hC hU hb hw1 hbad
    go_enter Tryz.func143, Tryz.ntmps143
    go_wp2_with fail
    rw [Hw1.out]
    refine HS.out.mono ?_
    rintro e w' ⟨v, rfl, hF, rfl⟩
    obtain ⟨pos, a, rfl, ha⟩ := hF.four
    have Ha := Lib.hid ha
    obtain ⟨y0, y1, y2, y3, y4, y5⟩ := unit_cells H1.out.2
    clear ha hF
    go_wp2_with fail
    clear y0 y1 y2 y3 y4 y5
    have UZ := Lib.hid (unit_set H1.out.2 (.int .i64 0) (.int .i64 0) (.slice none 0 0))
    have BZ := Lib.hid (below_set3 H1.out.1 (Nat.le_refl _) (.int .i64 0) (.int .i64 0) (.slice none 0 0))
    generalize ((w1.setCell ⟨w.heap.size, 0, none⟩ (.int .i64 0)).setCell ⟨w.heap.size, 1, none⟩ (.int .i64 0)).setCell ⟨w.heap.size, 2, none⟩ (.slice none 0 0) = wz at *
    obtain ⟨z0, z1, z2, _, _, _⟩ := unit_cells UZ.out
    exact bodyPost_ret (v := .tuple #[.agg #[.int .i64 0, .int .i64 0, .slice none 0 0], flawV pos a]) (by simp [results, Tryz.results143, go_sem, z0, z1, z2]) rfl ⟨_, none, 0, rfl, Ha.out, World.ownsRow_nil _ _ _ _, BZ.out⟩
  · rw [if_neg hbad] at HS
    have hwb : ¬ (b.length ≠ 256 ∨ b.getD 0 0 < 1 ∨ 8 < b.getD 0 0) := hbad
    have hl : b.length = 256 := by omega
    obtain ⟨b0, off, rfl⟩ := hb.some_ (by intro e; rw [e] at hl; exact absurd hl (by decide))
    rw [hl] at HS hbc ⊢
    have HN := Lib.hid (newOpener_any σ w1 b0 off b c HB1.out hl hbc (by omega))
    have HC := Lib.hid hC
    have HU := Lib.hid hU
    have HB := Lib.hid hb
    have Hl := Lib.hid hl
    have Hbc := Lib.hid (show 256 ≤ c ∧ c ≤ 9223372036854775807 from ⟨hbc, by omega⟩)
    have Hbad := Lib.hid hbad
    have HOs := Lib.hid (fun (h : ¬ fitsB b) => openB_sum hwb h)
    clear hbn hQ hC hU hb hw1 hbad hwb hl hbc
    go_enter Tryz.func143, Tryz.ntmps143
    go_wp2_with fail
    rw [Hw1.out]
    refine HS.out.mono ?_
    rintro e w' ⟨v, rfl, hF, rfl⟩
    obtain rfl := hF.zero
    clear hF
    go_wp2_with fail
    refine HN.out.mono ?_
    rintro e w2 ⟨g, rfl, hg, hrd, hb2⟩
    have Q2 := Lib.hid (H1.out.2.below hb2 H1.out.2.lt)
    have hgl2 := hrd.lt
    have hb3 := below_new w2 (.cells #[.pointer (some ⟨g, 0, none⟩), .slice (some ⟨b0, off, none⟩) 256 c] 273)
    have P3 := Lib.hid (BlockIs.made w2 273 #[.pointer (some ⟨g, 0, none⟩), .slice (some ⟨b0, off, none⟩) 256 c])
    have Q3 := Lib.hid (Q2.out.below hb3 Q2.out.lt)
    have b03 := (H1.out.1.trans (hb2.mono H1.out.1.size)).trans (hb3.mono (Nat.le_trans H1.out.1.size hb2.size))
    have hgq : w.heap.size < g := Nat.lt_of_lt_of_le H1.out.2.lt hg
    have hsz2 : w2.heap.size ≠ g := by omega
    obtain ⟨w3, hw3⟩ : ∃ w3, w2.alloc (.cells #[.pointer (some ⟨g, 0, none⟩), .slice (some ⟨b0, off, none⟩) 256 c] 273) = w3 := ⟨_, rfl⟩
    rw [hw3] at hb3 P3 Q3 b03
    have hE : OpE σ τ w w3 g b0 off c b := ⟨⟨HC.out, b03, by omega⟩, HU.out, HB.out, Hl.out, Hbc.out⟩
    have E3 := Lib.hid hE
    have hrd3 := hrd.below hb3
    have HUs := Lib.hid (unsealed_any hE hrd3 hrd3.lt)
    have Hw3 := Lib.hid hw3
    have HG := Lib.hid (And.intro hgq (And.intro hsz2 hrd3.lt))
    have d0 : w3.cell? ⟨w2.heap.size, 0, none⟩ = some (.pointer (some ⟨g, 0, none⟩)) := P3.out.cell 0
    have d1 : w3.cell? ⟨w2.heap.size, 1, none⟩ = some (.slice (some ⟨b0, off, none⟩) 256 c) := P3.out.cell 1
    clear hrd hb2 hb3 hg hgl2 b03 hw3 hE hrd3 hgq hsz2 HN HS
    go_wp2_with fail
    rw [Hw3.out]
    refine HUs.out.mono ?_
    rintro e w4 ⟨v, rfl, hF, hrd4, hg4⟩
    have Q4 := Lib.hid (Q3.out.kept hg4 (fun e => by have := Option.some.inj e; have := HG.out.1; omega))
    have P4 := Lib.hid (P3.out.kept hg4 (fun e => HG.out.2.1 (Option.some.inj e)))
    have E4 := Lib.hid (E3.out.at_ hg4)
    have Rd4 := Lib.hid hrd4
    clear d0 d1 hg4 hrd4 HUs
    by_cases hf : fitsB b
    · obtain rfl := FlawOf.zero (show FlawOf τ 0 v by rw [if_pos hf] at hF; exact hF)
      have HUn := Lib.hid (unit_any E4.out Rd4.out (by have := Rd4.out.lt; exact this) Hbad.out hf)
      have d0 : w4.cell? ⟨w2.heap.size, 0, none⟩ = some (.pointer (some ⟨g, 0, none⟩)) := P4.out.cell 0
      have d1 : w4.cell? ⟨w2.heap.size, 1, none⟩ = some (.slice (some ⟨b0, off, none⟩) 256 c) := P4.out.cell 1
      clear hF hf
      go_wp2_with fail
      clear d0 d1
      refine HUn.out.mono ?_
      rintro e w5 ⟨v, X, k, rfl, hF, ho, hg5⟩
      have Q5 := Lib.hid (Q4.out.kept hg5 (fun e => by have := Option.some.inj e; have := HG.out.1; omega))
      have B5 := Lib.hid (below_grown E4.out.env.bl hg5 E4.out.env.bl.size E4.out.env.lo)
      have hq4 := Q4.out.lt
      have O5 := Lib.hid (And.intro hF (And.intro ho (own_set3 (q := w.heap.size) (x := .int .i64 (openB b).1.kind) (y := .int .i64 (openB b).1.num) (z := .slice X (openB b).1.body.length k) ho hq4)))
      clear hF ho hg5 HUn
      obtain ⟨y0, y1, y2, y3, y4, y5⟩ := unit_cells Q5.out
      unfold UnitV.val
      obtain ⟨r, hop⟩ : ∃ r, openB b = r := ⟨_, rfl⟩
      rw [hop] at O5 ⊢
      obtain ⟨u, code⟩ := r
      simp only at O5 ⊢
      have Hop := Lib.hid hop
      clear hop
      go_wp2_with fail
      clear y0 y1 y2 y3 y4 y5
      have UZ := Lib.hid (unit_set Q5.out (.int .i64 u.kind) (.int .i64 u.num) (.slice X u.body.length k))
      have BZ := Lib.hid (below_set3 B5.out (Nat.le_refl _) (.int .i64 u.kind) (.int .i64 u.num) (.slice X u.body.length k))
      have OZ := Lib.hid (own_mono O5.out.2.2 (show w.heap.size ≤ w4.heap.size by omega))
      have HFz := Lib.hid O5.out.1
      clear O5 hq4
      generalize ((w5.setCell ⟨w.heap.size, 0, none⟩ (.int .i64 u.kind)).setCell ⟨w.heap.size, 1, none⟩ (.int .i64 u.num)).setCell ⟨w.heap.size, 2, none⟩ (.slice X u.body.length k) = wz at *
      obtain ⟨z0, z1, z2, _, _, _⟩ := unit_cells UZ.out
      exact bodyPost_ret (v := .tuple #[.agg #[.int .i64 u.kind, .int .i64 u.num, .slice X u.body.length k], v]) (by simp [results, Tryz.results143, go_sem, z0, z1, z2]) rfl (by rw [Hop.out]; exact ⟨v, X, k, rfl, HFz.out, OZ.out, BZ.out⟩)
    · obtain ⟨pos, a, rfl, ha⟩ := FlawOf.some_ (k := 5) (by decide) (show FlawOf τ 5 v by rw [if_neg hf] at hF; exact hF)
      have Ha := Lib.hid ha
      have Hop := Lib.hid (HOs.out hf)
      have B4 := Lib.hid E4.out.env.bl
      obtain ⟨y0, y1, y2, y3, y4, y5⟩ := unit_cells Q4.out
      clear hF hf ha
      go_wp2_with fail
      clear y0 y1 y2 y3 y4 y5
      have UZ := Lib.hid (unit_set Q4.out (.int .i64 0) (.int .i64 0) (.slice none 0 0))
      have BZ := Lib.hid (below_set3 B4.out (Nat.le_refl _) (.int .i64 0) (.int .i64 0) (.slice none 0 0))
      rw [Hop.out]
      generalize ((w4.setCell ⟨w.heap.size, 0, none⟩ (.int .i64 0)).setCell ⟨w.heap.size, 1, none⟩ (.int .i64 0)).setCell ⟨w.heap.size, 2, none⟩ (.slice none 0 0) = wz at *
      obtain ⟨z0, z1, z2, _, _, _⟩ := unit_cells UZ.out
      exact bodyPost_ret (v := .tuple #[.agg #[.int .i64 0, .int .i64 0, .slice none 0 0], flawV pos a]) (by simp [results, Tryz.results143, go_sem, z0, z1, z2]) rfl ⟨_, none, 0, rfl, Ha.out, World.ownsRow_nil _ _ _ _, BZ.out⟩
end Go.Proofs.YtpdfmpegcejmkaaGreatDoor
namespace Go.Proofs.YtpdfmpegcejmkaaGreatDoor
open Go.RowKit
theorem asB_bad {b : List Int} {k num : Int} (h : (openB b).2 ≠ 0) : asB b k num = ([], (openB b).2) := by unfold asB; rw [if_pos h]
theorem asB_other {b : List Int} {k num : Int} (h : (openB b).2 = 0) (ho : otherU (openB b).1 k num) : asB b k num = ([], 6) := by unfold asB; rw [if_neg (fun hn => hn h)]; exact if_pos ho
theorem asB_yes {b : List Int} {k num : Int} (h : (openB b).2 = 0) (ho : ¬ otherU (openB b).1 k num) : asB b k num = ((openB b).1.body, 0) := by unfold asB; rw [if_neg (fun hn => hn h)]; exact if_neg ho
set_option maxRecDepth 100000 in
set_option maxHeartbeats 4000000 in
theorem uas_any (σ : Sen) (τ : SenU) (w : World) (hC : GlAt σ w) (hU : GlU τ w) (A : Option Addr) (b : List Int) (c : Nat) (hb : BytesAt w A b) (hbc : b.length ≤ c) (hm : c ≤ 9223372036854775807) (kd num : Int) :
    Calls Tryz.prog 105 #[.slice A b.length c, .int .i64 kd, .int .i64 num] w fun e w' => ∃ v, e = .returned (.tuple #[v, .int .i64 (asB b kd num).2]) ∧ w'.ownsRow w.heap.size 5 1 v (asB b kd num).1.length (u8s (asB b kd num).1) ∧ Below w.heap.size w w' := by
  have HO := Lib.hid (open_any σ τ w hC hU A b c hb hbc hm)
  have HU := Lib.hid hU
  have Ha1 := Lib.hid (fun h => asB_bad (b := b) (k := kd) (num := num) h)
  have Ha2 := Lib.hid (fun h => asB_other (b := b) (k := kd) (num := num) h)
  have Ha3 := Lib.hid (fun h => asB_yes (b := b) (k := kd) (num := num) h)
  obtain ⟨r, hop⟩ : ∃ r, openB b = r := ⟨_, rfl⟩
  rw [hop] at HO Ha1 Ha2 Ha3
  obtain ⟨u, code⟩ := r
  simp only at HO Ha1 Ha2 Ha3
  clear hC hU hb hop
  unfold UnitV.val at *
  go_enter Tryz.func105, Tryz.ntmps105
  go_wp2_with fail
  refine HO.out.mono ?_
  rintro e w2 ⟨v, X, k, rfl, hF, ho, hb2⟩
  have hb3 := below_new w2 (.cells #[.int .i64 u.kind, .int .i64 u.num, .slice X u.body.length k] 34)
  have hb13 := hb2.trans (hb3.mono hb2.size)
  obtain ⟨w3, hw3⟩ : ∃ w3, w2.alloc (.cells #[.int .i64 u.kind, .int .i64 u.num, .slice X u.body.length k] 34) = w3 := ⟨_, rfl⟩
  have P3 := Lib.hid (BlockIs.made w2 34 #[.int .i64 u.kind, .int .i64 u.num, .slice X u.body.length k])
  rw [hw3] at hb3 hb13 P3
  have HU3 := Lib.hid (HU.out.below hb13)
  have B3 := Lib.hid hb13
  have O3 := Lib.hid (ownsRow_below ho hb3)
  have Hw3 := Lib.hid hw3
  obtain ⟨p0, p1, p2, _, _, _⟩ := unit_cells P3.out
  clear hb2 hb3 hb13 ho hw3 HO
  by_cases hc0 : code = 0
  · subst hc0
    obtain rfl := hF.zero
    have HSt := Lib.hid (strange_any τ w3 HU3.out u X k kd num)
    unfold UnitV.val at HSt
    clear hF
    go_wp2_with fail
    rw [Hw3.out]
    refine HSt.out.mono ?_
    rintro e w4 ⟨v, rfl, hF, hb4⟩
    have B4 := Lib.hid (B3.out.trans (hb4.mono B3.out.size))
    have O4 := Lib.hid (ownsRow_below O3.out hb4)
    have HU4 := Lib.hid (HU3.out.below hb4)
    have c2 : w4.cell? ⟨w2.heap.size, 2, none⟩ = some (.slice X u.body.length k) := (P3.out.below hb4 P3.out.lt).cell 2
    clear p0 p1 p2 hb4 HSt
    by_cases hot : otherU u kd num
    · have Has := Lib.hid (Ha2.out (by first | rfl | trivial) hot)
      obtain ⟨pos, a, rfl, ha⟩ := FlawOf.some_ (k := 6) (by decide) (show FlawOf τ 6 v by rw [if_pos hot] at hF; exact hF)
      have HEr := Lib.hid (uerrno_any τ w4 HU4.out 6 _ ha)
      clear hF ha hot c2
      go_wp2_with fail
      refine HEr.out.mono ?_
      rintro e w5 ⟨rfl, hb5⟩
      have B5 := Lib.hid (B4.out.trans (hb5.mono B4.out.size))
      clear hb5 HEr
      go_wp2_with fail
      go_ret2
      rw [Has.out]
      exact ⟨_, rfl, World.ownsRow_nil _ _ _ _, B5.out⟩
    · have Has := Lib.hid (Ha3.out (by first | rfl | trivial) hot)
      obtain rfl := FlawOf.zero (show FlawOf τ 0 v by rw [if_neg hot] at hF; exact hF)
      clear hF hot
      go_wp2_with fail
      go_ret2
      rw [Has.out]
      exact ⟨_, rfl, O4.out, B4.out⟩
  · have Has := Lib.hid (Ha1.out hc0)
    obtain ⟨pos, a, rfl, ha⟩ := hF.some_ hc0
    have HEr := Lib.hid (uerrno_any τ w3 HU3.out code _ ha)
    have Hw3b := Hw3
    clear hF ha hc0
    go_wp2_with fail
    rw [Hw3.out]
    refine HEr.out.mono ?_
    rintro e w5 ⟨rfl, hb5⟩
    have B5 := Lib.hid (B3.out.trans (hb5.mono B3.out.size))
    clear hb5 HEr
    go_wp2_with fail
    go_ret2
    rw [Has.out]
    exact ⟨_, rfl, World.ownsRow_nil _ _ _ _, B5.out⟩
end Go.Proofs.YtpdfmpegcejmkaaGreatDoor
namespace Go.Proofs.YtpdfmpegcejmkaaGreatDoor
open Mx
theorem open_facts {b : List Int} (hb : ∀ z ∈ b, 0 ≤ z ∧ z < 256) : (∀ z ∈ (openB b).1.body, 0 ≤ z ∧ z < 256) ∧ (openB b).1.body.length ≤ 239 := by
  by_cases h : (openB b).2 = 0
  · refine ⟨fun z hz => ?_, (open_some h).1.2.2⟩
    have h3 : (openB b).1.body = (unitOf b).body := by
      unfold openB at h ⊢
      split at h
      · exact absurd h (by decide)
      · next h5 =>
        rw [if_neg h5]
        split at h
        · exact absurd h (by decide)
        · next h6 =>
          rw [if_neg h6]
          split at h
          · next h7 => rw [if_pos h7]
          · exact absurd h (by decide)
    rw [h3] at hz
    have hz := List.mem_of_mem_take hz
    rcases List.mem_append.1 hz with h | h
    · exact hb z (List.mem_of_mem_drop (List.mem_of_mem_take h))
    · exact hb z (List.mem_of_mem_drop (List.mem_of_mem_take h))
  · rw [open_else h]
    exact ⟨(fun z hz => by cases hz), Nat.zero_le _⟩
end Go.Proofs.YtpdfmpegcejmkaaGreatDoor
