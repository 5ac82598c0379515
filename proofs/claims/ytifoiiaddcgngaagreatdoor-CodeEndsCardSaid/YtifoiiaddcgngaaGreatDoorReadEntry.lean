/- A reader's entries. -/
import Derived.Test.YtifoiiaddcgngaaGreatDoorReadRow
import Derived.Test.YtifoiiaddcgngaaGreatDoorCodeBytes
namespace Go.Proofs.YtifoiiaddcgngaaGreatDoor
open Go.RowKit
/-- Bytes never lie in a block without bytes. -/
theorem RdAt.farAny {σ : Sen} {w w' : World} {g gi : Nat} {t : TypeId} {cs : Array Value} {bs : List Int} {s : RSt} (h : RdAt σ w g bs s) (hb : BlockIs w gi t cs) (hno : ∀ (i : Nat) (z : Int), cs[i]? ≠ some (.int .u8 z)) (hne : gi ≠ g) (hg : w.grownBy w' (some gi)) : RdAt σ w' g bs s := by
  obtain ⟨x, cap, k, ev, h⟩ := h
  refine ⟨x, cap, k, ev, h.blk.kept hg (by simpa using fun e => hne e.symm), ⟨h.rd.1, fun hn => ?_⟩, h.off, h.len, h.err⟩
  obtain ⟨y, off, e, hc⟩ := h.rd.2 hn
  have hxg : y ≠ gi := by
    rintro rfl
    have h1 := hc 0 (List.length_pos_iff.2 hn)
    rw [hb.cell] at h1
    exact hno _ _ h1
  exact ⟨y, off, e, fun i hi => hg.cell (hc i hi) (by simpa using hxg)⟩
def entCs (a b c : Int) (v : Value) : Array Value := #[.int .i64 a, .int .i64 b, .int .i64 c, v]
theorem ent_no (a b c : Int) (x : Option Addr) (n m : Nat) : ∀ (i : Nat) (z : Int), (entCs a b c (.slice x n m))[i]? ≠ some (.int .u8 z) := by
  intro i z
  unfold entCs
  match i with
  | 0 => simp
  | 1 => simp
  | 2 => simp
  | 3 => simp
  | i + 4 => simp
theorem entryR_of (bs : List Int) (k : Nat) : entryR bs (.ok k) =
    match (textR bs 65535 (fieldR bs 6 (fieldR bs 6 (fieldR bs 1 (.ok k)).2).2).2).2 with
    | .bad p l => (noEnt, .bad p l)
    | .ok j => if rightB ⟨(fieldR bs 6 (fieldR bs 1 (.ok k)).2).1, (fieldR bs 6 (fieldR bs 6 (fieldR bs 1 (.ok k)).2).2).1, (fieldR bs 1 (.ok k)).1, (textR bs 65535 (fieldR bs 6 (fieldR bs 6 (fieldR bs 1 (.ok k)).2).2).2).1⟩
      then (⟨(fieldR bs 6 (fieldR bs 1 (.ok k)).2).1, (fieldR bs 6 (fieldR bs 6 (fieldR bs 1 (.ok k)).2).2).1, (fieldR bs 1 (.ok k)).1, (textR bs 65535 (fieldR bs 6 (fieldR bs 6 (fieldR bs 1 (.ok k)).2).2).2).1⟩, .ok j) else (noEnt, .bad k false) := rfl
theorem textR_le (bs : List Int) (most : Int) (s : RSt) : (textR bs most s).1.length ≤ bs.length := by
  rw [textR_of]
  cases h : (countR bs 2 most 1 s).2 with
  | bad p l => exact Nat.zero_le _
  | ok j => simp only; rw [List.length_take, List.length_drop]; omega
/-- A struct's variable that is laid anew with noughts. -/
def zero4 (w : World) (q : Nat) : World := (((w.setCell ⟨q, 0, none⟩ (.int .i64 0)).setCell ⟨q, 1, none⟩ (.int .i64 0)).setCell ⟨q, 2, none⟩ (.int .i64 0)).setCell ⟨q, 3, none⟩ (.slice none 0 0)
theorem zero4_grown (w : World) (q : Nat) : w.grownBy (zero4 w q) (some q) := grown_at (grown_at (grown_at (grown_at (World.grownBy.refl _ _) _ _) _ _) _ _) _ _
theorem set4_far {w w' : World} {g q : Nat} (h : w.grownBy w' (some g)) (hq : w.heap.size ≤ q) (a b c d : Value) : w.grownBy ((((w'.setCell ⟨q, 0, none⟩ a).setCell ⟨q, 1, none⟩ b).setCell ⟨q, 2, none⟩ c).setCell ⟨q, 3, none⟩ d) (some g) := by
  have h1 : w.grownBy (w'.setCell ⟨q, 0, none⟩ a) (some g) := grown_set h (.inr hq) _
  have h2 : w.grownBy ((w'.setCell ⟨q, 0, none⟩ a).setCell ⟨q, 1, none⟩ b) (some g) := grown_set h1 (.inr hq) _
  have h3 : w.grownBy (((w'.setCell ⟨q, 0, none⟩ a).setCell ⟨q, 1, none⟩ b).setCell ⟨q, 2, none⟩ c) (some g) := grown_set h2 (.inr hq) _
  exact grown_set h3 (.inr hq) _
theorem set4_grown (w : World) (q : Nat) (a b c d : Value) : w.grownBy ((((w.setCell ⟨q, 0, none⟩ a).setCell ⟨q, 1, none⟩ b).setCell ⟨q, 2, none⟩ c).setCell ⟨q, 3, none⟩ d) (some q) := grown_at (grown_at (grown_at (grown_at (World.grownBy.refl _ _) _ _) _ _) _ _) _ _
theorem zero4_far {w w' : World} {g : Nat} (h : w.grownBy w' (some g)) : w.grownBy (zero4 w' w.heap.size) (some g) := set4_far h (Nat.le_refl _) _ _ _ _
theorem BlockIs.set4 {w : World} {q : Nat} {t : TypeId} {x y z v : Value} (h : BlockIs w q t #[x, y, z, v]) (a b c d : Value) : BlockIs ((((w.setCell ⟨q, 0, none⟩ a).setCell ⟨q, 1, none⟩ b).setCell ⟨q, 2, none⟩ c).setCell ⟨q, 3, none⟩ d) q t #[a, b, c, d] :=
  (((h.set1 0 a).set1 1 b).set1 2 c).set1 3 d
set_option maxRecDepth 100000 in
set_option maxHeartbeats 2000000 in
theorem rentry_ok (σ : Sen) (w0 w : World) (g : Nat) (bs : List Int) (k : Nat) (h : RdAt σ w g bs (.ok k)) (hE : Env σ w0 g w) (hl : bs.length ≤ 140737488351232) :
    Calls Tryz.prog 39 #[.pointer (some ⟨g, 0, none⟩)] w fun e w' => ∃ v, e = .returned (.agg #[.int .i64 (entryR bs (.ok k)).1.index, .int .i64 (entryR bs (.ok k)).1.term, .int .i64 (entryR bs (.ok k)).1.kind, v]) ∧ w'.ownsRow w.heap.size 5 1 v (entryR bs (.ok k)).1.body.length (u8s (entryR bs (.ok k)).1.body) ∧ Got σ w g bs (entryR bs (.ok k)).2 w' := by
  have hbd := h.bytes
  have hgl : g < w.heap.size := by obtain ⟨x, cap, k, ev, h⟩ := h; exact h.blk.lt
  have hEq := entryR_of bs k
  generalize hR : entryR bs (.ok k) = R at *
  have HR := Lib.hid hR
  clear hR
  have hbn := below_new w (.cells #[.int .i64 0, .int .i64 0, .int .i64 0, .slice none 0 0] 28)
  have hB := BlockIs.made w 28 (entCs 0 0 0 (.slice none 0 0))
  unfold entCs at hB
  have hsz : (w.alloc (.cells #[.int .i64 0, .int .i64 0, .int .i64 0, .slice none 0 0] 28)).heap.size = w.heap.size + 1 := by simp
  have hR1 := h.below hbn
  have hE1 := hE.below hbn
  have Hq := Lib.hid hEq
  clear h hEq
  go_enter Tryz.func39, Tryz.ntmps39
  go_wp2_with fail
  generalize w.alloc (.cells #[.int .i64 0, .int .i64 0, .int .i64 0, .slice none 0 0] 28) = w1 at *
  have Hsz := Lib.hid hsz; clear hsz
  have HB := Lib.hid hB; clear hB
  refine (going_is σ w1 g bs _ hR1).mono ?_
  rintro e w' ⟨rfl, rfl⟩
  unfold isOk
  obtain ⟨c1, hk⟩ := hR1.place
  go_wp2_with fail
  clear c1
  refine (rfield_any σ w0 w1 g bs (.ok k) 1 hR1 hE1.f hl).mono ?_
  rintro e w2 ⟨rfl, hG2⟩
  have hv1 := fieldR_bd bs hbd 1 (.ok k)
  generalize fieldR bs 1 (.ok k) = r1 at *
  have hbA := below_new w2 (.cells #[.int .i64 0, .int .i64 0, .int .i64 r1.1, .slice none 0 0] 28)
  go_wp2_with fail
  have hBA := BlockIs.made w2 28 #[.int .i64 0, .int .i64 0, .int .i64 r1.1, .slice none 0 0]
  have hsA : (w2.alloc (.cells #[.int .i64 0, .int .i64 0, .int .i64 r1.1, .slice none 0 0] 28)).heap.size = w2.heap.size + 1 := by simp
  generalize w2.alloc (.cells #[.int .i64 0, .int .i64 0, .int .i64 r1.1, .slice none 0 0] 28) = w3 at *
  have HsA := Lib.hid hsA; clear hsA
  have HBA := Lib.hid hBA; clear hBA
  have hs12 := hG2.fr.size
  have hB3 := Lib.hid ((HB.out.kept hG2.fr (by have := Hsz.out; simp; omega)).below hbA (by have := Hsz.out; omega))
  have hG3 : Got σ w1 g bs r1.2 w3 := ⟨hG2.rd.below hbA, hG2.fr.trans (grown_below hbA _)⟩
  have hE3 := hE1.grown hG3.fr
  clear hG2 hbA HB
  refine (rfield_any σ w0 w3 g bs r1.2 6 hG3.rd hE3.f hl).mono ?_
  rintro e w4 ⟨rfl, hG4⟩
  have hE4 := hE3.grown hG4.fr
  have hv2 := fieldR_bd bs hbd 6 r1.2
  generalize fieldR bs 6 r1.2 = r2 at *
  go_wp2_with fail
  refine (rfield_any σ w0 w4 g bs r2.2 6 hG4.rd hE4.f hl).mono ?_
  rintro e w5 ⟨rfl, hG5⟩
  have hv3 := fieldR_bd bs hbd 6 r2.2
  generalize fieldR bs 6 r2.2 = r3 at *
  have hG35 := hG4.trans hG5
  have hs35 := hG35.fr.size
  have hE5 := hE3.grown hG35.fr
  have hBA5 := HBA.out.kept hG35.fr (by have := Hsz.out; simp; omega)
  have hB5 := Lib.hid (hB3.out.kept hG35.fr (by have := Hsz.out; have := HsA.out; simp; omega))
  obtain ⟨d0, d1, d2, d3⟩ := entry_cells hBA5
  have f0 := hBA5.free 0
  have f1 := hBA5.free 1
  have hg6a : w5.grownBy (w5.setCell ⟨w2.heap.size, 0, none⟩ (.int .i64 r2.1)) (some w2.heap.size) := grown_at (World.grownBy.refl _ _) _ _
  have hg6 := grown_at hg6a 1 (.int .i64 r3.1)
  have hB6 : BlockIs _ w2.heap.size 28 #[.int .i64 r2.1, .int .i64 r3.1, .int .i64 r1.1, .slice none 0 0] := (hBA5.set1 0 (.int .i64 r2.1)).set1 1 (.int .i64 r3.1)
  have hno := ent_no 0 0 r1.1 none 0 0
  unfold entCs at hno
  have hR6 := hG35.rd.farAny hBA5 hno (by have := Hsz.out; omega) hg6
  have Hno := Lib.hid hno
  clear hno hg6a hBA5 HBA hB3
  go_wp2_with fail
  clear d0 d1 d2 d3 f0 f1
  have hFr5 : w.grownBy w5 (some g) := ((grown_below hbn _).trans hG3.fr).trans hG35.fr
  have hlo : w.heap.size ≤ w2.heap.size := by have := Hsz.out; omega
  have hFr6a : w.grownBy (w5.setCell ⟨w2.heap.size, 0, none⟩ (.int .i64 r2.1)) (some g) := grown_set hFr5 (.inr hlo) _
  have hFr6 : w.grownBy ((w5.setCell ⟨w2.heap.size, 0, none⟩ (.int .i64 r2.1)).setCell ⟨w2.heap.size, 1, none⟩ (.int .i64 r3.1)) (some g) := grown_set hFr6a (.inr hlo) _
  have hB6R := Lib.hid (hB5.out.kept hg6 (by have := Hsz.out; simp; omega))
  have hs6 : w5.heap.size = ((w5.setCell ⟨w2.heap.size, 0, none⟩ (.int .i64 r2.1)).setCell ⟨w2.heap.size, 1, none⟩ (.int .i64 r3.1)).heap.size := by simp [World.setCell]
  generalize (w5.setCell ⟨w2.heap.size, 0, none⟩ (.int .i64 r2.1)).setCell ⟨w2.heap.size, 1, none⟩ (.int .i64 r3.1) = w6 at *
  have Hs6 := Lib.hid hs6
  have hbl0 := hE1.bl.size
  have hE6 : Env σ w0 g w6 := ⟨hE1.gl, ⟨hFr6.os.trans (hE.bl.os), hFr6.tape.trans hE.bl.tape, hFr6.output.trans hE.bl.output, Nat.le_trans hE.bl.size hFr6.size, fun q hq => (hFr6.block q (Nat.lt_of_lt_of_le hq hE.bl.size) (by have := hE.lo; simp; omega)).trans (hE.bl.block q hq)⟩, hE.lo⟩
  clear hs6 hFr6a hFr5 hG35 hG3 hG4 hG5 hE3 hE4 hE5 hB5 hg6 hR1
  refine (rtext_any σ w0 w6 g bs r3.2 65535 hR6 hE6 hl).mono ?_
  rintro e w7 ⟨v, rfl, hown7, hG7⟩
  have hE7 := hE6.grown hG7.fr
  have hs67 := hG7.fr.size
  have hB7 := hB6.kept hG7.fr (by have := Hsz.out; simp; omega)
  have hB7R := Lib.hid (hB6R.out.kept hG7.fr (by simp; omega))
  have hFr7 := hFr6.trans hG7.fr
  have htl : (textR bs 65535 r3.2).1.length ≤ 9223372036854775807 := by have := textR_le bs 65535 r3.2; omega
  generalize textR bs 65535 r3.2 = r4 at *
  obtain ⟨X, cap, rfl, _⟩ := own_slice hown7
  have d3 : w7.cell? ⟨w2.heap.size, 3, none⟩ = some (.slice none 0 0) := hB7.cell 3
  have f3 := hB7.free 3
  have hg8 : w7.grownBy (w7.setCell ⟨w2.heap.size, 3, none⟩ (.slice X r4.1.length cap)) (some w2.heap.size) := grown_at (World.grownBy.refl _ _) _ _
  have hB8 : BlockIs (w7.setCell ⟨w2.heap.size, 3, none⟩ (.slice X r4.1.length cap)) w2.heap.size 28 #[.int .i64 r2.1, .int .i64 r3.1, .int .i64 r1.1, .slice X r4.1.length cap] := hB7.set1 3 _
  have hR8 := hG7.rd.farAny hB7 (ent_no _ _ _ _ _ _) (by have := Hsz.out; omega) hg8
  have hown8 := hown7.kept hg8 (.inr (by
    intro e
    have := (hown7.lt _ e).1
    have := Hs6.out; have := HsA.out
    omega))
  have hB8R := Lib.hid (hB7R.out.kept hg8 (by have := Hsz.out; simp; omega))
  have hFr8 : w.grownBy (w7.setCell ⟨w2.heap.size, 3, none⟩ (.slice X r4.1.length cap)) (some g) := grown_set hFr7 (.inr hlo) _
  have hE8 : Env σ w0 g (w7.setCell ⟨w2.heap.size, 3, none⟩ (.slice X r4.1.length cap)) := ⟨hE7.gl, hE7.bl.setCell (p := ⟨w2.heap.size, 3, none⟩) (by have := hE.bl.size; show w0.heap.size ≤ w2.heap.size; omega) _, hE7.lo⟩
  have hs8 : w7.heap.size = (w7.setCell ⟨w2.heap.size, 3, none⟩ (.slice X r4.1.length cap)).heap.size := by simp [World.setCell]
  have Hown8 := Lib.hid (own_mono hown8 (show w.heap.size ≤ w6.heap.size from hFr6.size))
  have hown6 := Lib.hid (fun q e => (hown8.lt q e).1)
  clear hown7 hB7 hB7R hg8 hown8 hE7 hE6 hG7 hB6 hB6R hR6
  go_wp2_with fail
  clear d3 f3
  generalize w7.setCell ⟨w2.heap.size, 3, none⟩ (.slice X r4.1.length cap) = w8 at *
  have Hs8 := Lib.hid hs8; clear hs8
  refine (going_is σ w8 g bs _ hR8).mono ?_
  rintro e w' ⟨rfl, rfl⟩
  cases hs : r4.2 with
  | bad p l =>
    rw [hs] at Hq hR8
    unfold isOk
    clear hs
    obtain ⟨d0, d1, d2, d3⟩ := entry_cells hB8R.out
    have f := fun i => hB8R.out.free i
    have hgz : w8.grownBy (zero4 w8 w.heap.size) (some w.heap.size) := zero4_grown w8 w.heap.size
    have hRz := hR8.farAny hB8R.out (ent_no 0 0 0 none 0 0) (by omega) hgz
    have hFz : w.grownBy (zero4 w8 w.heap.size) (some g) := zero4_far hFr8
    have hrz : R = (noEnt, .bad p l) := Hq.out
    have Hrz := Lib.hid hrz
    clear hrz
    have hBz := hB8R.out.set4 (.int .i64 0) (.int .i64 0) (.int .i64 0) (.slice none 0 0)
    unfold zero4 at *
    have Hz := Lib.hid (And.intro hRz (And.intro hFz hBz))
    clear hgz hRz hFz hBz
    go_wp2_with fail
    have hZ := Hz.out
    clear d0 d1 d2 d3 f
    generalize (((w8.setCell ⟨w.heap.size, 0, none⟩ (.int .i64 0)).setCell ⟨w.heap.size, 1, none⟩ (.int .i64 0)).setCell ⟨w.heap.size, 2, none⟩ (.int .i64 0)).setCell ⟨w.heap.size, 3, none⟩ (.slice none 0 0) = w9 at *
    obtain ⟨d0, d1, d2, d3⟩ := entry_cells hZ.2.2
    exact bodyPost_ret (v := .agg #[.int .i64 0, .int .i64 0, .int .i64 0, .slice none 0 0]) (by simp [results, Tryz.results39, go_sem, d0, d1, d2, d3]) rfl ⟨.slice none 0 0, by rw [Hrz.out]; rfl, by rw [Hrz.out]; exact World.ownsRow_nil _ _ _ _, by rw [Hrz.out]; exact ⟨hZ.1, hZ.2.1⟩⟩
  | ok j =>
    rw [hs] at Hq hR8
    unfold isOk
    clear hs
    obtain ⟨d0, d1, d2, d3⟩ := entry_cells hB8
    have HRi := Lib.hid (right_any w8 ⟨r2.1, r3.1, r1.1, r4.1⟩ X cap htl)
    go_wp2_with fail
    clear d0 d1 d2 d3
    refine HRi.out.mono ?_
    rintro e w9 ⟨rfl, hb9⟩
    have hR9 := hR8.below hb9
    have hE9 := hE8.below hb9
    have hB9 := hB8.below hb9 hB8.lt
    have hB9R := hB8R.out.below hb9 hB8R.out.lt
    have hown9 := ownsRow_below Hown8.out hb9
    have hFr9 := hFr8.trans (grown_below hb9 _)
    have hs89 := hb9.size
    clear HRi hR8 hE8 hB8 hB8R Hown8 hb9
    cases hr : rightB ⟨r2.1, r3.1, r1.1, r4.1⟩ with
    | true =>
      have hrz : R = (⟨r2.1, r3.1, r1.1, r4.1⟩, .ok j) := by rw [Hq.out]; exact if_pos hr
      have Hrz := Lib.hid hrz
      clear hrz hr
      obtain ⟨a0, a1, a2, a3⟩ := entry_cells hB9
      obtain ⟨d0, d1, d2, d3⟩ := entry_cells hB9R
      have f := fun i => hB9R.free i
      have hBz := hB9R.set4 (.int .i64 r2.1) (.int .i64 r3.1) (.int .i64 r1.1) (.slice X r4.1.length cap)
      have hgz := set4_grown w9 w.heap.size (.int .i64 r2.1) (.int .i64 r3.1) (.int .i64 r1.1) (.slice X r4.1.length cap)
      have hRz := hR9.farAny hB9R (ent_no 0 0 0 none 0 0) (by omega) hgz
      have hFz := set4_far hFr9 (Nat.le_refl _) (.int .i64 r2.1) (.int .i64 r3.1) (.int .i64 r1.1) (.slice X r4.1.length cap)
      have hoz := hown9.kept hgz (.inr (by
        intro e
        have := hown6.out _ e
        have := hFr6.size
        have := Hs6.out; have := HsA.out
        omega))
      have Hz := Lib.hid (And.intro hRz (And.intro hFz (And.intro hBz hoz)))
      clear hgz hRz hFz hBz hoz hown9 hB9 hB9R hR9
      go_wp2_with fail
      have hZ := Hz.out
      clear d0 d1 d2 d3 a0 a1 a2 a3 f
      generalize (((w9.setCell ⟨w.heap.size, 0, none⟩ (.int .i64 r2.1)).setCell ⟨w.heap.size, 1, none⟩ (.int .i64 r3.1)).setCell ⟨w.heap.size, 2, none⟩ (.int .i64 r1.1)).setCell ⟨w.heap.size, 3, none⟩ (.slice X r4.1.length cap) = w10 at *
      obtain ⟨d0, d1, d2, d3⟩ := entry_cells hZ.2.2.1
      exact bodyPost_ret (v := .agg #[.int .i64 r2.1, .int .i64 r3.1, .int .i64 r1.1, .slice X r4.1.length cap]) (by simp [results, Tryz.results39, go_sem, d0, d1, d2, d3]) rfl ⟨.slice X r4.1.length cap, by rw [Hrz.out], by rw [Hrz.out]; exact hZ.2.2.2, by rw [Hrz.out]; exact ⟨hZ.1, hZ.2.1⟩⟩
    | false =>
      have hrz : R = (noEnt, .bad k false) := by rw [Hq.out]; exact if_neg (by rw [hr]; decide)
      have Hrz := Lib.hid hrz
      clear hrz hr
      have cg := hE9.at_.en
      have hne := hE9.gl.ne.2.2.2
      go_wp2_with fail
      refine (fail_is σ w9 g bs j k σ.en hR9 (.inr (.inr (.inr (.inr rfl)))) false (by simp [hne])).mono ?_
      rintro e w10 ⟨rfl, hR10, hg10⟩
      have hB10R := hB9R.kept hg10 (by simp; omega)
      have hFr10 := hFr9.trans hg10
      obtain ⟨d0, d1, d2, d3⟩ := entry_cells hB10R
      have f := fun i => hB10R.free i
      have hgz : w10.grownBy (zero4 w10 w.heap.size) (some w.heap.size) := zero4_grown w10 w.heap.size
      have hRz := hR10.farAny hB10R (ent_no 0 0 0 none 0 0) (by omega) hgz
      have hFz : w.grownBy (zero4 w10 w.heap.size) (some g) := zero4_far hFr10
      have hBz := hB10R.set4 (.int .i64 0) (.int .i64 0) (.int .i64 0) (.slice none 0 0)
      unfold zero4 at *
      have Hz := Lib.hid (And.intro hRz (And.intro hFz hBz))
      clear hgz hRz hFz hBz cg hown9 hB9 hB9R hB10R hR9 hR10
      go_wp2_with fail
      have hZ := Hz.out
      clear d0 d1 d2 d3 f
      generalize (((w10.setCell ⟨w.heap.size, 0, none⟩ (.int .i64 0)).setCell ⟨w.heap.size, 1, none⟩ (.int .i64 0)).setCell ⟨w.heap.size, 2, none⟩ (.int .i64 0)).setCell ⟨w.heap.size, 3, none⟩ (.slice none 0 0) = w11 at *
      obtain ⟨d0, d1, d2, d3⟩ := entry_cells hZ.2.2
      exact bodyPost_ret (v := .agg #[.int .i64 0, .int .i64 0, .int .i64 0, .slice none 0 0]) (by simp [results, Tryz.results39, go_sem, d0, d1, d2, d3]) rfl ⟨.slice none 0 0, by rw [Hrz.out]; rfl, by rw [Hrz.out]; exact World.ownsRow_nil _ _ _ _, by rw [Hrz.out]; exact ⟨hZ.1, hZ.2.1⟩⟩
theorem rentry_bad (σ : Sen) (w : World) (g : Nat) (bs : List Int) (p : Nat) (l : Bool) (h : RdAt σ w g bs (.bad p l)) :
    Calls Tryz.prog 39 #[.pointer (some ⟨g, 0, none⟩)] w fun e w' => e = .returned (.agg #[.int .i64 0, .int .i64 0, .int .i64 0, .slice none 0 0]) ∧ Got σ w g bs (.bad p l) w' := by
  have hbn := below_new w (.cells #[.int .i64 0, .int .i64 0, .int .i64 0, .slice none 0 0] 28)
  have hB := BlockIs.made w 28 (entCs 0 0 0 (.slice none 0 0))
  unfold entCs at hB
  have hgl : g < w.heap.size := by obtain ⟨x, cap, k, ev, h⟩ := h; exact h.blk.lt
  have hR1 := h.below hbn
  clear h
  go_enter Tryz.func39, Tryz.ntmps39
  go_wp2_with fail
  generalize w.alloc (.cells #[.int .i64 0, .int .i64 0, .int .i64 0, .slice none 0 0] 28) = w1 at *
  refine (going_is σ w1 g bs _ hR1).mono ?_
  rintro e w' ⟨rfl, rfl⟩
  unfold isOk
  obtain ⟨d0, d1, d2, d3⟩ := entry_cells hB
  have f := fun i => hB.free i
  have hgz : w1.grownBy (zero4 w1 w.heap.size) (some w.heap.size) := zero4_grown w1 w.heap.size
  have hRz := hR1.farAny hB (ent_no 0 0 0 none 0 0) (by omega) hgz
  have hFz : w.grownBy (zero4 w1 w.heap.size) (some g) := zero4_far (grown_below hbn _)
  have hBz := hB.set4 (.int .i64 0) (.int .i64 0) (.int .i64 0) (.slice none 0 0)
  unfold zero4 at *
  have Hz := Lib.hid (And.intro hRz (And.intro hFz hBz))
  clear hgz hRz hFz hBz hB hR1
  go_wp2_with fail
  have hZ := Hz.out
  clear d0 d1 d2 d3 f
  generalize (((w1.setCell ⟨w.heap.size, 0, none⟩ (.int .i64 0)).setCell ⟨w.heap.size, 1, none⟩ (.int .i64 0)).setCell ⟨w.heap.size, 2, none⟩ (.int .i64 0)).setCell ⟨w.heap.size, 3, none⟩ (.slice none 0 0) = w11 at *
  obtain ⟨d0, d1, d2, d3⟩ := entry_cells hZ.2.2
  exact bodyPost_ret (v := .agg #[.int .i64 0, .int .i64 0, .int .i64 0, .slice none 0 0]) (by simp [results, Tryz.results39, go_sem, d0, d1, d2, d3]) rfl ⟨rfl, hZ.1, hZ.2.1⟩
/-- An entry, whatever the reader's state. -/
theorem rentry_any (σ : Sen) (w0 w : World) (g : Nat) (bs : List Int) (s : RSt) (h : RdAt σ w g bs s) (hE : Env σ w0 g w) (hl : bs.length ≤ 140737488351232) :
    Calls Tryz.prog 39 #[.pointer (some ⟨g, 0, none⟩)] w fun e w' => ∃ v, e = .returned (.agg #[.int .i64 (entryR bs s).1.index, .int .i64 (entryR bs s).1.term, .int .i64 (entryR bs s).1.kind, v]) ∧ w'.ownsRow w.heap.size 5 1 v (entryR bs s).1.body.length (u8s (entryR bs s).1.body) ∧ Got σ w g bs (entryR bs s).2 w' := by
  cases s with
  | ok k => exact rentry_ok σ w0 w g bs k h hE hl
  | bad p l => exact (rentry_bad σ w g bs p l h).mono fun e w' ⟨h1, h2⟩ => ⟨.slice none 0 0, h1, World.ownsRow_nil _ _ _ _, h2⟩
end Go.Proofs.YtifoiiaddcgngaaGreatDoor
