/- seg: the sum of blocks' sums. -/
/- seg: the records whose blocks these are, from an index on. -/
/- Bytes as a string; bytes.Equal. -/
import Derived.Test.YtpdfmpegcejmkaaGreatDoorSegFootM
import Derived.Test.YtpdfmpegcejmkaaGreatDoorKitBlock
import Derived.Deep.OwnRows
import Derived.IntWalk
import Derived.Test.YtpdfmpegcejmkaaGreatDoorUnitSum
import Derived.Test.YtpdfmpegcejmkaaGreatDoorSegRecord
import Derived.Test.YtpdfmpegcejmkaaGreatDoorSegHead
import Derived.Test.YtpdfmpegcejmkaaGreatDoorChecked
import Derived.Lib.BufferRead
namespace Go.Proofs.YtpdfmpegcejmkaaGreatDoor
open Go.RowKit
def rowsP (ps : List Part) : List (List Int) := ps.map (·.zs)
theorem rowsP_len (ps : List Part) : (rowsP ps).length = ps.length := List.length_map ..
theorem rowsP_get {ps : List Part} {j : Nat} {p : Part} (h : ps[j]? = some p) : (rowsP ps)[j]? = some p.zs := by unfold rowsP; rw [List.getElem?_map, h]; rfl
/-- Where a block's sum lies. -/
def sumPart (p : Part) : Part := ⟨cutAt p.A p.cap 28, (p.zs.drop 28).take 4, p.cap - 28⟩
theorem sumPart_len {p : Part} (h : p.zs.length = 256) : (sumPart p).zs.length = 4 := by
  show ((p.zs.drop 28).take 4).length = 4
  rw [List.length_take, List.length_drop, h]; rfl
theorem sumPart_val {p : Part} (h : p.zs.length = 256) : (sumPart p).val = .slice (cutAt p.A p.cap 28) 4 (p.cap - 28) := by
  unfold Part.val
  rw [sumPart_len h]; rfl
theorem sumPart_ok {w : World} {p : Part} (h : p.ok w) (hl : p.zs.length = 256) : (sumPart p).ok w :=
  ⟨front_reads (cut_reads h.1 h.2.1), by rw [sumPart_len hl]; show 4 ≤ p.cap - 28; have := h.2.1; omega, by show p.cap - 28 ≤ 9223372036854775807; have := h.2.2; omega⟩
theorem sumParts_bytes (ps : List Part) : bytesOf (ps.map sumPart) = sumsB (rowsP ps) := by
  unfold bytesOf sumsB rowsP
  rw [List.flatMap_map, List.flatMap_map]
  rfl
/-- So many first cells of a row are the blocks' sums. -/
structure SumRow (w : World) (G : Nat) (ps : List Part) (k : Nat) : Prop where
  ex : ∃ cs, BlockIs w G 27 cs ∧ cs.size = ps.length ∧ ∀ (j : Nat) (p : Part), j < k → ps[j]? = some p → cs[j]? = some (sumPart p).val
section
variable {w w' : World} {G : Nat} {ps : List Part} {k : Nat}
theorem SumRow.below (h : SumRow w G ps k) (hb : Below w.heap.size w w') : SumRow w' G ps k := by
  obtain ⟨cs, h1, h2⟩ := h.ex
  exact ⟨cs, h1.below hb h1.lt, h2⟩
theorem SumRow.room (h : SumRow w G ps k) {q : Nat} (hq : q < ps.length) : (∃ v, w.cell? ⟨G, q, none⟩ = some v) ∧ w.frozen? ⟨G, q, none⟩ = false := by
  obtain ⟨cs, h1, h2, _⟩ := h.ex
  exact ⟨⟨cs[q]'(by omega), by rw [h1.cell]; exact Array.getElem?_eq_getElem (by omega)⟩, h1.free q⟩
theorem SumRow.put (h : SumRow w G ps k) {p : Part} (hp : ps[k]? = some p) : SumRow (w.setCell ⟨G, k, none⟩ (sumPart p).val) G ps (k + 1) := by
  obtain ⟨cs, h1, h2, h3⟩ := h.ex
  have hk : k < ps.length := (List.getElem?_eq_some_iff.1 hp).1
  refine ⟨_, h1.set1 k _, by simp [h2], fun j q hj hq => ?_⟩
  by_cases hjk : j = k
  · subst hjk
    obtain rfl : p = q := Option.some.inj (hp.symm.trans hq)
    simp [h2, hk]
  · rw [Array.getElem?_setIfInBounds, if_neg (by omega)]
    exact h3 j q (by omega) hq
theorem SumRow.parts (h : SumRow w G ps ps.length) (hp : ∀ p ∈ ps, p.ok w ∧ p.zs.length = 256) : PartsAt w (some ⟨G, 0, none⟩) (ps.map sumPart) := by
  obtain ⟨cs, h1, h2, h3⟩ := h.ex
  refine ⟨fun p hm => ?_, fun _ => ⟨G, 0, rfl, fun i p hi => ?_⟩⟩
  · obtain ⟨q, hq, rfl⟩ := List.mem_map.1 hm
    exact sumPart_ok (hp q hq).1 (hp q hq).2
  · rw [List.getElem?_map] at hi
    cases hq : ps[i]? with
    | none => rw [hq] at hi; cases hi
    | some q =>
      rw [hq] at hi
      obtain rfl := Option.some.inj hi
      rw [Nat.zero_add, h1.cell]
      exact h3 i q (List.getElem?_eq_some_iff.1 hq).1 hq
end
theorem infoBytes8 : (Tryz.prog.info? 27).map (fun i => (i.zero, i.size, i.bytes)) = some (some (.slice none 0 0), 1, 24) := by kernel_rfl
theorem SumRow.made (w : World) (ps : List Part) : SumRow (w.alloc (.cells (madeCells #[.slice none 0 0] ps.length) 27)) w.heap.size ps 0 :=
  ⟨_, BlockIs.made w _ _, by rw [size_madeCells], fun j _ hj => absurd hj (by omega)⟩
set_option maxRecDepth 100000 in
set_option maxHeartbeats 8000000 in
theorem gsumOf_any (W : World) (A : Option Addr) (ps : List Part) (k : Nat) (hp : PartsAt W A ps) (hn : ps.length ≤ 1000000) (hl : ∀ p ∈ ps, p.zs.length = 256) :
    Calls Tryz.prog 88 #[.slice A ps.length k] W fun r w' => r = .returned (.int .u32 ((Mx.sum (sumsB (rowsP ps))).toNat : Int)) ∧ Below W.heap.size W w' := by
  have hmk := fun W => run_make_row' (P := Tryz.prog) 28 27 (.slice none 0 0) 24 Tryz.underlying28 infoBytes8 rfl .i64 .i64 ps.length (by omega) (by omega) W
  have hb1 := below_new W (.cells (madeCells #[.slice none 0 0] ps.length) 27)
  have HR := Lib.hid (SumRow.made W ps)
  have HB := Lib.hid hb1
  have HP := Lib.hid hp
  have HL := Lib.hid hl
  have HN := Lib.hid hn
  obtain ⟨w1, hw1⟩ : ∃ w1, W.alloc (.cells (madeCells #[.slice none 0 0] ps.length) 27) = w1 := ⟨_, rfl⟩
  rw [hw1] at HR HB
  have Hw1 := Lib.hid hw1
  clear hb1 hp hl hn hw1
  go_enter Tryz.func88, Tryz.ntmps88
  go_wp2_with fail
  rw [Hw1.out]
  clear hmk
  go_loopg [4, 5, 11] ps.length (fun g _ _ i wx => ∃ kk : Nat, g = ps.length - kk ∧ kk ≤ ps.length ∧ i = .int .i64 (kk : Int) ∧ SumRow wx W.heap.size ps kk ∧ Below W.heap.size W wx)
  case atStart => exact ⟨0, rfl, by omega, rfl, HR.out, HB.out⟩
  case round =>
    obtain ⟨kk, hgk, hk, rfl, hR, hB⟩ := hrel
    have Hg := Lib.hid hgk
    clear hgk
    have hW := HP.out.below hB
    by_cases hlt : kk < ps.length
    · have hq : ps[kk]? = some ps[kk] := List.getElem?_eq_getElem hlt
      generalize hpk : ps[kk] = p at hq
      have hm : p ∈ ps := by rw [← hpk]; exact List.getElem_mem hlt
      obtain ⟨b, off, rfl, hc⟩ := hW.2 (by intro e; simp [e] at hlt)
      have c1 := hc kk p hq
      unfold Part.val at c1
      have h256 := HL.out p hm
      have hok := hW.1 p hm
      rw [h256] at c1
      have r1 : ∀ w, (Instr.slice 27 (.slice p.A 256 p.cap) (some (.int .i64 28)) none none).run Tryz.prog w = .ok (.slice (cutAt p.A p.cap 28) 228 (p.cap - 28)) w := fun w => cut_run1 p.A 256 28 p.cap w (by decide)
      have r2 : ∀ w, (Instr.slice 27 (.slice (cutAt p.A p.cap 28) 228 (p.cap - 28)) none (some (.int .i64 4)) none).run Tryz.prog w = .ok (.slice (cutAt p.A p.cap 28) 4 (p.cap - 28)) w := fun w => cut_low _ 228 4 _ w (by decide) (by have := hok.2.1; omega)
      obtain ⟨⟨v0, c0⟩, f0⟩ := hR.room hlt
      have HZ := Lib.hid (hR.put hq)
      rw [sumPart_val h256] at HZ
      have HB' := Lib.hid (below_grown hB (grown_at (World.grownBy.refl _ (some W.heap.size)) kk (.slice (cutAt p.A p.cap 28) 4 (p.cap - 28))) hB.size (Nat.le_refl _))
      clear hpk hm hc hok hW hq h256 hR hB
      go_wp2_with fail
      go_roundg (ps.length - (kk + 1))
      case measure => rw [Hg.out]; omega
      case rel =>
        have hN := HN.out
        exact ⟨kk + 1, rfl, by omega, by rw [IntWalk.wrap64_in _ (by omega)]; rfl, HZ.out, HB'.out⟩
    · obtain rfl : kk = ps.length := by omega
      have HS := Lib.hid (sum_any (ps.map sumPart) _ ps.length _ (hR.parts (fun p hp => ⟨hW.1 p hp, HL.out p hp⟩)) (by rw [List.length_map]; have := HN.out; omega))
      rw [List.length_map, sumParts_bytes] at HS
      have HB' := Lib.hid hB
      clear hW hR hB
      go_wp2_with fail
      refine HS.out.mono ?_
      rintro r w3 ⟨rfl, b3⟩
      have B3 := Lib.hid (HB'.out.trans (b3.mono HB'.out.size))
      clear b3 HS
      go_wp2_with fail
      go_ret
      exact ⟨rfl, B3.out⟩
end Go.Proofs.YtpdfmpegcejmkaaGreatDoor
namespace Go.Proofs.YtpdfmpegcejmkaaGreatDoor
open Go.RowKit
theorem ofR_len {b : List Int} {n : Int} (h : (ofR b n).2.2 = 0) : b.length = 256 := by
  by_cases hl : b.length = 256
  · exact hl
  · exfalso
    have h1 : (openB b).2 ≠ 0 := by unfold openB; rw [if_pos (.inl hl)]; decide
    have h2 : (asB b 5 n).2 ≠ 0 := by unfold asB; rw [if_pos h1]; exact h1
    unfold ofR at h
    by_cases hn : n < 0
    · rw [if_pos hn] at h; exact absurd h (by decide)
    · rw [if_neg hn, if_pos h2] at h; exact h2 h
/-- The cells of a record. -/
def recCs (e : Ent) (X : Option Addr) (c : Nat) (a : IdentI) : Array Value := #[.int .i64 e.index, .int .i64 e.term, .int .i64 e.kind, .slice X e.body.length c, .int .i64 a.idx, .int .i64 a.term, .int .i64 a.kind]
/-- So many first records of a row are those that blocks tell. -/
structure RecRow (w : World) (G : Nat) (f : Int) (rows : List (List Int)) (k : Nat) : Prop where
  ex : ∃ cs, BlockIs w G 95 cs ∧ cs.size = rows.length * 7 ∧ ∀ (j : Nat) (b : List Int), j < k → rows[j]? = some b → ∃ X c, ∀ i, i < 7 → cs[j * 7 + i]? = (recCs (ofR b (f + j)).1 X c (ofR b (f + j)).2.1)[i]?
section
variable {w w' : World} {G : Nat} {f : Int} {rows : List (List Int)} {k : Nat}
theorem RecRow.below (h : RecRow w G f rows k) (hb : Below w.heap.size w w') : RecRow w' G f rows k := by
  obtain ⟨cs, h1, h2⟩ := h.ex
  exact ⟨cs, h1.below hb h1.lt, h2⟩
theorem RecRow.lt (h : RecRow w G f rows k) : G < w.heap.size := by
  obtain ⟨cs, h1, h2⟩ := h.ex
  exact h1.lt
theorem RecRow.kept {q : Nat} (h : RecRow w G f rows k) (hg : w.grownBy w' (some q)) (hq : G ≠ q) : RecRow w' G f rows k := by
  obtain ⟨cs, h1, h2⟩ := h.ex
  exact ⟨cs, h1.kept hg (fun e => hq (Option.some.inj e)), h2⟩
/-- What there is to store into. -/
theorem RecRow.room (h : RecRow w G f rows k) {q : Nat} (hq : q < rows.length * 7) : (∃ v, w.cell? ⟨G, q, none⟩ = some v) ∧ w.frozen? ⟨G, q, none⟩ = false := by
  obtain ⟨cs, h1, h2, _⟩ := h.ex
  exact ⟨⟨cs[q]'(by omega), by rw [h1.cell]; exact Array.getElem?_eq_getElem (by omega)⟩, h1.free q⟩
theorem RecRow.at (h : RecRow w G f rows k) {j : Nat} {b : List Int} (hj : j < k) (hb : rows[j]? = some b) : ∃ X c, ∀ i, i < 7 → w.cell? ⟨G, j * 7 + i, none⟩ = (recCs (ofR b (f + j)).1 X c (ofR b (f + j)).2.1)[i]? := by
  obtain ⟨cs, h1, h2, h3⟩ := h.ex
  obtain ⟨X, c, h4⟩ := h3 j b hj hb
  exact ⟨X, c, fun i hi => by rw [h1.cell]; exact h4 i hi⟩
theorem RecRow.tell (h : RecRow w G f rows k) {j : Nat} (hj : j < k) (hb : j < rows.length) : ∃ X c, ∀ i, i < 7 → w.cell? ⟨G, j * 7 + i, none⟩ = (recCs (tellAt f rows j).1 X c (tellAt f rows j).2)[i]? := by
  have hg : rows[j]? = some (rows.getD j []) := by rw [List.getD_eq_getElem?_getD, List.getElem?_eq_getElem hb]; rfl
  exact h.at hj hg
end
/-- Seven cells are stored. -/
def put7 (w : World) (G q : Nat) (a b c d e f g : Value) : World :=
  ((((((w.setCell ⟨G, q, none⟩ a).setCell ⟨G, q + 1, none⟩ b).setCell ⟨G, q + 2, none⟩ c).setCell ⟨G, q + 3, none⟩ d).setCell ⟨G, q + 4, none⟩ e).setCell ⟨G, q + 5, none⟩ f).setCell ⟨G, q + 6, none⟩ g
theorem put7_grown (w : World) (G q : Nat) (a b c d e f g : Value) : w.grownBy (put7 w G q a b c d e f g) (some G) := by
  unfold put7
  exact grown_at (grown_at (grown_at (grown_at (grown_at (grown_at (grown_at (World.grownBy.refl w (some G)) _ _) _ _) _ _) _ _) _ _) _ _) _ _
theorem RecRow.put {w : World} {G : Nat} {f : Int} {rows : List (List Int)} {k : Nat} (h : RecRow w G f rows k) {b : List Int} (hb : rows[k]? = some b) (X : Option Addr) (c : Nat) :
    RecRow (put7 w G (k * 7) (.int .i64 (ofR b (f + k)).1.index) (.int .i64 (ofR b (f + k)).1.term) (.int .i64 (ofR b (f + k)).1.kind) (.slice X (ofR b (f + k)).1.body.length c) (.int .i64 (ofR b (f + k)).2.1.idx) (.int .i64 (ofR b (f + k)).2.1.term) (.int .i64 (ofR b (f + k)).2.1.kind)) G f rows (k + 1) := by
  obtain ⟨cs, h1, h2, h3⟩ := h.ex
  have hk : k < rows.length := (List.getElem?_eq_some_iff.1 hb).1
  refine ⟨((((((cs.setIfInBounds (k * 7) (.int .i64 (ofR b (f + k)).1.index)).setIfInBounds (k * 7 + 1) (.int .i64 (ofR b (f + k)).1.term)).setIfInBounds (k * 7 + 2) (.int .i64 (ofR b (f + k)).1.kind)).setIfInBounds (k * 7 + 3) (.slice X (ofR b (f + k)).1.body.length c)).setIfInBounds (k * 7 + 4) (.int .i64 (ofR b (f + k)).2.1.idx)).setIfInBounds (k * 7 + 5) (.int .i64 (ofR b (f + k)).2.1.term)).setIfInBounds (k * 7 + 6) (.int .i64 (ofR b (f + k)).2.1.kind), ?_, by simp [h2], fun j b' hj hb' => ?_⟩
  · unfold put7
    exact ((((((h1.set1 _ _).set1 _ _).set1 _ _).set1 _ _).set1 _ _).set1 _ _).set1 _ _
  · by_cases hjk : j = k
    · subst hjk
      obtain rfl : b = b' := Option.some.inj (hb.symm.trans hb')
      refine ⟨X, c, fun i hi => ?_⟩
      have hi' : i = 0 ∨ i = 1 ∨ i = 2 ∨ i = 3 ∨ i = 4 ∨ i = 5 ∨ i = 6 := by omega
      unfold recCs
      rcases hi' with rfl | rfl | rfl | rfl | rfl | rfl | rfl <;> simp [Array.getElem?_setIfInBounds, h2] <;> omega
    · obtain ⟨X', c', h4⟩ := h3 j b' (by omega) hb'
      refine ⟨X', c', fun i hi => ?_⟩
      rw [← h4 i hi]
      simp only [Array.getElem?_setIfInBounds]
      rw [if_neg (by omega), if_neg (by omega), if_neg (by omega), if_neg (by omega), if_neg (by omega), if_neg (by omega), if_neg (by omega)]
theorem cells_five8 {w : World} {p : Nat} {a b c g f : Int} (h : BlockIs w p 73 (segC a b c g f)) : w.cell? ⟨p, 0, none⟩ = some (.int .i64 a) ∧ w.cell? ⟨p, 1, none⟩ = some (.int .i64 b) ∧ w.cell? ⟨p, 2, none⟩ = some (.int .i64 c) ∧ w.cell? ⟨p, 3, none⟩ = some (.int .i64 g) ∧ w.cell? ⟨p, 4, none⟩ = some (.int .i64 f) :=
  ⟨h.cell 0, h.cell 1, h.cell 2, h.cell 3, h.cell 4⟩
theorem infoRec : (Tryz.prog.info? 95).map (fun i => (i.zero, i.size, decide (i.bytes ≤ 1000))) = some (some (.agg zero7), 7, true) := by kernel_rfl
theorem make_recs (n : Nat) (hn : n ≤ 1000000) (w : World) : (Instr.makeSlice 127 (.int .i64 (n : Int)) (.int .i64 (n : Int))).run Tryz.prog w = .ok (.slice (some ⟨w.heap.size, 0, none⟩) n n) (w.alloc (.cells (madeCells zero7 (n * 7)) 95)) := by
  obtain ⟨i, hi, hzz⟩ := Option.map_eq_some_iff.1 infoRec
  simp only [Prod.mk.injEq, decide_eq_true_eq] at hzz
  obtain ⟨hz, hs, hb⟩ := hzz
  have hb' : (i.bytes : Int) * (n : Int) ≤ 281474976710656 := by
    have h : i.bytes * n ≤ 1000 * 1000000 := Nat.mul_le_mul hb hn
    have h2 : ((i.bytes * n : Nat) : Int) ≤ 281474976710656 := by omega
    rwa [Int.natCast_mul] at h2
  have hr := run_make (P := Tryz.prog) w 127 95 i (.agg zero7) Tryz.underlying127 hi hz .i64 .i64 n n (by omega) (Int.le_refl _) hb' (by omega)
  simp only [Int.toNat_natCast, hs] at hr
  exact hr
theorem RecRow.made (w : World) (f : Int) (rows : List (List Int)) : RecRow (w.alloc (.cells (madeCells zero7 (rows.length * 7)) 95)) w.heap.size f rows 0 :=
  ⟨_, BlockIs.made w _ _, by rw [size_madeCells], fun j _ hj => absurd hj (by omega)⟩
set_option maxRecDepth 100000 in
set_option maxHeartbeats 8000000 in
theorem grecs_any (σ : Sen) (τ : SenU) (ρ : SenQ) (W : World) (hC : GlAt σ W) (hU : GlU τ W) (hQ : GlQ ρ W) (a b c g f : Int) (A : Option Addr) (ps : List Part) (k : Nat) (hp : PartsAt W A ps) (hn : ps.length ≤ 1000000) (hf : 0 ≤ f) (hf2 : f ≤ 1099511627776 * 64) :
    Calls Tryz.prog 87 #[.agg (segC a b c g f), .slice A ps.length k] W fun r w' =>
      (((∀ (j : Nat) (x : List Int), (rowsP ps)[j]? = some x → (ofR x (f + j)).2.2 = 0) ∧ ∃ G, r = .returned (.slice (some ⟨G, 0, none⟩) ps.length ps.length) ∧ W.heap.size ≤ G ∧ RecRow w' G f (rowsP ps) ps.length) ∨
      (∃ n, entsR f (rowsP ps) = .error n ∧ n ≠ 0 ∧ Faults ρ n r)) ∧ Below W.heap.size W w' := by
  have hmk := make_recs ps.length hn
  have hb1 := below_new W (.cells (segC a b c g f) 73)
  have hB := BlockIs.made W 73 (segC a b c g f)
  have HS := Lib.hid (show (W.alloc (.cells (segC a b c g f) 73)).heap.size = W.heap.size + 1 by simp)
  obtain ⟨w1, hw1⟩ : ∃ w1, W.alloc (.cells (segC a b c g f) 73) = w1 := ⟨_, rfl⟩
  rw [hw1] at hb1 hB HS
  have hb2 := below_new w1 (.cells (madeCells zero7 (ps.length * 7)) 95)
  have HR2 : Hid (RecRow (w1.alloc (.cells (madeCells zero7 (ps.length * 7)) 95)) w1.heap.size f (rowsP ps) 0) := Lib.hid (by have h := RecRow.made w1 f (rowsP ps); rw [rowsP_len] at h; exact h)
  have HB2 := Lib.hid (hB.below hb2 hB.lt)
  have HW2 := Lib.hid (hb1.trans (hb2.mono hb1.size))
  have HG := Lib.hid (show ∀ w, Below W.heap.size W w → GlAt σ w ∧ GlU τ w ∧ GlQ ρ w ∧ PartsAt w A ps from fun w h => ⟨hC.below h, hU.below h, hQ.below h, hp.below h⟩)
  have HN := Lib.hid (And.intro hn (And.intro hf hf2))
  have Hw1 := Lib.hid hw1
  clear hC hU hQ hp hb1 hB hb2 hw1
  unfold segC at *
  go_enter Tryz.func87, Tryz.ntmps87
  go_wp2_with fail
  rw [Hw1.out]
  clear hmk
  have hs1 := HS.out
  obtain ⟨G, hG⟩ : ∃ G, w1.heap.size = G := ⟨_, rfl⟩
  rw [hG] at HR2
  have hG' : W.heap.size + 1 = G := by omega
  rw [hG']
  have HGl := Lib.hid hG'
  obtain ⟨w2, hw2⟩ : ∃ w2, w1.alloc (.cells (madeCells zero7 (ps.length * 7)) 95) = w2 := ⟨_, rfl⟩
  rw [hw2] at HR2 HB2 HW2 ⊢
  clear hw2 hs1 hG hG'
  go_loopg [6, 7, 13] ps.length (fun gg _ _ i wx => ∃ kk : Nat, gg = ps.length - kk ∧ kk ≤ ps.length ∧ i = .int .i64 (kk : Int) ∧ RecRow wx G f (rowsP ps) kk ∧ BlockIs wx W.heap.size 73 #[.int .i64 a, .int .i64 b, .int .i64 c, .int .i64 g, .int .i64 f] ∧ Below W.heap.size W wx ∧ (∀ (j : Nat) (x : List Int), j < kk → (rowsP ps)[j]? = some x → (ofR x (f + j)).2.2 = 0))
  case atStart => exact ⟨0, rfl, by omega, rfl, HR2.out, HB2.out, HW2.out, fun j _ hj => absurd hj (by omega)⟩
  case round =>
    obtain ⟨kk, hgk, hk, rfl, hR, hBx, hB, hok⟩ := hrel
    have Hg := Lib.hid hgk
    have HOk := Lib.hid hok
    clear hgk hok
    obtain ⟨gC, gU, gQ, hW⟩ := HG.out _ hB
    have hN := HN.out
    by_cases hlt : kk < ps.length
    · have hq : ps[kk]? = some ps[kk] := List.getElem?_eq_getElem hlt
      generalize hpk : ps[kk] = p at hq
      have hm : p ∈ ps := by rw [← hpk]; exact List.getElem_mem hlt
      obtain ⟨bb, off, rfl, hc⟩ := hW.2 (by intro e; simp [e] at hlt)
      have c1 := hc kk p hq
      unfold Part.val at c1
      have hpo := hW.1 p hm
      obtain ⟨_, _, _, _, d4⟩ := cells_five8 hBx
      have HRo := Lib.hid (grecOf_any σ τ ρ _ gC gU gQ p.A p.zs p.cap hpo.1 hpo.2.1 hpo.2.2 (f + kk) (by omega))
      have HK := Lib.hid (And.intro hR (And.intro hBx hB))
      have Hq := Lib.hid (rowsP_get hq)
      obtain ⟨pz, hpz⟩ : ∃ pz, p.zs = pz := ⟨_, rfl⟩
      rw [hpz] at HRo c1 Hq
      obtain ⟨fv, fe1, fe2⟩ : ∃ fv : Int, fv = f ∧ 0 ≤ fv ∧ fv ≤ 70368744177664 := ⟨f, rfl, by omega, by omega⟩
      clear hpk hm hc hpo hW hq hpz gC gU gQ hBx hR hB
      go_wp2_with fail
      refine HRo.out.mono ?_
      rintro r w3 ⟨⟨h0, v, rfl, hp⟩ | ⟨h0, n', v', rfl, hv⟩, b3⟩
      · obtain ⟨X, cx, rfl, _, _⟩ := hp.reads
        have R3 := HK.out.1.below b3
        have hlr : kk < (rowsP ps).length := by rw [rowsP_len]; exact hlt
        obtain ⟨⟨v0, m0⟩, f0⟩ := R3.room (q := kk * 7) (by omega)
        obtain ⟨⟨v1, m1⟩, f1⟩ := R3.room (q := kk * 7 + 1) (by omega)
        obtain ⟨⟨v2, m2⟩, f2⟩ := R3.room (q := kk * 7 + 2) (by omega)
        obtain ⟨⟨v3, m3⟩, f3⟩ := R3.room (q := kk * 7 + 3) (by omega)
        obtain ⟨⟨v4, m4⟩, f4⟩ := R3.room (q := kk * 7 + 4) (by omega)
        obtain ⟨⟨v5, m5⟩, f5⟩ := R3.room (q := kk * 7 + 5) (by omega)
        obtain ⟨⟨v6, m6⟩, f6⟩ := R3.room (q := kk * 7 + 6) (by omega)
        go_wp2_with fail
        clear m0 m1 m2 m3 m4 m5 m6 f0 f1 f2 f3 f4 f5 f6
        have HP := Lib.hid (R3.put Hq.out X cx)
        have hgr := put7_grown w3 G (kk * 7) (.int .i64 (ofR pz (f + kk)).1.index) (.int .i64 (ofR pz (f + kk)).1.term) (.int .i64 (ofR pz (f + kk)).1.kind) (.slice X (ofR pz (f + kk)).1.body.length cx) (.int .i64 (ofR pz (f + kk)).2.1.idx) (.int .i64 (ofR pz (f + kk)).2.1.term) (.int .i64 (ofR pz (f + kk)).2.1.kind)
        have hWG := HGl.out
        have HBx' := Lib.hid ((HK.out.2.1.below b3 HK.out.2.1.lt).kept hgr (fun e => by have := Option.some.inj e; omega))
        have hb3 := HK.out.2.2.trans (b3.mono HK.out.2.2.size)
        have HB' := Lib.hid (below_grown hb3 hgr hb3.size (by omega))
        go_roundg (ps.length - (kk + 1))
        case measure => rw [Hg.out]; omega
        case rel =>
          refine ⟨kk + 1, rfl, by omega, rfl, HP.out, HBx'.out, HB'.out, fun j x hj hx => ?_⟩
          by_cases hjk : j = kk
          · subst hjk
            obtain rfl : pz = x := Option.some.inj (Hq.out.symm.trans hx)
            exact h0
          · exact HOk.out j x (by omega) hx
      · exact ⟨rfl, .inr ⟨_, ents_err _ f kk pz Hq.out (fun j b' hj hb' => HOk.out j b' hj hb') h0, h0, ⟨n', v', rfl, hv⟩⟩, HK.out.2.2.trans (b3.mono HK.out.2.2.size)⟩
    · obtain rfl : kk = ps.length := by omega
      have HFin := Lib.hid (And.intro hR (And.intro hB HOk.out))
      have hWG := HGl.out
      clear gC gU gQ hW hBx hR hB
      go_wp2_with fail
      go_ret
      exact ⟨.inl ⟨fun j x hx => HFin.out.2.2 j x (by have := (List.getElem?_eq_some_iff.1 hx).1; rwa [rowsP_len] at this) hx, G, rfl, by omega, HFin.out.1⟩, HFin.out.2.1⟩
end Go.Proofs.YtpdfmpegcejmkaaGreatDoor
namespace Go.Proofs.YtpdfmpegcejmkaaGreatDoor
open Go.RowKit
def u8L (bs : List Int) : List UInt8 := bs.map fun z => UInt8.ofNat z.toNat
theorem u8L_back {bs : List Int} (hb : ∀ z ∈ bs, 0 ≤ z ∧ z < 256) : (u8L bs).map (fun c => (c.toNat : Int)) = bs := by
  unfold u8L
  rw [List.map_map]
  conv => rhs; rw [← List.map_id bs]
  refine List.map_congr_left fun z hz => ?_
  have := hb z hz
  show ((UInt8.ofNat z.toNat).toNat : Int) = z
  rw [UInt8.toNat_ofNat']
  omega
theorem u8L_inj {xs ys : List Int} (hx : ∀ z ∈ xs, 0 ≤ z ∧ z < 256) (hy : ∀ z ∈ ys, 0 ≤ z ∧ z < 256) : u8L xs = u8L ys ↔ xs = ys :=
  ⟨fun h => by rw [← u8L_back hx, ← u8L_back hy, h], fun h => by rw [h]⟩
theorem conv_bytes {w : World} {A : Option Addr} {bs : List Int} (c : Nat) (hz : BytesAt w A bs) : (convert 27 9 (.slice A bs.length c)).run Tryz.prog w = .ok (.string ⟨(u8L bs).toArray⟩) w := by
  cases A with
  | none =>
    have hnil : bs = [] := Classical.byContradiction fun hne => by
      obtain ⟨b, off, e⟩ := hz.some_ hne
      cases e
    subst hnil
    exact Lib.run_convert_nil_bytes w _ _ _ c Tryz.underlying27 Tryz.underlying5 Tryz.underlying9
  | some a =>
    have hl : (u8L bs).length = bs.length := by unfold u8L; rw [List.length_map]
    have h := run_convert_bytes_back (P := Tryz.prog) w 27 9 5 a c (u8L bs) Tryz.underlying27 Tryz.underlying5 Tryz.underlying9 (fun j hj => by
      rw [hl] at hj
      have hne : bs ≠ [] := by rintro rfl; exact absurd hj (Nat.not_lt_zero _)
      obtain ⟨b, off, e, hc⟩ := hz.2 hne
      obtain rfl := Option.some.inj e
      have hadd : (⟨b, off, none⟩ : Addr).add j = ⟨b, off + j, none⟩ := by unfold Addr.add; split <;> simp_all
      rw [hadd, hc j hj]
      have hb := hz.1 bs[j] (List.getElem_mem hj)
      have hu : (u8L bs)[j] = UInt8.ofNat (bs[j]).toNat := by simp [u8L]
      rw [hu, List.getD_eq_getElem?_getD, List.getElem?_eq_getElem hj, UInt8.toNat_ofNat']
      simp only [Option.getD_some, Option.some.injEq, Value.int.injEq, true_and]
      omega)
    rw [hl] at h
    exact h
theorem str_eq {xs ys : List Int} (hx : ∀ z ∈ xs, 0 ≤ z ∧ z < 256) (hy : ∀ z ∈ ys, 0 ≤ z ∧ z < 256) : ((⟨(u8L xs).toArray⟩ : ByteArray) = ⟨(u8L ys).toArray⟩) ↔ xs = ys := by
  rw [← u8L_inj hx hy]
  constructor
  · intro h
    have h1 : (u8L xs).toArray = (u8L ys).toArray := by injection h
    simpa using h1
  · intro h; rw [h]
set_option maxRecDepth 100000 in
set_option maxHeartbeats 1000000 in
theorem bytesEqual_any (w : World) (A B : Option Addr) (xs ys : List Int) (c d : Nat) (hx : BytesAt w A xs) (hy : BytesAt w B ys) :
    Calls Tryz.prog 90 #[.slice A xs.length c, .slice B ys.length d] w fun e w' => e = .returned (.bool (decide (xs = ys))) ∧ w = w' := by
  have h1 := conv_bytes c hx
  have h2 := conv_bytes d hy
  have Hs : Hid (((⟨(u8L xs).toArray⟩ : ByteArray).toList == (⟨(u8L ys).toArray⟩ : ByteArray).toList) = decide (xs = ys)) := Lib.hid (by
    rw [ByteArray.toList_eq, ByteArray.toList_eq, Bool.eq_iff_iff, beq_iff_eq, decide_eq_true_eq, ← u8L_inj hx.1 hy.1])
  clear hx hy
  generalize (⟨(u8L xs).toArray⟩ : ByteArray) = s1 at *
  generalize (⟨(u8L ys).toArray⟩ : ByteArray) = s2 at *
  go_enter Tryz.func90, Tryz.ntmps90
  go_wp2_with fail
  go_ret
  exact ⟨ret_bool Hs.out, rfl⟩
end Go.Proofs.YtpdfmpegcejmkaaGreatDoor
