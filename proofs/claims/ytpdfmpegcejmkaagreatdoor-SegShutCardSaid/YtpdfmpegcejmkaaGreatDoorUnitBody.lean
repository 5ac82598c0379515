/- A block's reader: three fields behind the sum. -/
/- A block's body. -/
import Derived.Test.YtpdfmpegcejmkaaGreatDoorUnitFields
import Derived.LoopN
import Derived.Test.YtpdfmpegcejmkaaGreatDoorUnitReader
namespace Go.Proofs.YtpdfmpegcejmkaaGreatDoor
open Go.RowKit
theorem made3 (w : World) : (Instr.makeSlice 48 (.int .i64 3) (.int .i64 3)).run Tryz.prog w = .ok (.slice (some ⟨w.heap.size, 0, none⟩) 3 3) (w.alloc (.cells #[.int .i64 0, .int .i64 0, .int .i64 0] 3)) := by
  obtain ⟨i0, hi, hz0, hz1, hz2⟩ := info_parts infoInt
  have := run_make (P := Tryz.prog) w 48 3 i0 (.int .i64 0) Tryz.underlying48 hi hz0 .i64 .i64 3 3 (by decide) (by decide) (by rw [hz2]; decide) (by decide)
  rw [this]
  have h : madeCells (Value.int .i64 0).cells ((3 : Int).toNat * i0.size) = #[.int .i64 0, .int .i64 0, .int .i64 0] := by rw [hz1]; kernel_rfl
  rw [h]; rfl
/-- What lies ahead of the reader and is none of its bytes' may turn. -/
theorem RdAt.older {σ : Sen} {w w' : World} {g p : Nat} {bs : List Int} {s : RSt} (h : RdAt σ w g bs s) (hg : w.grownBy w' (some p)) (hp : p ≠ g) (hx : ∀ x cap k ev a, RdIs σ w g bs s x cap k ev → x = some a → a.block ≠ p) : RdAt σ w' g bs s := by
  obtain ⟨x, cap, k, ev, h⟩ := h
  exact ⟨x, cap, k, ev, h.kept hg (fun e => hp (Option.some.inj e).symm) (fun a ha e => hx x cap k ev a h ha (Option.some.inj e))⟩
theorem OpW.fieldG {σ : Sen} {τ : SenU} {w0 w w' : World} {p g b0 off c : Nat} {b : List Int} {s : RSt} (k : OpW σ w w' p g b0 off c b s) (E : OpE σ τ w0 w g b0 off c b) (hp : p ≠ g) (wd : Int) :
    Calls Tryz.prog 83 #[.pointer (some ⟨g, 0, none⟩), .int .i64 wd] w' fun e w2 => e = .returned (.int .i64 (fieldR (hdB b) wd s).1) ∧ OpW σ w w2 p g b0 off c b (fieldR (hdB b) wd s).2 ∧ w'.grownBy w2 (some g) := by
  refine (rfield_any σ w0 w' g (hdB b) s wd k.rd (k.envAt E).f (by rw [hdB_len E.len]; decide)).mono ?_
  rintro e w2 ⟨rfl, hG⟩
  exact ⟨rfl, ⟨hG.rd, k.bx.kept hG.fr (fun e => hp (Option.some.inj e)), k.fr.trans hG.fr⟩, hG.fr⟩
theorem OpW.set {σ : Sen} {w w' : World} {p g b0 off c y i : Nat} {b : List Int} {s : RSt} {v : Value} (k : OpW σ w w' p g b0 off c b s) (hy : w.heap.size ≤ y) (hyp : y ≠ p) (hyg : y ≠ g) (hx : ∀ x cap k ev a, RdIs σ w' g (hdB b) s x cap k ev → x = some a → a.block ≠ y) : OpW σ w (w'.setCell ⟨y, i, none⟩ v) p g b0 off c b s := by
  have hg := grown_at (World.grownBy.refl w' (some y)) i v
  exact ⟨RdAt.older k.rd hg hyg hx, k.bx.kept hg (fun e => hyp (Option.some.inj e).symm), k.fr.andThen hg (fun b e => by cases e; exact .inl hy)⟩
set_option maxRecDepth 100000 in
set_option maxHeartbeats 8000000 in
theorem three_any {σ : Sen} {τ : SenU} {w0 w : World} {g b0 off c x : Nat} {b : List Int} {s : RSt} (E : OpE σ τ w0 w g b0 off c b) (hr : RdAt σ w g (hdB b) s) (hgl : g < w.heap.size) (hxg : x ≠ g) (hx : BlockIs w x 3 #[.int .i64 1, .int .i64 6, .int .i64 1]) :
    Calls Tryz.prog 176 #[.agg #[.pointer (some ⟨g, 0, none⟩), .slice (some ⟨b0, off, none⟩) 256 c], .slice (some ⟨x, 0, none⟩) 3 3] w fun e w' => e = .returned (.slice (some ⟨w.heap.size + 1, 0, none⟩) 3 3) ∧
      BlockIs w' (w.heap.size + 1) 3 #[.int .i64 (fieldR (hdB b) 1 s).1, .int .i64 (fieldR (hdB b) 6 (fieldR (hdB b) 1 s).2).1, .int .i64 (fieldR (hdB b) 1 (fieldR (hdB b) 6 (fieldR (hdB b) 1 s).2).2).1] ∧
      RdAt σ w' g (hdB b) (fieldR (hdB b) 1 (fieldR (hdB b) 6 (fieldR (hdB b) 1 s).2).2).2 ∧ w.grownBy w' (some g) := by
  have hmk := made3
  have hbn := below_new w (.cells #[.pointer (some ⟨g, 0, none⟩), .slice (some ⟨b0, off, none⟩) 256 c] 273)
  have hB := BlockIs.made w 273 #[.pointer (some ⟨g, 0, none⟩), .slice (some ⟨b0, off, none⟩) 256 c]
  have hb2 := hbn.alloc hbn.size (.cells #[.int .i64 0, .int .i64 0, .int .i64 0] 3)
  have hR0 := BlockIs.made (w.alloc (.cells #[.pointer (some ⟨g, 0, none⟩), .slice (some ⟨b0, off, none⟩) 256 c] 273)) 3 #[.int .i64 0, .int .i64 0, .int .i64 0]
  rw [World.size_alloc] at hR0
  have hpg : w.heap.size ≠ g := by omega
  have hyg : w.heap.size + 1 ≠ g := by omega
  have HN := Lib.hid (And.intro hpg (And.intro hyg hxg))
  obtain ⟨w2, hw2⟩ : ∃ w2, (w.alloc (.cells #[.pointer (some ⟨g, 0, none⟩), .slice (some ⟨b0, off, none⟩) 256 c] 273)).alloc (.cells #[.int .i64 0, .int .i64 0, .int .i64 0] 3) = w2 := ⟨_, rfl⟩
  have hB2 := hB.below (below_new _ (.cells #[.int .i64 0, .int .i64 0, .int .i64 0] 3)) hB.lt
  rw [hw2] at hb2 hR0 hB2
  have K2 : Hid (OpW σ w w2 w.heap.size g b0 off c b s) := Lib.hid ⟨hr.below hb2, hB2, grown_below hb2 _⟩
  have R2 := Lib.hid hR0
  have X2 := Lib.hid (hx.below hb2 hx.lt)
  have HE := Lib.hid E
  have Hw2 := Lib.hid hw2
  have Hx := Lib.hid hx.lt
  have HS : Hid (∀ (w' : World) (s : RSt) (n : Int) (i : Nat), OpW σ w w' w.heap.size g b0 off c b s → OpW σ w (w'.setCell ⟨w.heap.size + 1, i, none⟩ (.int .i64 n)) w.heap.size g b0 off c b s) := Lib.hid (fun w' s n i k => k.set (by omega) (by omega) hyg (fun x cap k' ev a hI ha => by have := hI.off a ha; omega))
  have HF := Lib.hid (fun (w' : World) (s : RSt) (wd : Int) (k : OpW σ w w' w.heap.size g b0 off c b s) => k.fieldG E hpg wd)
  clear hr hbn hB hb2 hR0 hB2 hw2 E hx hpg hyg hxg
  obtain ⟨r1, h1⟩ : ∃ r, fieldR (hdB b) 1 s = r := ⟨_, rfl⟩
  obtain ⟨r2, h2⟩ : ∃ r, fieldR (hdB b) 6 r1.2 = r := ⟨_, rfl⟩
  obtain ⟨r3, h3⟩ : ∃ r, fieldR (hdB b) 1 r2.2 = r := ⟨_, rfl⟩
  rw [h1, h2, h3]
  have H1 := Lib.hid h1
  have H2 := Lib.hid h2
  have H3 := Lib.hid h3
  clear h1 h2 h3
  go_enter Tryz.func176, Tryz.ntmps176
  go_wp2_with fail
  rw [Hw2.out]
  refine wp_loop_rounds 4 ?_
  rw [rounds_succ]
  have x0 := X2.out.cell 0
  have p0 := K2.out.cells.1
  simp only [List.getElem?_toArray, List.getElem?_cons_zero] at x0
  go_wp2_with fail
  refine (HF.out w2 s 1 K2.out).mono ?_
  rw [H1.out]
  rintro e w0a ⟨rfl, k, hg⟩
  clear x0 p0
  have Ra0 := Lib.hid (R2.out.kept hg (fun e => HN.out.2.1 (Option.some.inj e)))
  have Xa0 := Lib.hid (X2.out.kept hg (fun e => HN.out.2.2 (Option.some.inj e)))
  have q0 := Ra0.out.cell 0
  have f0 := Ra0.out.free 0
  simp only [List.getElem?_toArray, List.getElem?_cons_zero] at q0
  have K3 := Lib.hid (HS.out w0a r1.2 r1.1 0 k)
  have R3 : Hid (BlockIs (w0a.setCell ⟨w.heap.size + 1, 0, none⟩ (.int .i64 r1.1)) (w.heap.size + 1) 3 #[.int .i64 r1.1, .int .i64 0, .int .i64 0]) := Lib.hid (Ra0.out.set1 0 (.int .i64 r1.1))
  have X3 := Lib.hid (Xa0.out.kept (grown_at (World.grownBy.refl w0a (some (w.heap.size + 1))) 0 (.int .i64 r1.1)) (fun e => by have := Option.some.inj e; have := Hx.out; omega))
  clear k hg Ra0 Xa0 K2 R2 X2
  go_wp2_with fail
  clear q0 f0
  generalize w0a.setCell ⟨w.heap.size + 1, 0, none⟩ (.int .i64 r1.1) = w3 at *
  rw [rounds_succ]
  have x1 := X3.out.cell 1
  have p1 := K3.out.cells.1
  simp only [List.getElem?_toArray, List.getElem?_cons_zero, List.getElem?_cons_succ] at x1
  go_wp2_with fail
  refine (HF.out w3 r1.2 6 K3.out).mono ?_
  rw [H2.out]
  rintro e w1a ⟨rfl, k, hg⟩
  clear x1 p1
  have Ra1 := Lib.hid (R3.out.kept hg (fun e => HN.out.2.1 (Option.some.inj e)))
  have Xa1 := Lib.hid (X3.out.kept hg (fun e => HN.out.2.2 (Option.some.inj e)))
  have q1 := Ra1.out.cell 1
  have f1 := Ra1.out.free 1
  simp only [List.getElem?_toArray, List.getElem?_cons_zero, List.getElem?_cons_succ] at q1
  have K4 := Lib.hid (HS.out w1a r2.2 r2.1 1 k)
  have R4 : Hid (BlockIs (w1a.setCell ⟨w.heap.size + 1, 1, none⟩ (.int .i64 r2.1)) (w.heap.size + 1) 3 #[.int .i64 r1.1, .int .i64 r2.1, .int .i64 0]) := Lib.hid (Ra1.out.set1 1 (.int .i64 r2.1))
  have X4 := Lib.hid (Xa1.out.kept (grown_at (World.grownBy.refl w1a (some (w.heap.size + 1))) 1 (.int .i64 r2.1)) (fun e => by have := Option.some.inj e; have := Hx.out; omega))
  clear k hg Ra1 Xa1 K3 R3 X3
  go_wp2_with fail
  clear q1 f1
  generalize w1a.setCell ⟨w.heap.size + 1, 1, none⟩ (.int .i64 r2.1) = w4 at *
  rw [rounds_succ]
  have x2 := X4.out.cell 2
  have p2 := K4.out.cells.1
  simp only [List.getElem?_toArray, List.getElem?_cons_zero, List.getElem?_cons_succ] at x2
  go_wp2_with fail
  refine (HF.out w4 r2.2 1 K4.out).mono ?_
  rw [H3.out]
  rintro e w2a ⟨rfl, k, hg⟩
  clear x2 p2
  have Ra2 := Lib.hid (R4.out.kept hg (fun e => HN.out.2.1 (Option.some.inj e)))
  have Xa2 := Lib.hid (X4.out.kept hg (fun e => HN.out.2.2 (Option.some.inj e)))
  have q2 := Ra2.out.cell 2
  have f2 := Ra2.out.free 2
  simp only [List.getElem?_toArray, List.getElem?_cons_zero, List.getElem?_cons_succ] at q2
  have K5 := Lib.hid (HS.out w2a r3.2 r3.1 2 k)
  have R5 : Hid (BlockIs (w2a.setCell ⟨w.heap.size + 1, 2, none⟩ (.int .i64 r3.1)) (w.heap.size + 1) 3 #[.int .i64 r1.1, .int .i64 r2.1, .int .i64 r3.1]) := Lib.hid (Ra2.out.set1 2 (.int .i64 r3.1))
  have X5 := Lib.hid (Xa2.out.kept (grown_at (World.grownBy.refl w2a (some (w.heap.size + 1))) 2 (.int .i64 r3.1)) (fun e => by have := Option.some.inj e; have := Hx.out; omega))
  clear k hg Ra2 Xa2 K4 R4 X4
  go_wp2_with fail
  clear q2 f2
  generalize w2a.setCell ⟨w.heap.size + 1, 2, none⟩ (.int .i64 r3.1) = w5 at *
  rw [rounds_succ]
  go_wp2_with fail
  go_ret
  exact ⟨rfl, R5.out, K5.out.rd, K5.out.fr⟩
end Go.Proofs.YtpdfmpegcejmkaaGreatDoor
namespace Go.Proofs.YtpdfmpegcejmkaaGreatDoor
open Go.RowKit
def bodyB (b : List Int) (many : Nat) : List Int := (b.drop 8).take (min many 20) ++ (b.drop 36).take (many - 20)
theorem bodyB_len {b : List Int} (hl : b.length = 256) {many : Nat} (hm : many ≤ 239) : (bodyB b many).length = many := by
  unfold bodyB
  rw [List.length_append, List.length_take, List.length_take, List.length_drop, List.length_drop, hl]; omega
theorem bodyB_bd {b : List Int} (hb : ∀ z ∈ b, 0 ≤ z ∧ z < 256) (many : Nat) : ∀ z ∈ bodyB b many, 0 ≤ z ∧ z < 256 := by
  intro z hz
  unfold bodyB at hz
  rcases List.mem_append.1 hz with h | h
  · exact hb z (List.mem_of_mem_drop (List.mem_of_mem_take h))
  · exact hb z (List.mem_of_mem_drop (List.mem_of_mem_take h))
theorem concatBody (w : World) (b0 off : Nat) (b : List Int) (c many : Nat) (hb : BytesAt w (some ⟨b0, off, none⟩) b) (hl : b.length = 256) (hc : 256 ≤ c) (hm : c ≤ 9223372036854775807) (hmany : many ≤ 239) :
    Calls Tryz.prog 142 #[.slice (some ⟨w.heap.size, 0, none⟩) 2 2] (w.alloc (.cells #[.slice (some ⟨b0, off + 8, none⟩) (min many 20) (c - 8), .slice (some ⟨b0, off + 36, none⟩) (many - 20) (c - 36)] 27)) fun e w' => ∃ v, e = .returned v ∧ w'.ownsRow w.heap.size 5 1 v many (u8s (bodyB b many)) ∧ Below w.heap.size w w' := by
  have hbn := below_new w (.cells #[.slice (some ⟨b0, off + 8, none⟩) (min many 20) (c - 8), .slice (some ⟨b0, off + 36, none⟩) (many - 20) (c - 36)] 27)
  obtain ⟨r0, r1⟩ := row2_cells w (.slice (some ⟨b0, off + 8, none⟩) (min many 20) (c - 8)) (.slice (some ⟨b0, off + 36, none⟩) (many - 20) (c - 36)) 27
  have l4 : ((b.drop 8).take (min many 20)).length = min many 20 := by rw [List.length_take, List.length_drop, hl]; omega
  have l8 : ((b.drop 36).take (many - 20)).length = many - 20 := by rw [List.length_take, List.length_drop, hl]; omega
  have hB := hb.below hbn
  have hcut := cut_reads (k := 8) hB (show b.length ≤ c by omega)
  rw [cut_some (show 8 < c by omega)] at hcut
  have hcut2 := cut_reads (k := 36) hB (show b.length ≤ c by omega)
  rw [cut_some (show 36 < c by omega)] at hcut2
  have hp : PartsAt (w.alloc (.cells #[.slice (some ⟨b0, off + 8, none⟩) (min many 20) (c - 8), .slice (some ⟨b0, off + 36, none⟩) (many - 20) (c - 36)] 27)) (some ⟨w.heap.size, 0, none⟩) [⟨some ⟨b0, off + 8, none⟩, (b.drop 8).take (min many 20), c - 8⟩, ⟨some ⟨b0, off + 36, none⟩, (b.drop 36).take (many - 20), c - 36⟩] := by
    refine ⟨fun x hx => ?_, fun _ => ⟨w.heap.size, 0, rfl, fun i x hx => ?_⟩⟩
    · simp only [List.mem_cons, List.not_mem_nil, or_false] at hx
      rcases hx with rfl | rfl
      · exact ⟨front_reads hcut, by show ((b.drop 8).take (min many 20)).length ≤ c - 8; omega, by show c - 8 ≤ _; omega⟩
      · exact ⟨front_reads hcut2, by show ((b.drop 36).take (many - 20)).length ≤ c - 36; omega, by show c - 36 ≤ _; omega⟩
    · match i, hx with
      | 0, hx =>
        obtain rfl : (⟨some ⟨b0, off + 8, none⟩, (b.drop 8).take (min many 20), c - 8⟩ : Part) = x := by simpa using hx
        show _ = some (Value.slice (some ⟨b0, off + 8, none⟩) ((b.drop 8).take (min many 20)).length (c - 8))
        rw [l4]; exact r0
      | 1, hx =>
        obtain rfl : (⟨some ⟨b0, off + 36, none⟩, (b.drop 36).take (many - 20), c - 36⟩ : Part) = x := by simpa using hx
        show _ = some (Value.slice (some ⟨b0, off + 36, none⟩) ((b.drop 36).take (many - 20)).length (c - 36))
        rw [l8]; exact r1
      | i + 2, hx => simp at hx
  have ht : total [(⟨some ⟨b0, off + 8, none⟩, (b.drop 8).take (min many 20), c - 8⟩ : Part), ⟨some ⟨b0, off + 36, none⟩, (b.drop 36).take (many - 20), c - 36⟩] = many := by
    unfold total
    simp only [List.map_cons, List.map_nil, List.sum_cons, List.sum_nil, l4, l8]; omega
  have hby : bytesOf [(⟨some ⟨b0, off + 8, none⟩, (b.drop 8).take (min many 20), c - 8⟩ : Part), ⟨some ⟨b0, off + 36, none⟩, (b.drop 36).take (many - 20), c - 36⟩] = bodyB b many := by unfold bytesOf bodyB; simp
  refine (concat_any _ _ _ 2 hp (by simp) (by rw [ht]; omega) (by
    intro p hp
    simp only [List.mem_cons, List.not_mem_nil, or_false] at hp
    rcases hp with rfl | rfl <;> simp)).mono ?_
  rintro e w' ⟨v, rfl, ho, hb'⟩
  rw [ht, hby] at ho
  exact ⟨v, rfl, own_mono ho hbn.size, hbn.trans (hb'.mono hbn.size)⟩
set_option maxRecDepth 100000 in
set_option maxHeartbeats 4000000 in
theorem body_any (w : World) (q : Option Addr) (b0 off : Nat) (b : List Int) (c many : Nat) (hb : BytesAt w (some ⟨b0, off, none⟩) b) (hl : b.length = 256) (hc : 256 ≤ c) (hm : c ≤ 9223372036854775807) (hmany : many ≤ 239) :
    Calls Tryz.prog 178 #[.agg #[.pointer q, .slice (some ⟨b0, off, none⟩) 256 c], .int .i64 (many : Int)] w fun e w' => ∃ v, e = .returned v ∧ w'.ownsRow w.heap.size 5 1 v many (u8s (bodyB b many)) ∧ Below w.heap.size w w' := by
  have hbn := below_new w (.cells #[.pointer q, .slice (some ⟨b0, off, none⟩) 256 c] 273)
  have hB := BlockIs.made w 273 #[.pointer q, .slice (some ⟨b0, off, none⟩) 256 c]
  have HP := Lib.hid (parted_any (w.alloc (.cells #[.pointer q, .slice (some ⟨b0, off, none⟩) 256 c] 273)) many (by omega))
  have H0 := Lib.hid (And.intro hbn hB)
  obtain ⟨w1, hw1⟩ : ∃ w1, w.alloc (.cells #[.pointer q, .slice (some ⟨b0, off, none⟩) 256 c] 273) = w1 := ⟨_, rfl⟩
  have hB1 := hb.below hbn
  rw [hw1] at H0 hB1 HP
  have HC : Hid (Calls Tryz.prog 142 #[.slice (some ⟨w1.heap.size, 0, none⟩) 2 2] (w1.alloc (.cells #[.slice (some ⟨b0, off + 8, none⟩) (min many 20) (c - 8), .slice (some ⟨b0, off + 36, none⟩) (many - 20) (c - 36)] 27)).drew fun e w' => ∃ v, e = .returned v ∧ w'.ownsRow w1.heap.size 5 1 v many (u8s (bodyB b many)) ∧ Below w1.heap.size w1.drew w') := Lib.hid (concatBody w1.drew b0 off b c many hB1 hl hc hm hmany)
  have h1 : ∀ w', (Instr.slice 27 (.slice (some ⟨b0, off, none⟩) 256 c) (some (.int .i64 8)) none none).run Tryz.prog w' = .ok (.slice (some ⟨b0, off + 8, none⟩) 248 (c - 8)) w' := fun w' => by
    have := cut_run1 (some ⟨b0, off, none⟩) 256 8 c w' (by decide)
    rw [cut_some (show 8 < c by omega)] at this
    exact this
  have h2 : ∀ w', (Instr.slice 27 (.slice (some ⟨b0, off, none⟩) 256 c) (some (.int .i64 36)) none none).run Tryz.prog w' = .ok (.slice (some ⟨b0, off + 36, none⟩) 220 (c - 36)) w' := fun w' => by
    have := cut_run1 (some ⟨b0, off, none⟩) 256 36 c w' (by decide)
    rw [cut_some (show 36 < c by omega)] at this
    exact this
  have h3 := fun w' => cut_low (some ⟨b0, off + 8, none⟩) 248 (min many 20) (c - 8) w' (by omega) (by omega)
  have h4 := fun w' => cut_low (some ⟨b0, off + 36, none⟩) 220 (many - 20) (c - 36) w' (by omega) (by omega)
  have Hw1 := Lib.hid hw1
  obtain ⟨m, hmm⟩ : ∃ m, min many 20 = m := ⟨_, rfl⟩
  obtain ⟨k, hkk⟩ : ∃ k, many - 20 = k := ⟨_, rfl⟩
  rw [hmm, hkk] at HP HC
  rw [hmm] at h3
  rw [hkk] at h4
  clear hb hbn hB hB1 hw1 hl hmm hkk
  go_enter Tryz.func178, Tryz.ntmps178
  go_wp2_with fail
  rw [Hw1.out]
  refine HP.out.mono ?_
  rintro e w' ⟨rfl, rfl⟩
  go_wp2_with fail
  have m0 : w1.cell? ⟨w.heap.size, 1, none⟩ = some (.slice (some ⟨b0, off, none⟩) 256 c) := H0.out.2.cell 1
  have mA := cell_below m0 (below_new w1 (.cells #[.slice (some ⟨b0, off + 8, none⟩) m (c - 8), .slice (some ⟨b0, off + 36, none⟩) k (c - 36)] 27))
  go_region_held3 (fun w' => w'.cell? ⟨w.heap.size, 1, none⟩ = some (.slice (some ⟨b0, off, none⟩) 256 c)) (first | exact m0 | exact mA | exact m2) (first
    | (go_at_call 142; refine HC.out.mono ?_; rintro e w2 ⟨v, rfl, ho, hb2⟩; have m2 := cell_below m0 (undrew hb2); have H2 := Lib.hid (And.intro ho (undrew hb2)); clear ho hb2)
    | fail)
  all_goals
    go_wp2_with fail
    go_ret
    exact ⟨_, rfl, own_mono H2.out.1 H0.out.1.size, H0.out.1.trans (H2.out.2.mono H0.out.1.size)⟩
end Go.Proofs.YtpdfmpegcejmkaaGreatDoor
