/- The statement's helper 'bytes'; deeds laid in a row of their own. -/
/- The statement's helper 'ends'. -/
import Derived.Test.YtgjdoiblgbdebaaDoorLaw03Do
import Derived.Maps.AppendAt
import Derived.Deep.Cut
namespace Go.Proofs.YtgjdoiblgbdebaaDoor
open Go.RowKit
/-- So many bytes, of a number. -/
def numB (many n : Nat) : List Int := (List.range many).map fun (i : Nat) => ((n : Int) + (i : Int)) % 256
theorem numB_len (many n : Nat) : (numB many n).length = many := by unfold numB; simp
theorem numB_bd (many n : Nat) : ∀ z ∈ numB many n, 0 ≤ z ∧ z < 256 := by
  intro z hz
  unfold numB at hz
  obtain ⟨i, _, rfl⟩ := List.mem_map.1 hz
  omega
def fillB (many n q : Nat) : List Int := (numB many n).take q ++ List.replicate (many - q) 0
theorem fillB_len (many n q : Nat) (h : q ≤ many) : (fillB many n q).length = many := by unfold fillB; rw [List.length_append, List.length_take, List.length_replicate, numB_len]; omega
theorem fillB_step (many n q : Nat) (h : q < many) : (fillB many n q).set q (((n : Int) + (q : Int)) % 256) = fillB many n (q + 1) := by
  unfold fillB
  have hl : ((numB many n).take q).length = q := by rw [List.length_take, numB_len]; omega
  rw [List.set_append_right _ _ (by rw [hl]; exact Nat.le_refl _), hl, Nat.sub_self, List.take_add_one, show many - q = (many - (q + 1)) + 1 by omega, List.replicate_succ, List.set_cons_zero]
  have : (numB many n)[q]? = some (((n : Int) + (q : Int)) % 256) := by unfold numB; rw [List.getElem?_map, List.getElem?_range h]; rfl
  rw [this]; simp
set_option maxRecDepth 100000 in
set_option maxHeartbeats 2000000 in
theorem bytes_any (w : World) (many n : Nat) (h0 : 0 < many) (h1 : many ≤ 1000) (h2 : n ≤ 1000) :
    Calls Tryd.prog 13 #[.int .i64 (many : Int), .int .i64 (n : Int)] w fun e w' => ∃ g, e = .returned (.slice (some ⟨g, 0, none⟩) many many) ∧ BytesAt w' (some ⟨g, 0, none⟩) (numB many n) ∧ g < w'.heap.size ∧ Below w.heap.size w w' := by
  obtain ⟨i0, hi, hz0, hz1, hz2⟩ := info_parts infoByte
  have hmk : ∀ w' : World, (Instr.makeSlice 33 (.int .i64 (many : Int)) (.int .i64 (many : Int))).run Tryd.prog w' = .ok (.slice (some ⟨w'.heap.size, 0, none⟩) many many) (w'.alloc (.cells (u8s (fillB many n 0)).toArray 5)) := fun w' => by
    have := run_make (P := Tryd.prog) w' 33 5 i0 (.int .u8 0) Tryd.underlying33 hi hz0 .i64 .i64 (many : Int) (many : Int) (by omega) (Int.le_refl _) (by rw [hz2]; omega) (by omega)
    rw [Int.toNat_natCast] at this
    rw [this]
    have h : madeCells (Value.int .u8 0).cells (many * i0.size) = (u8s (fillB many n 0)).toArray := by
      rw [hz1, Nat.mul_one]
      apply Array.ext'
      rw [show (Value.int .u8 0).cells = #[.int .u8 0] from rfl, toList_madeCells_one]
      unfold fillB u8s
      simp
    rw [h]
  have h0' : (0 : Int) ≤ (many : Int) := by omega
  clear hi hz0 hz1 hz2
  go_enter Tryd.func13, Tryd.ntmps13
  go_wp2_with fail
  have hB := BlockIs.made w 5 (u8s (fillB many n 0)).toArray
  have H0 := Lib.hid (And.intro hB (below_new w (.cells (u8s (fillB many n 0)).toArray 5)))
  clear hB
  generalize (w.alloc (.cells (u8s (fillB many n 0)).toArray 5)) = w0 at *
  clear hmk
  go_loopg [6] many (fun gk i wx => ∃ q : Nat, gk = many - q ∧ q ≤ many ∧ i = .int .i64 (q : Int) ∧ Hid (BlockIs wx w.heap.size 5 (u8s (fillB many n q)).toArray ∧ Below w.heap.size w wx))
  case atStart => exact ⟨0, rfl, Nat.zero_le _, rfl, H0⟩
  case round =>
    obtain ⟨q, hgk, hq, rfl, hR⟩ := hrel
    have Hgk := Lib.hid hgk
    clear hgk
    by_cases hlt : q < many
    · obtain ⟨z, hz⟩ : ∃ z, wr.cell? ⟨w.heap.size, q, none⟩ = some z := by
        rw [hR.out.1.cell]
        exact ⟨_, Array.getElem?_eq_getElem (by rw [List.size_toArray, u8s_len, fillB_len _ _ _ (by omega)]; exact hlt)⟩
      have f1 := hR.out.1.free q
      have HS := Lib.hid (And.intro (hR.out.1.set1 q (.int .u8 (((n : Int) + (q : Int)) % 256))) (hR.out.2.setCell (p := ⟨w.heap.size, q, none⟩) (Nat.le_refl _) (.int .u8 (((n : Int) + (q : Int)) % 256))))
      have HF := Lib.hid (fillB_step many n q hlt)
      go_wp2_with fail
      go_roundg (many - (q + 1))
      case measure => rw [Hgk.out]; omega
      case rel =>
        refine ⟨q + 1, rfl, by omega, by go_num, Lib.hid ⟨?_, HS.out.2⟩⟩
        have := HS.out.1
        rw [List.setIfInBounds_toArray, u8s_set, HF.out] at this
        exact this
    · obtain rfl : q = many := by omega
      have he : fillB q n q = numB q n := by unfold fillB; rw [List.take_of_length_le (by rw [numB_len]; exact Nat.le_refl _), Nat.sub_self]; simp
      have HE := Lib.hid he
      clear he
      go_wp2_with fail
      go_ret
      refine ⟨w.heap.size, rfl, bytesAt_cells (numB_bd _ _) (fun i hi => ?_), hR.out.1.lt, hR.out.2⟩
      rw [Nat.zero_add, hR.out.1.cell, HE.out, List.getElem?_toArray]
      unfold u8s
      rw [List.getElem?_map, List.getD_eq_getElem?_getD, List.getElem?_eq_getElem hi]; rfl
theorem deedsAt_new {w : World} {l : List DeedV} (h : ∀ x ∈ l, x.ok w) : DeedsAt (w.alloc (.cells (l.flatMap DeedV.cells).toArray 36)) (some ⟨w.heap.size, 0, none⟩) l := by
  refine ⟨fun x hx => (h x hx).below (below_new w _), fun _ => ⟨w.heap.size, 0, rfl, fun i x hx j v hj => ?_⟩⟩
  have hi := (List.getElem?_eq_some_iff.1 hx).1
  have hj6 : j < 6 := (List.getElem?_eq_some_iff.1 hj).1
  have h1 := flat_at DeedV.cells 6 (l := l) (fun x _ => rfl) hi hj6
  rw [(List.getElem?_eq_some_iff.1 hx).2, hj] at h1
  rw [Nat.zero_add, (BlockIs.made w _ _).cell, List.getElem?_toArray]
  exact h1
/-- A deed without bytes. -/
theorem plainD_ok (w : World) (what n torn part : Int) (mask : Nat) (hn : n ≤ 9223372036854775807) (hm : mask < 4294967296) : (DeedV.mk what n none [] 0 torn part mask).ok w :=
  ⟨BytesAt.nil _ _, fun _ => rfl, Nat.zero_le _, hn, hm, fun h => absurd rfl h⟩
theorem bytesD_ok {w : World} {g : Nat} {bs : List Int} (hb : BytesAt w (some ⟨g, 0, none⟩) bs) (hl : bs.length ≤ 140737488351232) (hg : g < w.heap.size) (what n torn part : Int) (c mask : Nat) (hn : n ≤ 9223372036854775807) (hm : mask < 4294967296) : (DeedV.mk what n (some ⟨g, 0, none⟩) bs c torn part mask).ok w :=
  ⟨hb, (fun e => by cases e), hl, hn, hm, fun _ a e => by cases e; exact hg⟩
end Go.Proofs.YtgjdoiblgbdebaaDoor
namespace Go.Proofs.YtgjdoiblgbdebaaDoor
open Go.RowKit
theorem infoDeed : (Tryd.prog.info? 36).map (fun i => (i.zero, i.size, i.bytes)) = some (some (.agg #[.int .i64 0, .int .i64 0, .slice none 0 0, .int .i64 0, .int .i64 0, .int .u32 0]), 6, 64) := by kernel_rfl
theorem DeedV.one (x : DeedV) : ∀ v ∈ x.cells, v.oneCell' = true := by
  intro v hv
  unfold DeedV.cells at hv
  simp only [List.mem_cons, List.not_mem_nil, or_false] at hv
  rcases hv with rfl | rfl | rfl | rfl | rfl | rfl <;> rfl
/-- A deed of one byte, which lies in a block of its own. -/
def OneD (w : World) (x : DeedV) : Prop := ∃ g z n, x = ⟨1, n, some ⟨g, 0, none⟩, [z], 1, 0, 0, 0⟩ ∧ BlockIs w g 5 #[.int .u8 z] ∧ (0 ≤ z ∧ z < 256) ∧ n ≤ 34
theorem OneD.ok {w : World} {x : DeedV} (h : OneD w x) : x.ok w := by
  obtain ⟨g, z, n, rfl, hb, hz, hn⟩ := h
  refine bytesD_ok (bytesAt_cells (fun y hy => by obtain rfl := List.mem_singleton.1 hy; exact hz) (fun i hi => ?_)) (by simp) hb.lt _ _ _ _ _ _ (by omega) (by decide)
  obtain rfl : i = 0 := by simpa using hi
  exact hb.cell 0
theorem OneD.kept {w w' : World} {x : DeedV} {row : Option Nat} (h : OneD w x) (hg : w.grownBy w' row) (hr : ∀ g cs, BlockIs w g 5 cs → row ≠ some g) : OneD w' x := by
  obtain ⟨g, z, n, rfl, hb, hz, hn⟩ := h
  exact ⟨g, z, n, rfl, hb.kept hg (fun e => hr g _ hb e.symm), hz, hn⟩
theorem OneD.below {w w' : World} {x : DeedV} (h : OneD w x) (hb : Below w.heap.size w w') : OneD w' x := h.kept (grown_below hb none) (fun _ _ _ e => by cases e)
/-- Deeds that are laid in a row that is owned. -/
structure RowD (w0 w : World) (v : Value) (l : List DeedV) : Prop where
  own : w.ownsRow w0.heap.size 36 6 v l.length (l.flatMap DeedV.cells)
  ok : ∀ x ∈ l, OneD w x
  below : Below w0.heap.size w0 w
theorem own_deeds {w : World} {B : Nat} {A : Option Addr} {l : List DeedV} {c : Nat} (h : w.ownsRow B 36 6 (.slice A l.length c) l.length (l.flatMap DeedV.cells)) (hok : ∀ x ∈ l, x.ok w) : DeedsAt w A l := by
  refine ⟨hok, fun hne => ?_⟩
  have h0 : 0 < l.length := List.length_pos_iff.2 hne
  obtain ⟨g, cap, e, _, _, _, _⟩ := own_form h h0
  injection e with e1 _ e3
  subst e1 e3
  refine ⟨g, 0, rfl, fun i x hx j v hj => ?_⟩
  have hi := (List.getElem?_eq_some_iff.1 hx).1
  have hj6 : j < 6 := (List.getElem?_eq_some_iff.1 hj).1
  have h1 := flat_at DeedV.cells 6 (l := l) (fun x _ => rfl) hi hj6
  rw [(List.getElem?_eq_some_iff.1 hx).2, hj] at h1
  rw [Nat.zero_add, h.cellAt _ (by omega)]
  exact h1
theorem statField0 (a b c d e f : Value) (w : World) : (Instr.field 44 (.agg #[a, b, c, d, e, f]) 0).run Tryd.prog w = .ok a w := by kernel_rfl
theorem new_write : ((DM.new 4096).write 4095 []).1 = 0 := by
  unfold DM.write
  rw [if_neg (show ¬ (DM.new 4096).down = true from Bool.false_ne_true), if_neg, if_neg (show ¬ (DM.new 4096).armed = 1 from Nat.zero_ne_one)]
  rintro (h | h)
  · refine h ⟨by decide, ?_⟩
    show (4095 : Int) < ((List.replicate 4096 nought).length : Nat)
    rw [List.length_replicate]; decide
  · exact absurd h (by decide)
theorem new_facts : ∃ D : DM, DM.new 4096 = D ∧ D.Few 1000000 ∧ (D.write 4095 []).1 = 0 ∧ ∃ b c d e : Int, ∃ f : Bool, D.statV = .agg #[.int .i64 4096, .int .i64 b, .int .i64 c, .int .i64 d, .int .i64 e, .bool f] := by
  refine ⟨DM.new 4096, rfl, ⟨Nat.zero_le _, Nat.zero_le _, Nat.zero_le _⟩, new_write, ((DM.new 4096).waits.length : Int), (hurts (DM.new 4096).cells : Int), ((DM.new 4096).turns : Int), ((DM.new 4096).crashes : Int), (DM.new 4096).down, ?_⟩
  unfold DM.statV Go.Proofs.YtgjdoiblgbdebaaDoor.statV
  rw [show (DM.new 4096).cells.length = 4096 from List.length_replicate]
  rfl
set_option maxRecDepth 100000 in
set_option maxHeartbeats 8000000 in
theorem ends_any (σ : SenD) (w : World) (hG : GlD σ w) (hS : GlS σ w) :
    Calls Tryd.prog 14 #[] w fun e w' => e = .returned (.bool true) ∧ Below w.heap.size w w' := by
  have HG := Lib.hid (And.intro hG hS)
  clear hG hS
  go_enter Tryd.func14, Tryd.ntmps14
  go_wp2_with fail
  go_loopg [1] 4 (fun gk i wx => ∃ (q : Nat) (zn : Int), gk = 4 - q ∧ q ≤ 4 ∧ i = .int .i64 zn ∧ Hid (zn = (q : Int) - 1) ∧ Hid (Below w.heap.size w wx))
  case atStart => exact ⟨0, -1, rfl, by omega, rfl, Lib.hid rfl, Lib.hid (Below.refl _ _)⟩
  case round =>
    obtain ⟨q, zn, hgk, hq, rfl, hzn, hb1⟩ := hrel
    have Hgk := Lib.hid hgk
    clear hgk
    have hn1 : -1 ≤ zn := by have := hzn.out; omega
    by_cases hq4 : q < 4
    · have hn2 : zn < 3 := by have := hzn.out; omega
      have Hm := Lib.hid (show 255 + zn = ((254 + q : Nat) : Int) by have := hzn.out; omega)
      go_wp2_with fail
      rw [Hm.out]
      refine (bytes_any wr (254 + q) 1 (by omega) (by omega) (by decide)).mono ?_
      rintro e w1 ⟨g1, rfl, y1, l1, b1⟩
      have H1 := Lib.hid (And.intro y1 (And.intro l1 (hb1.out.trans (b1.mono hb1.out.size))))
      have HG5 := Lib.hid (And.intro (HG.out.1.below (hb1.out.trans (b1.mono hb1.out.size))) (HG.out.2.below (hb1.out.trans (b1.mono hb1.out.size))))
      clear y1 l1 b1
      have hok : ∀ x ∈ ([⟨1, zn, some ⟨g1, 0, none⟩, numB (254 + q) 1, 254 + q, 0, 0, 0⟩, ⟨7, zn, none, [], 0, 2046 + zn, 0, 4294967295⟩, ⟨7, zn, none, [], 0, -1, 0, 1⟩, ⟨7, zn, none, [], 0, 0, 0, 0⟩, ⟨8, zn, none, [], 0, 0, 0, 0⟩] : List DeedV), x.ok w1 := by
        intro x hx
        simp only [List.mem_cons, List.not_mem_nil, or_false] at hx
        rcases hx with rfl | rfl | rfl | rfl | rfl
        · exact bytesD_ok (H1.out.1) (by rw [numB_len]; omega) (H1.out.2.1) _ _ _ _ _ _ (by omega) (by decide)
        · exact plainD_ok _ _ _ _ _ _ (by omega) (by decide)
        · exact plainD_ok _ _ _ _ _ _ (by omega) (by decide)
        · exact plainD_ok _ _ _ _ _ _ (by omega) (by decide)
        · exact plainD_ok _ _ _ _ _ _ (by omega) (by decide)
      have hD := deedsAt_new hok
      rw [show (([⟨1, zn, some ⟨g1, 0, none⟩, numB (254 + q) 1, 254 + q, 0, 0, 0⟩, ⟨7, zn, none, [], 0, 2046 + zn, 0, 4294967295⟩, ⟨7, zn, none, [], 0, -1, 0, 1⟩, ⟨7, zn, none, [], 0, 0, 0, 0⟩, ⟨8, zn, none, [], 0, 0, 0, 0⟩] : List DeedV).flatMap DeedV.cells).toArray = #[.int .i64 (1), .int .i64 (zn), .slice (some ⟨g1, 0, none⟩) (254 + q) (254 + q), .int .i64 (0), .int .i64 (0), .int .u32 (0), .int .i64 (7), .int .i64 (zn), .slice none 0 0, .int .i64 (2046 + zn), .int .i64 (0), .int .u32 (4294967295), .int .i64 (7), .int .i64 (zn), .slice none 0 0, .int .i64 (-1), .int .i64 (0), .int .u32 (1), .int .i64 (7), .int .i64 (zn), .slice none 0 0, .int .i64 (0), .int .i64 (0), .int .u32 (0), .int .i64 (8), .int .i64 (zn), .slice none 0 0, .int .i64 (0), .int .i64 (0), .int .u32 (0)] by simp [DeedV.cells, numB_len]] at hD
      have hbn := below_new w1 (.cells #[.int .i64 (1), .int .i64 (zn), .slice (some ⟨g1, 0, none⟩) (254 + q) (254 + q), .int .i64 (0), .int .i64 (0), .int .u32 (0), .int .i64 (7), .int .i64 (zn), .slice none 0 0, .int .i64 (2046 + zn), .int .i64 (0), .int .u32 (4294967295), .int .i64 (7), .int .i64 (zn), .slice none 0 0, .int .i64 (-1), .int .i64 (0), .int .u32 (1), .int .i64 (7), .int .i64 (zn), .slice none 0 0, .int .i64 (0), .int .i64 (0), .int .u32 (0), .int .i64 (8), .int .i64 (zn), .slice none 0 0, .int .i64 (0), .int .i64 (0), .int .u32 (0)] 36)
      have HD := Lib.hid (devDoes_any σ _ (HG5.out.1.below hbn) (HG5.out.2.below hbn) zn (some ⟨w1.heap.size, 0, none⟩) [⟨1, zn, some ⟨g1, 0, none⟩, numB (254 + q) 1, 254 + q, 0, 0, 0⟩, ⟨7, zn, none, [], 0, 2046 + zn, 0, 4294967295⟩, ⟨7, zn, none, [], 0, -1, 0, 1⟩, ⟨7, zn, none, [], 0, 0, 0, 0⟩, ⟨8, zn, none, [], 0, 0, 0, 0⟩] 5 hD (by show 5 ≤ _; decide))
      have Hbn := Lib.hid hbn
      clear hok hD hbn
      go_wp2_with fail
      refine HD.out.mono ?_
      rintro e w6 ⟨rfl, b6⟩
      have H6 := Lib.hid (H1.out.2.2.trans ((Hbn.out.trans (b6.mono Hbn.out.size)).mono H1.out.2.2.size))
      clear b6
      go_wp2_with fail
      go_roundg (4 - (q + 1))
      case measure => rw [Hgk.out]; omega
      case rel => exact ⟨q + 1, zn + 1, rfl, by omega, by go_num, Lib.hid (by rw [hzn.out]; omega), H6⟩
    · have hn2 : ¬ zn < 3 := by have := hzn.out; omega
      go_wp2_with fail
      go_loopg [2, 3] 70 (fun gk v i wx => ∃ (q : Nat) (l : List DeedV), gk = 70 - q ∧ q ≤ 70 ∧ i = .int .i64 (q : Int) ∧ Hid (l.length = q) ∧ Hid (RowD w wx v l))
      case atStart => exact ⟨0, [], rfl, by omega, rfl, Lib.hid rfl, Lib.hid ⟨World.ownsRow_nil _ _ _ _, (fun x hx => by cases hx), hb1.out⟩⟩
      case round =>
        obtain ⟨q, l, hgk, hq, rfl, hlq, hR⟩ := hrel
        have Hgk := Lib.hid hgk
        clear hgk
        by_cases hq70 : q < 70
        · have hq70' : (q : Int) < 70 := by omega
          have b1 := below_new wr (.cells #[.int .u8 (q : Int)] 5)
          have b2 := below_new (wr.alloc (.cells #[.int .u8 (q : Int)] 5)) (.cells (DeedV.cells ⟨1, (q : Int) % 35, some ⟨wr.heap.size, 0, none⟩, [(q : Int)], 1, 0, 0, 0⟩).toArray 36)
          have o1 := BlockIs.made wr 5 #[.int .u8 (q : Int)]
          have Ho := Lib.hid (ownsRow_below (ownsRow_below hR.out.own b1) b2)
          have Hx : Hid (OneD ((wr.alloc (.cells #[.int .u8 (q : Int)] 5)).alloc (.cells (DeedV.cells ⟨1, (q : Int) % 35, some ⟨wr.heap.size, 0, none⟩, [(q : Int)], 1, 0, 0, 0⟩).toArray 36)) ⟨1, (q : Int) % 35, some ⟨wr.heap.size, 0, none⟩, [(q : Int)], 1, 0, 0, 0⟩) := Lib.hid ⟨wr.heap.size, q, (q : Int) % 35, rfl, o1.below b2 o1.lt, by omega, by omega⟩
          have Hb := Lib.hid (b1.trans (b2.mono b1.size))
          have HN : Hid (∀ j v, (DeedV.cells ⟨1, (q : Int) % 35, some ⟨wr.heap.size, 0, none⟩, [(q : Int)], 1, 0, 0, 0⟩)[j]? = some v → ((wr.alloc (.cells #[.int .u8 (q : Int)] 5)).alloc (.cells (DeedV.cells ⟨1, (q : Int) % 35, some ⟨wr.heap.size, 0, none⟩, [(q : Int)], 1, 0, 0, 0⟩).toArray 36)).cell? ((⟨wr.heap.size + 1, 0, none⟩ : Addr).add j) = some v) := Lib.hid (fun j v hj => by
            rw [Addr.add_mid, Nat.zero_add]
            have := (BlockIs.made (wr.alloc (.cells #[.int .u8 (q : Int)] 5)) 36 (DeedV.cells ⟨1, (q : Int) % 35, some ⟨wr.heap.size, 0, none⟩, [(q : Int)], 1, 0, 0, 0⟩).toArray).cell j
            rw [size1] at this
            exact this.trans (by rw [List.getElem?_toArray]; exact hj))
          clear b1 b2 o1
          obtain ⟨i0, hi, hz0, hz1, hz2⟩ := info_parts infoDeed
          go_wp2_with (refine wpList_append_own_at _ rfl (.tmp 35) (.tmp 42) 22 rfl w.heap.size 36 i0 (.agg #[.int .i64 0, .int .i64 0, .slice none 0 0, .int .i64 0, .int .i64 0, .int .u32 0]) 6 64 Tryd.underlying22 hi hz0 hz1 hz2 rfl (by decide) _ l.length (l.flatMap DeedV.cells) rfl Ho.out ⟨wr.heap.size + 1, 0, none⟩ 1 1 (DeedV.cells ⟨1, (q : Int) % 35, some ⟨wr.heap.size, 0, none⟩, [(q : Int)], 1, 0, 0, 0⟩) rfl rfl HN.out (DeedV.one _) (by have := hlq.out; unfold maxLen; omega) (by have := hlq.out; omega) (Nat.le_trans hR.out.below.size Hb.out.size) ?_; intro v7 w7 ho7 hg7 _ hl7; have H7 := Lib.hid (And.intro ho7 hg7); clear ho7 hg7 hl7)
          clear hi hz0 hz1 hz2
          go_roundg (70 - (q + 1))
          case measure => rw [Hgk.out]; omega
          case rel =>
            refine ⟨q + 1, l ++ [⟨1, (q : Int) % 35, some ⟨wr.heap.size, 0, none⟩, [(q : Int)], 1, 0, 0, 0⟩], rfl, by omega, by go_num, Lib.hid (by rw [List.length_append, hlq.out]; rfl), Lib.hid ⟨?_, ?_, ?_⟩⟩
            · exact own_same H7.out.1 (by rw [List.length_append]; rfl) (by rw [List.flatMap_append]; simp)
            · intro x hx
              have hrow : ∀ g cs, BlockIs ((wr.alloc (.cells #[.int .u8 (q : Int)] 5)).alloc (.cells (DeedV.cells ⟨1, (q : Int) % 35, some ⟨wr.heap.size, 0, none⟩, [(q : Int)], 1, 0, 0, 0⟩).toArray 36)) g 5 cs → Value.ownBlock _ ≠ some g := fun g cs hb => own_tag Ho.out hb (by decide)
              rcases List.mem_append.1 hx with hx | hx
              · exact ((hR.out.ok x hx).below Hb.out).kept H7.out.2 hrow
              · obtain rfl := List.mem_singleton.1 hx
                exact Hx.out.kept H7.out.2 hrow
            · exact (hR.out.below.trans (Hb.out.mono hR.out.below.size)).grown H7.out.2 (Nat.le_trans hR.out.below.size Hb.out.size) (fun k e => (Ho.out.lt k e).1)
        · obtain rfl : q = 70 := by omega
          go_wp2_with fail
          have HL := Lib.hid hR.out
          have Hlq := Lib.hid hlq.out
          clear hR hlq
          refine (new_any (w := wr) 4096 (by decide) (by decide)).mono ?_
          rintro e w2 ⟨h, rfl, k2, b2⟩
          obtain ⟨D, hDe, hDf, hDw, x1, x2, x3, x4, x5, hDs⟩ := new_facts
          rw [hDe] at k2
          have HDf := Lib.hid (And.intro hDf (And.intro hDw hDs))
          clear hDe hDf hDw hDs
          have K2 := Lib.hid (And.intro k2 b2)
          clear k2 b2
          go_wp2_with fail
          refine (new_no (w := w2) 4097 (.inr (by decide))).mono ?_
          rintro e w' ⟨rfl, rfl⟩
          have b3 := below_new w2 (.cells (DeedV.cells ⟨5, 0, none, [], 0, 0, 0, 0⟩ ++ DeedV.cells ⟨6, 576460752303423493, none, [], 0, 63, 3, 0⟩).toArray 36)
          have Ho := Lib.hid (ownsRow_below (ownsRow_below HL.out.own K2.out.2) b3)
          have HN : Hid (∀ j v, (DeedV.cells ⟨5, 0, none, [], 0, 0, 0, 0⟩ ++ DeedV.cells ⟨6, 576460752303423493, none, [], 0, 63, 3, 0⟩)[j]? = some v → (w2.alloc (.cells (DeedV.cells ⟨5, 0, none, [], 0, 0, 0, 0⟩ ++ DeedV.cells ⟨6, 576460752303423493, none, [], 0, 63, 3, 0⟩).toArray 36)).cell? ((⟨w2.heap.size, 0, none⟩ : Addr).add j) = some v) := Lib.hid (fun j v hj => by
            rw [Addr.add_mid, Nat.zero_add]
            exact ((BlockIs.made w2 36 (DeedV.cells ⟨5, 0, none, [], 0, 0, 0, 0⟩ ++ DeedV.cells ⟨6, 576460752303423493, none, [], 0, 63, 3, 0⟩).toArray).cell j).trans (by rw [List.getElem?_toArray]; exact hj))
          have HB3 := Lib.hid b3
          have He1 := Lib.hid (show l.length + 2 = (l ++ [⟨5, 0, none, [], 0, 0, 0, 0⟩, ⟨6, 576460752303423493, none, [], 0, 63, 3, 0⟩] : List DeedV).length by rw [List.length_append]; rfl)
          have He2 := Lib.hid (show l.flatMap DeedV.cells ++ (DeedV.cells ⟨5, 0, none, [], 0, 0, 0, 0⟩ ++ DeedV.cells ⟨6, 576460752303423493, none, [], 0, 63, 3, 0⟩) = (l ++ [⟨5, 0, none, [], 0, 0, 0, 0⟩, ⟨6, 576460752303423493, none, [], 0, 63, 3, 0⟩] : List DeedV).flatMap DeedV.cells by rw [List.flatMap_append]; simp)
          clear b3
          obtain ⟨i0, hi, hz0, hz1, hz2⟩ := info_parts infoDeed
          go_wp2_with (refine wpList_append_own_at _ rfl (.tmp 52) (.tmp 55) 22 rfl w.heap.size 36 i0 (.agg #[.int .i64 0, .int .i64 0, .slice none 0 0, .int .i64 0, .int .i64 0, .int .u32 0]) 6 64 Tryd.underlying22 hi hz0 hz1 hz2 rfl (by decide) _ l.length (l.flatMap DeedV.cells) rfl Ho.out ⟨w2.heap.size, 0, none⟩ 2 2 (DeedV.cells ⟨5, 0, none, [], 0, 0, 0, 0⟩ ++ DeedV.cells ⟨6, 576460752303423493, none, [], 0, 63, 3, 0⟩) rfl rfl HN.out (fun v hv => (List.mem_append.1 hv).elim (DeedV.one _ v) (DeedV.one _ v)) (by have := Hlq.out; unfold maxLen; omega) (by have := Hlq.out; omega) (Nat.le_trans HL.out.below.size (Nat.le_trans K2.out.2.size HB3.out.size)) ?_; intro v7 w7 ho7 hg7 _ hl7; obtain ⟨X7, cap7, hv7, _, _⟩ := own_slice ho7; subst hv7; have H7 := Lib.hid (And.intro ho7 hg7); clear ho7 hg7 hl7)
          clear hi hz0 hz1 hz2
          have HW7 : Hid (Below w.heap.size w w7) := Lib.hid (by
            have h1 := HL.out.below.trans (K2.out.2.mono HL.out.below.size)
            have h2 := h1.trans (HB3.out.mono h1.size)
            exact h2.grown H7.out.2 h2.size (fun k e => (Ho.out.lt k e).1))
          have hok : ∀ x ∈ (l ++ [⟨5, 0, none, [], 0, 0, 0, 0⟩, ⟨6, 576460752303423493, none, [], 0, 63, 3, 0⟩] : List DeedV), x.ok w7 := by
            intro x hx
            rcases List.mem_append.1 hx with hx | hx
            · exact (((HL.out.ok x hx).below K2.out.2).below HB3.out).kept H7.out.2 (fun g cs hb => own_tag Ho.out hb (by decide)) |>.ok
            · simp only [List.mem_cons, List.not_mem_nil, or_false] at hx
              rcases hx with rfl | rfl
              · exact plainD_ok _ _ _ _ _ _ (by decide) (by decide)
              · exact plainD_ok _ _ _ _ _ _ (by decide) (by decide)
          have HD := Lib.hid (devDoes_any σ w7 (HG.out.1.below HW7.out) (HG.out.2.below HW7.out) 35 X7 (l ++ [⟨5, 0, none, [], 0, 0, 0, 0⟩, ⟨6, 576460752303423493, none, [], 0, 63, 3, 0⟩]) cap7 (own_deeds (by rw [← He1.out]; exact own_same H7.out.1 rfl He2.out) hok) (by rw [List.length_append, Hlq.out]; decide))
          rw [← He1.out] at HD
          clear hok
          have HK : Hid (DevAt w7 (fun k => wr.heap.size ≤ k ∧ k < w2.heap.size) h D) := Lib.hid (K2.out.1.keep (Nat.le_trans HB3.out.size H7.out.2.size) (fun b hb => (H7.out.2.block b (Nat.lt_of_lt_of_le hb.2 HB3.out.size) (fun e => by
            have := (HL.out.own.lt b e.symm).2
            omega)).trans (HB3.out.block b hb.2)))
          have hst := statField0
          go_wp2_with fail
          refine HD.out.mono ?_
          rintro e w8 ⟨rfl, b8⟩
          have H8 := Lib.hid (And.intro (HK.out.below b8) (HW7.out.trans (b8.mono HW7.out.size)))
          clear b8
          go_wp2_with fail
          refine (stat_any H8.out.1).mono ?_
          rintro e w9 ⟨rfl, b9⟩
          rw [HDf.out.2.2]
          have H9 := Lib.hid (And.intro (H8.out.1.below b9) (H8.out.2.trans (b9.mono H8.out.2.size)))
          clear b9
          go_wp2_with fail
          refine (write_any σ H9.out.1 HDf.out.1 (HG.out.1.below H9.out.2) (fun b hb ht => by have := HG.out.1.lt hb; have := HL.out.below.size; omega) 4095 none [] 0 (BytesAt.nil _ _) (fun h => absurd rfl h) (by decide)).mono ?_
          rintro e w10 ⟨rfl, h10⟩
          rw [HDf.out.2.1]
          have H10 := Lib.hid (h10.fr.below H9.out.2 (fun k hk => Nat.le_trans HL.out.below.size hk.1) H9.out.2.size)
          clear h10
          go_wp2_with fail
          go_ret
          exact ⟨rfl, H10.out⟩
end Go.Proofs.YtgjdoiblgbdebaaDoor
