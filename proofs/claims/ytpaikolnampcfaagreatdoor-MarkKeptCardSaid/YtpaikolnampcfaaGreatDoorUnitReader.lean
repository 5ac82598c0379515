/- A block's reader: begun; the sum; the fields behind it. -/
import Derived.Test.YtpaikolnampcfaaGreatDoorUnitLack
import Derived.Test.YtpaikolnampcfaaGreatDoorUnitSum
import Derived.Test.YtpaikolnampcfaaGreatDoorCodeBytes
import Derived.Test.YtpaikolnampcfaaGreatDoorUnitErr
import Derived.IntWalk
namespace Go.Proofs.YtpaikolnampcfaaGreatDoor
open Go.RowKit
/-- What the reader goes through: the sum, and what stands ahead of the body. -/
def hdB (b : List Int) : List Int := (b.drop 28).take 4 ++ b.take 8
theorem hdB_len {b : List Int} (hl : b.length = 256) : (hdB b).length = 12 := by unfold hdB; rw [List.length_append, List.length_take, List.length_drop, List.length_take, hl]; rfl
theorem hdB_bd {b : List Int} (hb : ∀ z ∈ b, 0 ≤ z ∧ z < 256) : ∀ z ∈ hdB b, 0 ≤ z ∧ z < 256 := by
  intro z hz
  unfold hdB at hz
  rcases List.mem_append.1 hz with h | h
  · exact hb z (List.mem_of_mem_drop (List.mem_of_mem_take h))
  · exact hb z (List.mem_of_mem_take h)
theorem concatHd (w : World) (b0 off : Nat) (b : List Int) (c : Nat) (hb : BytesAt w (some ⟨b0, off, none⟩) b) (hl : b.length = 256) (hc : 256 ≤ c) (hm : c ≤ 9223372036854775807) :
    Calls Tryz.prog 156 #[.slice (some ⟨w.heap.size, 0, none⟩) 2 2] (w.alloc (.cells #[.slice (some ⟨b0, off + 28, none⟩) 4 (c - 28), .slice (some ⟨b0, off, none⟩) 8 c] 28)) fun e w' => ∃ X k, e = .returned (.slice X 12 k) ∧ BytesAt w' X (hdB b) ∧ (X = none → k = 0) ∧ Below w.heap.size w w' := by
  have hbn := below_new w (.cells #[.slice (some ⟨b0, off + 28, none⟩) 4 (c - 28), .slice (some ⟨b0, off, none⟩) 8 c] 28)
  obtain ⟨r0, r1⟩ := row2_cells w (.slice (some ⟨b0, off + 28, none⟩) 4 (c - 28)) (.slice (some ⟨b0, off, none⟩) 8 c) 28
  have l4 : ((b.drop 28).take 4).length = 4 := by rw [List.length_take, List.length_drop, hl]; rfl
  have l8 : (b.take 8).length = 8 := by rw [List.length_take, hl]; rfl
  have hB := hb.below hbn
  have hcut := cut_reads (k := 28) hB (show b.length ≤ c by omega)
  rw [cut_some (show 28 < c by omega)] at hcut
  have hp : PartsAt (w.alloc (.cells #[.slice (some ⟨b0, off + 28, none⟩) 4 (c - 28), .slice (some ⟨b0, off, none⟩) 8 c] 28)) (some ⟨w.heap.size, 0, none⟩) [⟨some ⟨b0, off + 28, none⟩, (b.drop 28).take 4, c - 28⟩, ⟨some ⟨b0, off, none⟩, b.take 8, c⟩] := by
    refine ⟨fun x hx => ?_, fun _ => ⟨w.heap.size, 0, rfl, fun i x hx => ?_⟩⟩
    · simp only [List.mem_cons, List.not_mem_nil, or_false] at hx
      rcases hx with rfl | rfl
      · exact ⟨front_reads hcut, by show ((b.drop 28).take 4).length ≤ c - 28; omega, by show c - 28 ≤ _; omega⟩
      · exact ⟨front_reads hB, by show (b.take 8).length ≤ c; omega, hm⟩
    · match i, hx with
      | 0, hx =>
        obtain rfl : (⟨some ⟨b0, off + 28, none⟩, (b.drop 28).take 4, c - 28⟩ : Part) = x := by simpa using hx
        show _ = some (Value.slice (some ⟨b0, off + 28, none⟩) ((b.drop 28).take 4).length (c - 28))
        rw [l4]; exact r0
      | 1, hx =>
        obtain rfl : (⟨some ⟨b0, off, none⟩, b.take 8, c⟩ : Part) = x := by simpa using hx
        show _ = some (Value.slice (some ⟨b0, off, none⟩) (b.take 8).length c)
        rw [l8]; exact r1
      | i + 2, hx => simp at hx
  have ht : total [(⟨some ⟨b0, off + 28, none⟩, (b.drop 28).take 4, c - 28⟩ : Part), ⟨some ⟨b0, off, none⟩, b.take 8, c⟩] = 12 := by unfold total; simp [l4, l8]
  have hby : bytesOf [(⟨some ⟨b0, off + 28, none⟩, (b.drop 28).take 4, c - 28⟩ : Part), ⟨some ⟨b0, off, none⟩, b.take 8, c⟩] = hdB b := by unfold bytesOf hdB; simp
  refine (concat_any _ _ _ 2 hp (by simp) (by rw [ht]; decide) (by
    intro p hp
    simp only [List.mem_cons, List.not_mem_nil, or_false] at hp
    rcases hp with rfl | rfl <;> simp)).mono ?_
  rintro e w' ⟨v, rfl, ho, hb'⟩
  rw [ht, hby] at ho
  obtain ⟨X, k, rfl, hk, _⟩ := own_slice ho
  obtain ⟨g, cap, e, _⟩ := own_form ho (by decide)
  obtain ⟨rfl, rfl⟩ : X = some ⟨g, 0, none⟩ ∧ k = cap := by simpa using e
  exact ⟨_, _, rfl, own_reads ho (hdB_bd hb.1), (by intro e; cases e), hbn.trans (hb'.mono hbn.size)⟩
/-- Read: the reader's own bytes are new, too. -/
theorem cread_own (σ : Sen) (w : World) (bs : List Int) (A : Option Addr) (c : Nat) (hz : BytesAt w A bs) (hl : bs.length ≤ 140737488351232) (hA : A = none → c = 0) :
    Calls Tryz.prog 121 #[.slice A bs.length c] w fun e w' => ∃ g, e = .returned (.pointer (some ⟨g, 0, none⟩)) ∧ w.heap.size ≤ g ∧ (∃ x cap k ev, RdIs σ w' g bs (.ok 0) x cap k ev ∧ ∀ a, x = some a → w.heap.size ≤ a.block) ∧ Below w.heap.size w w' := by
  go_enter Tryz.func121, Tryz.ntmps121
  go_wp2_with fail
  refine (clone_any w bs A c hz hl hA).mono ?_
  rintro e w1 ⟨v, rfl, hown, hb⟩
  obtain ⟨X, cap, rfl, h1, h2⟩ := own_slice hown
  have Hown := Lib.hid hown
  clear hown
  go_wp2_with fail
  go_ret
  have hrd := own_reads Hown.out hz.1
  have hbn := below_new w1 (.cells #[.slice X bs.length cap, .int .i64 0, .bool true, .nilIface] 227)
  have hlo : ∀ a, X = some a → w.heap.size ≤ a.block ∧ a.block < w1.heap.size := fun a e => Hown.out.lt a.block (by rw [e]; rfl)
  exact ⟨w1.heap.size, rfl, hb.size, ⟨X, cap, 0, .nilIface, ⟨BlockIs.made _ _ _, hrd.below hbn, fun a e => (hlo a e).2, ⟨h1, h2, Nat.zero_le _⟩, rfl, rfl⟩, fun a e => (hlo a e).1⟩, hb.trans (hbn.mono hb.size)⟩
theorem opener_cells {w : World} {g : Nat} {x y : Value} (h : BlockIs w g 218 #[x, y]) : w.cell? ⟨g, 0, none⟩ = some x ∧ w.cell? ⟨g, 1, none⟩ = some y ∧ w.frozen? ⟨g, 0, none⟩ = false ∧ w.frozen? ⟨g, 1, none⟩ = false := ⟨h.cell 0, h.cell 1, h.free 0, h.free 1⟩
set_option maxRecDepth 100000 in
set_option maxHeartbeats 4000000 in
theorem newOpener_any (σ : Sen) (w : World) (b0 off : Nat) (b : List Int) (c : Nat) (hb : BytesAt w (some ⟨b0, off, none⟩) b) (hl : b.length = 256) (hc : 256 ≤ c) (hm : c ≤ 9223372036854775807) :
    Calls Tryz.prog 137 #[.slice (some ⟨b0, off, none⟩) 256 c] w fun e w' => ∃ g, e = .returned (.agg #[.pointer (some ⟨g, 0, none⟩), .slice (some ⟨b0, off, none⟩) 256 c]) ∧ w.heap.size ≤ g ∧ RdAt σ w' g (hdB b) (.ok 0) ∧ Below w.heap.size w w' := by
  have hbn := below_new w (.cells #[.pointer none, .slice none 0 0] 218)
  have hB := BlockIs.made w 218 #[.pointer none, .slice none 0 0]
  have h1 : ∀ w', (Instr.slice 28 (.slice (some ⟨b0, off, none⟩) 256 c) (some (.int .i64 28)) (some (.int .i64 32)) none).run Tryz.prog w' = .ok (.slice (some ⟨b0, off + 28, none⟩) 4 (c - 28)) w' := fun w' => by
    have := cut_mid (some ⟨b0, off, none⟩) 256 28 32 c w' (by decide) (by omega)
    rw [cut_some (show 28 < c by omega)] at this
    exact this
  have h2 : ∀ w', (Instr.slice 28 (.slice (some ⟨b0, off, none⟩) 256 c) none (some (.int .i64 8)) none).run Tryz.prog w' = .ok (.slice (some ⟨b0, off, none⟩) 8 c) w' := fun w' => cut_low (some ⟨b0, off, none⟩) 256 8 c w' (by decide) hc
  have H0 := Lib.hid (And.intro hbn hB)
  obtain ⟨w1, hw1⟩ : ∃ w1, w.alloc (.cells #[.pointer none, .slice none 0 0] 218) = w1 := ⟨_, rfl⟩
  have hB1 := hb.below hbn
  rw [hw1] at H0 hB1
  have HC : Hid (Calls Tryz.prog 156 #[.slice (some ⟨w1.heap.size, 0, none⟩) 2 2] (w1.alloc (.cells #[.slice (some ⟨b0, off + 28, none⟩) 4 (c - 28), .slice (some ⟨b0, off, none⟩) 8 c] 28)).drew fun e w' => ∃ X k, e = .returned (.slice X 12 k) ∧ BytesAt w' X (hdB b) ∧ (X = none → k = 0) ∧ Below w1.heap.size w1.drew w') := Lib.hid (concatHd w1.drew b0 off b c hB1 hl hc hm)
  have Hhl := Lib.hid (hdB_len hl)
  have Hw1 := Lib.hid hw1
  clear hb hbn hB hB1 hw1 hl
  go_enter Tryz.func137, Tryz.ntmps137
  go_wp2_with fail
  rw [Hw1.out]
  have HRd := Lib.hid (fun (w' : World) (X : Option Addr) (k : Nat) (h : BytesAt w' X (hdB b)) (hx : X = none → k = 0) => cread_own σ w' (hdB b) X k h (by rw [Hhl.out]; decide) hx)
  rw [Hhl.out] at HRd
  go_region_held3 (fun _ => True) (trivial) (first
    | (go_at_call 156; refine HC.out.mono ?_; rintro e w2 ⟨X, k, rfl, hx, hxn, hb2⟩; have H2 := Lib.hid (And.intro hx (And.intro hxn (H0.out.1.trans ((undrew hb2).mono H0.out.1.size)))); have B2 := Lib.hid (H0.out.2.below (undrew hb2) H0.out.2.lt); clear hx hxn hb2)
    | (go_at_call 121; refine (HRd.out _ X k H2.out.1 H2.out.2.1).mono ?_; rintro e w3 ⟨g, rfl, hg3, ⟨x3, cap3, k3, ev3, hr3, hlo3⟩, hb3⟩; have HL3 := Lib.hid hlo3; clear hlo3; have PL3 := Lib.hid B2.out.lt; have H3 := Lib.hid (And.intro hr3 (And.intro (H2.out.2.2.trans (hb3.mono H2.out.2.2.size)) (Nat.le_trans H2.out.2.2.size hg3))); have B3 := Lib.hid (B2.out.below hb3 B2.out.lt); obtain ⟨y0, y1, y2, y3⟩ := opener_cells B3.out; have G3 := Lib.hid (Nat.lt_of_lt_of_le B2.out.lt hg3); clear hr3 hb3 hg3)
    | fail)
  all_goals
    have BZ := Lib.hid ((B3.out.set1 0 (.pointer (some ⟨g, 0, none⟩))).set1 1 (.slice (some ⟨b0, off, none⟩) 256 c))
    have GZ := Lib.hid (grown_at (grown_at (World.grownBy.refl w3 (some w.heap.size)) 0 (.pointer (some ⟨g, 0, none⟩))) 1 (.slice (some ⟨b0, off, none⟩) 256 c))
    clear y0 y1 y2 y3
    generalize (w3.setCell ⟨w.heap.size, 0, none⟩ (.pointer (some ⟨g, 0, none⟩))).setCell ⟨w.heap.size, 1, none⟩ (.slice (some ⟨b0, off, none⟩) 256 c) = wz at *
    obtain ⟨z0, z1, _, _⟩ := opener_cells BZ.out
    go_wp2_with fail
    have hbz : Below w.heap.size w wz := below_grown H3.out.2.1 GZ.out H3.out.2.1.size (Nat.le_refl _)
    exact bodyPost_ret (v := .agg #[.pointer (some ⟨g, 0, none⟩), .slice (some ⟨b0, off, none⟩) 256 c]) (by simp [results, Tryz.results137, go_sem, z0, z1]) rfl ⟨g, rfl, H3.out.2.2, ⟨x3, cap3, k3, ev3, H3.out.1.kept GZ.out (fun e => by have := Option.some.inj e; have := G3.out; omega) (fun a ha e => by have := Option.some.inj e; have := HL3.out a ha; have := PL3.out; omega)⟩, hbz⟩
end Go.Proofs.YtpaikolnampcfaaGreatDoor
