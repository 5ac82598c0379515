/- A block's body. -/
import Derived.Test.YtmmebaphhgggfaaGreatDoorUnitReader
import Derived.Test.YtmmebaphhgggfaaGreatDoorUnitLack
namespace Go.Proofs.YtmmebaphhgggfaaGreatDoor
open Go.RowKit
def bodyB (b : List Int) (many : Nat) : List Int := (b.drop 8).take (min many 20) ++ (b.drop 36).take (many - 20)
theorem bodyB_len {b : List Int} (hl : b.length = 256) {many : Nat} (hm : many ≤ 239) : (bodyB b many).length = many := by
  unfold bodyB
  rw [List.length_append, List.length_take, List.length_take, List.length_drop, List.length_drop, hl]; omega
theorem bodyB_bd {b : List Int} (hb : ∀ z ∈ b, 0 ≤ z ∧ z < 256) (many : Nat) : ∀ z ∈ bodyB b many, 0 ≤ z ∧ z < 256 := by
  intro z hz
  unfold bodyB at hz
  rcases List.mem_append.1 hz with h | h
  · exact hb z (List.mem_of_mem_drop (List.mem_of_mem_take h))
  · exact hb z (List.mem_of_mem_drop (List.mem_of_mem_take h))
theorem concatBody (w : World) (b0 off : Nat) (b : List Int) (c many : Nat) (hb : BytesAt w (some ⟨b0, off, none⟩) b) (hl : b.length = 256) (hc : 256 ≤ c) (hm : c ≤ 9223372036854775807) (hmany : many ≤ 239) :
    Calls Tryz.prog 112 #[.slice (some ⟨w.heap.size, 0, none⟩) 2 2] (w.alloc (.cells #[.slice (some ⟨b0, off + 8, none⟩) (min many 20) (c - 8), .slice (some ⟨b0, off + 36, none⟩) (many - 20) (c - 36)] 23)) fun e w' => ∃ v, e = .returned v ∧ w'.ownsRow w.heap.size 5 1 v many (u8s (bodyB b many)) ∧ Below w.heap.size w w' := by
  have hbn := below_new w (.cells #[.slice (some ⟨b0, off + 8, none⟩) (min many 20) (c - 8), .slice (some ⟨b0, off + 36, none⟩) (many - 20) (c - 36)] 23)
  obtain ⟨r0, r1⟩ := row2_cells w (.slice (some ⟨b0, off + 8, none⟩) (min many 20) (c - 8)) (.slice (some ⟨b0, off + 36, none⟩) (many - 20) (c - 36)) 23
  have l4 : ((b.drop 8).take (min many 20)).length = min many 20 := by rw [List.length_take, List.length_drop, hl]; omega
  have l8 : ((b.drop 36).take (many - 20)).length = many - 20 := by rw [List.length_take, List.length_drop, hl]; omega
  have hB := hb.below hbn
  have hcut := cut_reads (k := 8) hB (show b.length ≤ c by omega)
  rw [cut_some (show 8 < c by omega)] at hcut
  have hcut2 := cut_reads (k := 36) hB (show b.length ≤ c by omega)
  rw [cut_some (show 36 < c by omega)] at hcut2
  have hp : PartsAt (w.alloc (.cells #[.slice (some ⟨b0, off + 8, none⟩) (min many 20) (c - 8), .slice (some ⟨b0, off + 36, none⟩) (many - 20) (c - 36)] 23)) (some ⟨w.heap.size, 0, none⟩) [⟨some ⟨b0, off + 8, none⟩, (b.drop 8).take (min many 20), c - 8⟩, ⟨some ⟨b0, off + 36, none⟩, (b.drop 36).take (many - 20), c - 36⟩] := by
    refine ⟨fun x hx => ?_, fun _ => ⟨w.heap.size, 0, rfl, fun i x hx => ?_⟩⟩
    · simp only [List.mem_cons, List.not_mem_nil, or_false] at hx
      rcases hx with rfl | rfl
      · exact ⟨front_reads hcut, by show ((b.drop 8).take (min many 20)).length ≤ c - 8; omega, by show c - 8 ≤ _; omega⟩
      · exact ⟨front_reads hcut2, by show ((b.drop 36).take (many - 20)).length ≤ c - 36; omega, by show c - 36 ≤ _; omega⟩
    · match i, hx with
      | 0, hx =>
        obtain rfl : (⟨some ⟨b0, off + 8, none⟩, (b.drop 8).take (min many 20), c - 8⟩ : Part) = x := by simpa using hx
        show _ = some (Value.slice (some ⟨b0, off + 8, none⟩) ((b.drop 8).take (min many 20)).length (c - 8))
        rw [l4]; exact r0
      | 1, hx =>
        obtain rfl : (⟨some ⟨b0, off + 36, none⟩, (b.drop 36).take (many - 20), c - 36⟩ : Part) = x := by simpa using hx
        show _ = some (Value.slice (some ⟨b0, off + 36, none⟩) ((b.drop 36).take (many - 20)).length (c - 36))
        rw [l8]; exact r1
      | i + 2, hx => simp at hx
  have ht : total [(⟨some ⟨b0, off + 8, none⟩, (b.drop 8).take (min many 20), c - 8⟩ : Part), ⟨some ⟨b0, off + 36, none⟩, (b.drop 36).take (many - 20), c - 36⟩] = many := by
    unfold total
    simp only [List.map_cons, List.map_nil, List.sum_cons, List.sum_nil, l4, l8]; omega
  have hby : bytesOf [(⟨some ⟨b0, off + 8, none⟩, (b.drop 8).take (min many 20), c - 8⟩ : Part), ⟨some ⟨b0, off + 36, none⟩, (b.drop 36).take (many - 20), c - 36⟩] = bodyB b many := by unfold bytesOf bodyB; simp
  refine (concat_any _ _ _ 2 hp (by simp) (by rw [ht]; omega) (by
    intro p hp
    simp only [List.mem_cons, List.not_mem_nil, or_false] at hp
    rcases hp with rfl | rfl <;> simp)).mono ?_
  rintro e w' ⟨v, rfl, ho, hb'⟩
  rw [ht, hby] at ho
  exact ⟨v, rfl, own_mono ho hbn.size, hbn.trans (hb'.mono hbn.size)⟩
set_option maxRecDepth 100000 in
set_option maxHeartbeats 4000000 in
theorem body_any (w : World) (q : Option Addr) (b0 off : Nat) (b : List Int) (c many : Nat) (hb : BytesAt w (some ⟨b0, off, none⟩) b) (hl : b.length = 256) (hc : 256 ≤ c) (hm : c ≤ 9223372036854775807) (hmany : many ≤ 239) :
    Calls Tryz.prog 117 #[.agg #[.pointer q, .slice (some ⟨b0, off, none⟩) 256 c], .int .i64 (many : Int)] w fun e w' => ∃ v, e = .returned v ∧ w'.ownsRow w.heap.size 5 1 v many (u8s (bodyB b many)) ∧ Below w.heap.size w w' := by
  have hbn := below_new w (.cells #[.pointer q, .slice (some ⟨b0, off, none⟩) 256 c] 137)
  have hB := BlockIs.made w 137 #[.pointer q, .slice (some ⟨b0, off, none⟩) 256 c]
  have HP := Lib.hid (parted_any (w.alloc (.cells #[.pointer q, .slice (some ⟨b0, off, none⟩) 256 c] 137)) many (by omega))
  have H0 := Lib.hid (And.intro hbn hB)
  obtain ⟨w1, hw1⟩ : ∃ w1, w.alloc (.cells #[.pointer q, .slice (some ⟨b0, off, none⟩) 256 c] 137) = w1 := ⟨_, rfl⟩
  have hB1 := hb.below hbn
  rw [hw1] at H0 hB1 HP
  have HC : Hid (Calls Tryz.prog 112 #[.slice (some ⟨w1.heap.size, 0, none⟩) 2 2] (w1.alloc (.cells #[.slice (some ⟨b0, off + 8, none⟩) (min many 20) (c - 8), .slice (some ⟨b0, off + 36, none⟩) (many - 20) (c - 36)] 23)).drew fun e w' => ∃ v, e = .returned v ∧ w'.ownsRow w1.heap.size 5 1 v many (u8s (bodyB b many)) ∧ Below w1.heap.size w1.drew w') := Lib.hid (concatBody w1.drew b0 off b c many hB1 hl hc hm hmany)
  have h1 : ∀ w', (Instr.slice 23 (.slice (some ⟨b0, off, none⟩) 256 c) (some (.int .i64 8)) none none).run Tryz.prog w' = .ok (.slice (some ⟨b0, off + 8, none⟩) 248 (c - 8)) w' := fun w' => by
    have := cut_run1 (some ⟨b0, off, none⟩) 256 8 c w' (by decide)
    rw [cut_some (show 8 < c by omega)] at this
    exact this
  have h2 : ∀ w', (Instr.slice 23 (.slice (some ⟨b0, off, none⟩) 256 c) (some (.int .i64 36)) none none).run Tryz.prog w' = .ok (.slice (some ⟨b0, off + 36, none⟩) 220 (c - 36)) w' := fun w' => by
    have := cut_run1 (some ⟨b0, off, none⟩) 256 36 c w' (by decide)
    rw [cut_some (show 36 < c by omega)] at this
    exact this
  have h3 := fun w' => cut_low (some ⟨b0, off + 8, none⟩) 248 (min many 20) (c - 8) w' (by omega) (by omega)
  have h4 := fun w' => cut_low (some ⟨b0, off + 36, none⟩) 220 (many - 20) (c - 36) w' (by omega) (by omega)
  have Hw1 := Lib.hid hw1
  obtain ⟨m, hmm⟩ : ∃ m, min many 20 = m := ⟨_, rfl⟩
  obtain ⟨k, hkk⟩ : ∃ k, many - 20 = k := ⟨_, rfl⟩
  rw [hmm, hkk] at HP HC
  rw [hmm] at h3
  rw [hkk] at h4
  clear hb hbn hB hB1 hw1 hl hmm hkk
  go_enter Tryz.func117, Tryz.ntmps117
  go_wp2_with fail
  rw [Hw1.out]
  refine HP.out.mono ?_
  rintro e w' ⟨rfl, rfl⟩
  go_wp2_with fail
  have m0 : w1.cell? ⟨w.heap.size, 1, none⟩ = some (.slice (some ⟨b0, off, none⟩) 256 c) := H0.out.2.cell 1
  have mA := cell_below m0 (below_new w1 (.cells #[.slice (some ⟨b0, off + 8, none⟩) m (c - 8), .slice (some ⟨b0, off + 36, none⟩) k (c - 36)] 23))
  go_region_held3 (fun w' => w'.cell? ⟨w.heap.size, 1, none⟩ = some (.slice (some ⟨b0, off, none⟩) 256 c)) (first | exact m0 | exact mA | exact m2) (first
    | (go_at_call 112; refine HC.out.mono ?_; rintro e w2 ⟨v, rfl, ho, hb2⟩; have m2 := cell_below m0 (undrew hb2); have H2 := Lib.hid (And.intro ho (undrew hb2)); clear ho hb2)
    | fail)
  all_goals
    go_wp2_with fail
    go_ret
    exact ⟨_, rfl, own_mono H2.out.1 H0.out.1.size, H0.out.1.trans (H2.out.2.mono H0.out.1.size)⟩
end Go.Proofs.YtmmebaphhgggfaaGreatDoor
