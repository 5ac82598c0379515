/- Law 08: the chapter's example. -/
import Derived.Test.YtpdfmpegcejmkaaGreatDoorLaw08Base
namespace Go.Proofs.YtpdfmpegcejmkaaGreatDoor
open Go.RowKit
def e08 : Ent := ⟨1, 2, 2, [97]⟩
def u08 : UnitV := ⟨5, 1, [0, 0, 0, 0, 0, 0, 0, 2, 0, 0, 0, 0, 0, 2, 97]⟩
theorem e08_right : rightB e08 = true := by decide
theorem e08_ahead : aheadI noIdent e08.index := by decide
theorem u08_is : recU noIdent e08 = u08 := by rfl
theorem e08_record : recordR noIdent e08 = (u08, 0) := by
  unfold recordR
  rw [if_neg (by rw [e08_right]; decide), if_neg (fun h => h e08_ahead), u08_is]
theorem u08_right : u08.right := by decide
theorem u08_seal : sealR u08 = (sealB u08, 0) := by unfold sealR; rw [if_pos u08_right]
theorem e08_of : ofR (sealB u08) 1 = (e08, noIdent, 0) := by
  have h := of_rec e08_right e08_ahead
  rw [u08_is] at h
  exact h
theorem u08_bd : ∀ z ∈ (sealB u08), 0 ≤ z ∧ z < 256 := seal_bd u08_right (by decide)
theorem u08_len : (sealB u08).length = 256 := seal_len (by decide)
theorem lit_reads {w : World} {g : Nat} {zs : List Int} (h : BlockIs w g 5 (u8s zs).toArray) (hr : ∀ z ∈ zs, 0 ≤ z ∧ z < 256) : BytesAt w (some ⟨g, 0, none⟩) zs := by
  refine bytesAt_cells hr (fun i hi => ?_)
  rw [Nat.zero_add, h.cell, List.getElem?_toArray]
  unfold u8s
  rw [List.getElem?_map, List.getD_eq_getElem?_getD, List.getElem?_eq_getElem hi]; rfl
set_option maxRecDepth 100000 in
set_option maxHeartbeats 8000000 in
theorem awake_any (σ : Sen) (τ : SenU) (ρ : SenQ) (w : World) (hG : Gl8 σ τ ρ w) :
    Calls Tryz.prog 7 #[] w fun e w' => e = .returned (.bool true) ∧ Below w.heap.size w w' := by
  have hcv := fun w => Lib.run_convert_bytes_const (P := Tryz.prog) w 27 5 #[.int .u8 97] 1 1 Tryz.underlying27 Tryz.underlying5
  have hb1 := below_new w (.cells #[.int .u8 97] 5 (1, 2))
  have hz1 : BytesAt (w.alloc (.cells #[.int .u8 97] 5 (1, 2))) (some ⟨w.heap.size, 0, none⟩) [97] := bytesAt_marked w [97] (1, 2) (by simp)
  have hb2 := below_new (w.alloc (.cells #[.int .u8 97] 5 (1, 2))) (.cells #[.int .i64 1, .int .i64 2, .int .i64 2, .slice (some ⟨w.heap.size, 0, none⟩) 1 1] 50)
  have hE := BlockIs.made (w.alloc (.cells #[.int .u8 97] 5 (1, 2))) 50 #[.int .i64 1, .int .i64 2, .int .i64 2, .slice (some ⟨w.heap.size, 0, none⟩) 1 1]
  rw [World.size_alloc] at hE
  obtain ⟨w2, hw2⟩ : ∃ w2, (w.alloc (.cells #[.int .u8 97] 5 (1, 2))).alloc (.cells #[.int .i64 1, .int .i64 2, .int .i64 2, .slice (some ⟨w.heap.size, 0, none⟩) 1 1] 50) = w2 := ⟨_, rfl⟩
  have hz2 := hz1.below hb2
  have hb := hb1.trans (hb2.mono hb1.size)
  rw [hw2] at hz2 hE hb
  have HG := Lib.hid (fun W (h : Below w2.heap.size w2 W) => (hG.below hb).below h)
  have HZ := Lib.hid hz2
  have HE := Lib.hid hE
  have HB := Lib.hid hb
  have R := grecord_any ρ w2 (hG.below hb).q noIdent e08 (some ⟨w.heap.size, 0, none⟩) 1 (by decide) hz2 (by intro h; cases h)
  rw [e08_record] at R
  have HR := Lib.hid R
  unfold IdentI.val noIdent e08 u08 at HR
  simp only [List.length_cons, List.length_nil, Nat.reduceAdd] at HR
  have Hw2 := Lib.hid hw2
  have c0 : w2.cell? ⟨w.heap.size + 1, 0, none⟩ = some (.int .i64 1) := hE.cell 0
  have c1 : w2.cell? ⟨w.heap.size + 1, 1, none⟩ = some (.int .i64 2) := hE.cell 1
  have c2 : w2.cell? ⟨w.heap.size + 1, 2, none⟩ = some (.int .i64 2) := hE.cell 2
  have c3 : w2.cell? ⟨w.heap.size + 1, 3, none⟩ = some (.slice (some ⟨w.heap.size, 0, none⟩) 1 1) := hE.cell 3
  clear hb1 hz1 hb2 hE hw2 hz2 hb R hG
  go_enter Tryz.func7, Tryz.ntmps7
  go_wp2_with fail
  rw [Hw2.out]
  refine HR.out.mono ?_
  rintro e w3 ⟨v, rfl, ho, b3⟩
  obtain ⟨g, cap, rfl, hcap, hm, _, _, hz⟩ := own_at (xs := [0, 0, 0, 0, 0, 0, 0, 2, 0, 0, 0, 0, 0, 2, 97]) ho (by decide) (by decide)
  have hb4 := below_new w3 (.cells #[.int .i64 5, .int .i64 1, .slice (some ⟨g, 0, none⟩) 15 cap] 34)
  have U4 := Lib.hid (BlockIs.made w3 34 #[.int .i64 5, .int .i64 1, .slice (some ⟨g, 0, none⟩) 15 cap])
  have Z4 := Lib.hid (hz.below hb4)
  have B4 := Lib.hid (show Below w2.heap.size w2 _ from b3.trans (hb4.mono b3.size))
  have RB := rblock_any (w3.alloc (.cells #[.int .i64 5, .int .i64 1, .slice (some ⟨g, 0, none⟩) 15 cap] 34)) noIdent e08 (some ⟨w.heap.size, 0, none⟩) 1 (by decide) (HZ.out.below B4.out) (by intro h; cases h)
  rw [e08_record, u08_seal] at RB
  simp only at RB
  rw [u08_len] at RB
  have HRB := Lib.hid RB
  unfold IdentI.val noIdent e08 entV at HRB
  simp only [List.length_cons, List.length_nil, Nat.reduceAdd] at HRB
  obtain ⟨w4, hw4⟩ : ∃ w4, w3.alloc (.cells #[.int .i64 5, .int .i64 1, .slice (some ⟨g, 0, none⟩) 15 cap] 34) = w4 := ⟨_, rfl⟩
  rw [hw4] at U4 Z4 B4 HRB
  have Hw4 := Lib.hid hw4
  have HE4 := Lib.hid (HE.out.below B4.out HE.out.lt)
  clear ho b3 hz hb4 RB hw4 c0 c1 c2 c3 HR
  have c0 : w4.cell? ⟨w.heap.size + 1, 0, none⟩ = some (.int .i64 1) := HE4.out.cell 0
  have c1 : w4.cell? ⟨w.heap.size + 1, 1, none⟩ = some (.int .i64 2) := HE4.out.cell 1
  have c2 : w4.cell? ⟨w.heap.size + 1, 2, none⟩ = some (.int .i64 2) := HE4.out.cell 2
  have c3 : w4.cell? ⟨w.heap.size + 1, 3, none⟩ = some (.slice (some ⟨w.heap.size, 0, none⟩) 1 1) := HE4.out.cell 3
  rw [← Hw4.out] at c0 c1 c2 c3
  go_wp2_with fail
  rw [Hw4.out]
  refine HRB.out.mono ?_
  rintro e w5 ⟨v, rfl, ho, b5⟩
  obtain ⟨g5, cap5, rfl, hcap5, hm5, _, _, hz5⟩ := own_at ho (by decide) u08_bd
  have RO := gof_any σ τ ρ w5 (HG.out _ (B4.out.trans (b5.mono B4.out.size))).c (HG.out _ (B4.out.trans (b5.mono B4.out.size))).u (HG.out _ (B4.out.trans (b5.mono B4.out.size))).q (some ⟨g5, 0, none⟩) (sealB u08) cap5 hz5 (by rw [u08_len]; exact hcap5) hm5 1 (by decide)
  rw [e08_of, u08_len] at RO
  have HRO := Lib.hid RO
  unfold IdentI.val noIdent e08 at HRO
  have B5 := Lib.hid (B4.out.trans (b5.mono B4.out.size))
  have U5 := Lib.hid (U4.out.below b5 U4.out.lt)
  have Z5 := Lib.hid (Z4.out.below b5)
  have E5 := Lib.hid (HE4.out.below b5 HE4.out.lt)
  clear ho b5 hz5 hcap5 hm5 RO c0 c1 c2 c3 HRB
  go_wp2_with fail
  refine HRO.out.mono ?_
  rintro e w6 ⟨v, rfl, hp, b6⟩
  obtain ⟨X, cx, rfl, hzx, hcx, hmx, _⟩ := hp.reads
  have hcx : 1 ≤ cx := hcx
  have HX := Lib.hid (And.intro hzx (And.intro hcx hmx))
  have B6 := Lib.hid (B5.out.trans (b6.mono B5.out.size))
  have U6 := Lib.hid (U5.out.below b6 U5.out.lt)
  have Z6 := Lib.hid (Z5.out.below b6)
  have E6 := Lib.hid (E5.out.below b6 E5.out.lt)
  clear hp b6 hzx hcx hmx HRO
  have hb7 := boxes_below [(50, #[.int .i64 1, .int .i64 2, .int .i64 2, .slice X 1 cx]), (26, #[.int .i64 0, .int .i64 0, .int .i64 0])] w6
  have hb8 := boxes_below [(50, #[.int .i64 1, .int .i64 2, .int .i64 2, .slice X 1 cx]), (26, #[.int .i64 0, .int .i64 0, .int .i64 0]), (5, #[.int .u8 0, .int .u8 0, .int .u8 0, .int .u8 0, .int .u8 0, .int .u8 0, .int .u8 0, .int .u8 2, .int .u8 0, .int .u8 0, .int .u8 0, .int .u8 0, .int .u8 0, .int .u8 2, .int .u8 97])] w6
  have hx8 := boxes_at [(50, #[.int .i64 1, .int .i64 2, .int .i64 2, .slice X 1 cx]), (26, #[.int .i64 0, .int .i64 0, .int .i64 0]), (5, #[.int .u8 0, .int .u8 0, .int .u8 0, .int .u8 0, .int .u8 0, .int .u8 0, .int .u8 0, .int .u8 2, .int .u8 0, .int .u8 0, .int .u8 0, .int .u8 0, .int .u8 0, .int .u8 2, .int .u8 97])] w6 0 _ _ rfl
  have hi8 := boxes_at [(50, #[.int .i64 1, .int .i64 2, .int .i64 2, .slice X 1 cx]), (26, #[.int .i64 0, .int .i64 0, .int .i64 0]), (5, #[.int .u8 0, .int .u8 0, .int .u8 0, .int .u8 0, .int .u8 0, .int .u8 0, .int .u8 0, .int .u8 2, .int .u8 0, .int .u8 0, .int .u8 0, .int .u8 0, .int .u8 0, .int .u8 2, .int .u8 97])] w6 1 _ _ rfl
  have hl8 := boxes_at [(50, #[.int .i64 1, .int .i64 2, .int .i64 2, .slice X 1 cx]), (26, #[.int .i64 0, .int .i64 0, .int .i64 0]), (5, #[.int .u8 0, .int .u8 0, .int .u8 0, .int .u8 0, .int .u8 0, .int .u8 0, .int .u8 0, .int .u8 2, .int .u8 0, .int .u8 0, .int .u8 0, .int .u8 0, .int .u8 0, .int .u8 2, .int .u8 97])] w6 2 _ _ rfl
  obtain ⟨w7, hw7⟩ : ∃ w7, boxes w6 [(50, #[.int .i64 1, .int .i64 2, .int .i64 2, .slice X 1 cx]), (26, #[.int .i64 0, .int .i64 0, .int .i64 0])] = w7 := ⟨_, rfl⟩
  obtain ⟨w8, hw8⟩ : ∃ w8, boxes w6 [(50, #[.int .i64 1, .int .i64 2, .int .i64 2, .slice X 1 cx]), (26, #[.int .i64 0, .int .i64 0, .int .i64 0]), (5, #[.int .u8 0, .int .u8 0, .int .u8 0, .int .u8 0, .int .u8 0, .int .u8 0, .int .u8 0, .int .u8 2, .int .u8 0, .int .u8 0, .int .u8 0, .int .u8 0, .int .u8 0, .int .u8 2, .int .u8 97])] = w8 := ⟨_, rfl⟩
  rw [hw7] at hb7
  rw [hw8] at hb8 hx8 hi8 hl8
  simp only [boxes] at hw7 hw8
  obtain ⟨u0, u1, u2, _⟩ := (U6.out.below hb7 U6.out.lt).three
  have HSB := Lib.hid (sameBytes_any [0, 0, 0, 0, 0, 0, 0, 2, 0, 0, 0, 0, 0, 2, 97] [0, 0, 0, 0, 0, 0, 0, 2, 0, 0, 0, 0, 0, 2, 97] (some ⟨g, 0, none⟩) (some ⟨w6.heap.size + 1 + 1, 0, none⟩) cap 15 w8 (Z6.out.below hb8) (lit_reads (show BlockIs w8 (w6.heap.size + 1 + 1) 5 (u8s [0, 0, 0, 0, 0, 0, 0, 2, 0, 0, 0, 0, 0, 2, 97]).toArray from hl8) (by decide)) (by decide))
  rw [show sameB [0, 0, 0, 0, 0, 0, 0, 2, 0, 0, 0, 0, 0, 2, 97] [0, 0, 0, 0, 0, 0, 0, 2, 0, 0, 0, 0, 0, 2, 97] = true by decide] at HSB
  simp only [List.length_cons, List.length_nil, Nat.reduceAdd] at HSB
  have hX8 : BlockIs w8 w6.heap.size 50 #[.int .i64 1, .int .i64 2, .int .i64 2, .slice X 1 cx] := hx8
  have hE8 := E6.out.below hb8 E6.out.lt
  have HSE := Lib.hid (fun n => sameEntry_any e08 e08 X (some ⟨w.heap.size, 0, none⟩) cx 1 (w8.drewN n) ((HX.out.1.below hb8).drewN n) (((HZ.out.below (B6.out.trans (hb8.mono B6.out.size))).drewN n)) (by decide))
  rw [show sameE e08 e08 = true by decide] at HSE
  unfold entV e08 at HSE
  simp only [List.length_cons, List.length_nil, Nat.reduceAdd] at HSE
  have HI := Lib.hid (fun W => segIdent_any W e08 (some ⟨w.heap.size, 0, none⟩) 1)
  unfold IdentI.val e08 Ent.ident at HI
  simp only [List.length_cons, List.length_nil, Nat.reduceAdd] at HI
  have HT8 := Lib.hid (And.intro hX8 (And.intro (show BlockIs w8 (w6.heap.size + 1) 26 #[.int .i64 0, .int .i64 0, .int .i64 0] from hi8) (And.intro hE8 (B6.out.trans (hb8.mono B6.out.size)))))
  have Hw7 := Lib.hid hw7
  have Hw8 := Lib.hid hw8
  clear hb7 hb8 hx8 hi8 hl8 hX8 hE8 hw7 hw8
  rw [← Hw7.out] at u0 u1 u2
  go_wp2_with fail
  rw [Hw8.out]
  refine HSB.out.mono ?_
  rintro e w9 ⟨rfl, n, rfl⟩
  have x0 : (w8.drewN n).cell? ⟨w6.heap.size, 0, none⟩ = some (.int .i64 1) := HT8.out.1.cell 0
  have x1 : (w8.drewN n).cell? ⟨w6.heap.size, 1, none⟩ = some (.int .i64 2) := HT8.out.1.cell 1
  have x2 : (w8.drewN n).cell? ⟨w6.heap.size, 2, none⟩ = some (.int .i64 2) := HT8.out.1.cell 2
  have x3 : (w8.drewN n).cell? ⟨w6.heap.size, 3, none⟩ = some (.slice X 1 cx) := HT8.out.1.cell 3
  have e0 : (w8.drewN n).cell? ⟨w.heap.size + 1, 0, none⟩ = some (.int .i64 1) := HT8.out.2.2.1.cell 0
  have e1 : (w8.drewN n).cell? ⟨w.heap.size + 1, 1, none⟩ = some (.int .i64 2) := HT8.out.2.2.1.cell 1
  have e2 : (w8.drewN n).cell? ⟨w.heap.size + 1, 2, none⟩ = some (.int .i64 2) := HT8.out.2.2.1.cell 2
  have e3 : (w8.drewN n).cell? ⟨w.heap.size + 1, 3, none⟩ = some (.slice (some ⟨w.heap.size, 0, none⟩) 1 1) := HT8.out.2.2.1.cell 3
  clear u0 u1 u2 HSB
  go_wp2_with fail
  refine (HSE.out n).mono ?_
  rintro e w10 ⟨rfl, b10⟩
  have b10' : Below w8.heap.size w8 w10 := (drewN_below (Below.refl _ _) n).trans b10
  have B10 := Lib.hid (HT8.out.2.2.2.trans (b10'.mono HT8.out.2.2.2.size))
  have E10 := HT8.out.2.2.1.below b10' HT8.out.2.2.1.lt
  have I10 := HT8.out.2.1.below b10' HT8.out.2.1.lt
  clear x0 x1 x2 x3 e0 e1 e2 e3 HSE b10 b10'
  have e0 : w10.cell? ⟨w.heap.size + 1, 0, none⟩ = some (.int .i64 1) := E10.cell 0
  have e1 : w10.cell? ⟨w.heap.size + 1, 1, none⟩ = some (.int .i64 2) := E10.cell 1
  have e2 : w10.cell? ⟨w.heap.size + 1, 2, none⟩ = some (.int .i64 2) := E10.cell 2
  have e3 : w10.cell? ⟨w.heap.size + 1, 3, none⟩ = some (.slice (some ⟨w.heap.size, 0, none⟩) 1 1) := E10.cell 3
  obtain ⟨i0, i1, i2, _⟩ := I10.three
  clear E10 I10
  go_wp2_with fail
  refine (HI.out _).mono ?_
  rintro e w11 ⟨rfl, b11⟩
  have B11 := Lib.hid (HB.out.trans ((B10.out.trans (b11.mono B10.out.size)).mono HB.out.size))
  clear e0 e1 e2 e3 i0 i1 i2 b11 HI
  go_wp2_with fail
  go_ret
  exact ⟨rfl, B11.out⟩
end Go.Proofs.YtpdfmpegcejmkaaGreatDoor
