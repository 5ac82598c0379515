/- What a block has, whose sum fits. -/
/- Opening a block. -/
import Derived.Test.YtpdfmpegcejmkaaGreatDoorUnitBody
namespace Go.Proofs.YtpdfmpegcejmkaaGreatDoor
open Go.RowKit
theorem hd_drop {b : List Int} (hl : b.length = 256) (j : Nat) : (hdB b).drop (4 + j) = (b.take 8).drop j := by
  have l4 : ((b.drop 28).take 4).length = 4 := by rw [List.length_take, List.length_drop, hl]; rfl
  unfold hdB
  rw [List.drop_append, l4, List.drop_eq_nil_of_le (by omega), List.nil_append, show 4 + j - 4 = j by omega]
theorem unle_one (l : List Int) : unle (l.take 1) = l.getD 0 0 := by
  cases l with
  | nil => rfl
  | cons z l => simp [unle]
theorem field_byte {b : List Int} (hb : ∀ z ∈ b, 0 ≤ z ∧ z < 256) (hl : b.length = 256) (j : Nat) (hj : j < 8) : fieldR (hdB b) 1 (.ok (4 + j)) = (b.getD j 0, .ok (4 + j + 1)) := by
  have h1 : top 1 = 255 := rfl
  have hd : unle (((hdB b).drop (4 + j)).take 1) = b.getD j 0 := by rw [hd_drop hl, unle_one, ← getD_of_drop, Nat.add_zero, take_get, if_pos hj]
  have hbd : b.getD j 0 < 256 := by
    rw [List.getD_eq_getElem?_getD, List.getElem?_eq_getElem (by omega)]
    exact (hb _ (List.getElem_mem _)).2
  unfold fieldR
  simp only
  rw [if_neg (by rw [hdB_len hl, h1]; omega), show (1 : Int).toNat = 1 from rfl, hd, if_neg (by rw [h1]; omega)]
theorem field_num {b : List Int} (hl : b.length = 256) : fieldR (hdB b) 6 (.ok 5) = if 1099511627776 < unle ((b.drop 1).take 6) then (0, .bad 5 false) else (unle ((b.drop 1).take 6), .ok 11) := by
  have h1 : top 6 = 1099511627776 := rfl
  have hd : ((hdB b).drop 5).take 6 = (b.drop 1).take 6 := by
    rw [show 5 = 4 + 1 from rfl, hd_drop hl, List.drop_take, List.take_take]; rfl
  unfold fieldR
  simp only
  rw [if_neg (by rw [hdB_len hl, h1]; omega), show (6 : Int).toNat = 6 from rfl, hd, h1]
theorem unit_cells {w : World} {q : Nat} {x y z : Value} (h : BlockIs w q 34 #[x, y, z]) : w.cell? ⟨q, 0, none⟩ = some x ∧ w.cell? ⟨q, 1, none⟩ = some y ∧ w.cell? ⟨q, 2, none⟩ = some z ∧ w.frozen? ⟨q, 0, none⟩ = false ∧ w.frozen? ⟨q, 1, none⟩ = false ∧ w.frozen? ⟨q, 2, none⟩ = false := ⟨h.cell 0, h.cell 1, h.cell 2, h.free 0, h.free 1, h.free 2⟩
/-- A unit is stored. -/
theorem unit_set {w : World} {q : Nat} {x y z : Value} (h : BlockIs w q 34 #[x, y, z]) (x' y' z' : Value) : BlockIs (((w.setCell ⟨q, 0, none⟩ x').setCell ⟨q, 1, none⟩ y').setCell ⟨q, 2, none⟩ z') q 34 #[x', y', z'] := ((h.set1 0 x').set1 1 y').set1 2 z'
theorem grown_set3 {w w' : World} {q : Nat} {row : Option Nat} (h : w.grownBy w' row) (hq : w.heap.size ≤ q) (x y z : Value) : w.grownBy (((w'.setCell ⟨q, 0, none⟩ x).setCell ⟨q, 1, none⟩ y).setCell ⟨q, 2, none⟩ z) row :=
  h.andThen (grown_at (grown_at (grown_at (World.grownBy.refl w' (some q)) 0 x) 1 y) 2 z) (fun b e => by cases e; exact .inl hq)
set_option maxRecDepth 100000 in
set_option maxHeartbeats 8000000 in
theorem unit_any {σ : Sen} {τ : SenU} {w0 w : World} {g b0 off c : Nat} {b : List Int} (E : OpE σ τ w0 w g b0 off c b) (hr : RdAt σ w g (hdB b) (.ok 4)) (hgl : g < w.heap.size) (hbad : ¬ badB b) (hf : fitsB b) :
    Calls Tryz.prog 167 #[.agg #[.pointer (some ⟨g, 0, none⟩), .slice (some ⟨b0, off, none⟩) 256 c]] w fun e w' => ∃ v X k, e = .returned (.tuple #[(openB b).1.val X k, v]) ∧ FlawOf τ (openB b).2 v ∧ w'.ownsRow w.heap.size 5 1 (.slice X (openB b).1.body.length k) (openB b).1.body.length (u8s (openB b).1.body) ∧ w.grownBy w' (some g) := by
  have hbx := below_new w (.cells #[.pointer (some ⟨g, 0, none⟩), .slice (some ⟨b0, off, none⟩) 256 c] 273)
  have hBX := BlockIs.made w 273 #[.pointer (some ⟨g, 0, none⟩), .slice (some ⟨b0, off, none⟩) 256 c]
  have hb2 := hbx.alloc hbx.size (.cells #[.int .i64 0, .int .i64 0, .slice none 0 0] 34)
  have hU := BlockIs.made (w.alloc (.cells #[.pointer (some ⟨g, 0, none⟩), .slice (some ⟨b0, off, none⟩) 256 c] 273)) 34 #[.int .i64 0, .int .i64 0, .slice none 0 0]
  have hb3 := hb2.alloc hb2.size (.cells #[.int .i64 1, .int .i64 6, .int .i64 1] 3)
  have hX := BlockIs.made ((w.alloc (.cells #[.pointer (some ⟨g, 0, none⟩), .slice (some ⟨b0, off, none⟩) 256 c] 273)).alloc (.cells #[.int .i64 0, .int .i64 0, .slice none 0 0] 34)) 3 #[.int .i64 1, .int .i64 6, .int .i64 1]
  have hBX3 := (hBX.below (below_new _ (.cells #[.int .i64 0, .int .i64 0, .slice none 0 0] 34)) hBX.lt).below (below_new _ (.cells #[.int .i64 1, .int .i64 6, .int .i64 1] 3)) (by rw [World.size_alloc, World.size_alloc]; omega)
  have hU3 := hU.below (below_new _ (.cells #[.int .i64 1, .int .i64 6, .int .i64 1] 3)) hU.lt
  simp only [World.size_alloc] at hU3 hX
  obtain ⟨w3, hw3⟩ : ∃ w3, ((w.alloc (.cells #[.pointer (some ⟨g, 0, none⟩), .slice (some ⟨b0, off, none⟩) 256 c] 273)).alloc (.cells #[.int .i64 0, .int .i64 0, .slice none 0 0] 34)).alloc (.cells #[.int .i64 1, .int .i64 6, .int .i64 1] 3) = w3 := ⟨_, rfl⟩
  have hsz3 : w3.heap.size = w.heap.size + 1 + 1 + 1 := by rw [← hw3]; simp
  rw [hw3] at hb3 hX hBX3 hU3
  have E3 := E.at_ (grown_below hb3 (some g))
  have HT := Lib.hid (three_any E3 (hr.below hb3) (by omega) (show w.heap.size + 1 + 1 ≠ g by omega) hX)
  obtain ⟨z0, hz0⟩ : ∃ z, b.getD 0 0 = z := ⟨_, rfl⟩
  obtain ⟨n6, hn6⟩ : ∃ z, unle ((b.drop 1).take 6) = z := ⟨_, rfl⟩
  have hb7 : 0 ≤ b.getD 7 0 ∧ b.getD 7 0 < 256 := by
    rw [List.getD_eq_getElem?_getD, List.getElem?_eq_getElem (by rw [E.len]; decide)]
    exact E.bytes.1 _ (List.getElem_mem _)
  obtain ⟨many, hmany⟩ : ∃ m : Nat, b.getD 7 0 = (m : Int) := ⟨(b.getD 7 0).toNat, by omega⟩
  have hm255 : many ≤ 255 := by omega
  have ef1 : fieldR (hdB b) 1 (.ok 4) = (z0, .ok 5) := by rw [← hz0]; exact field_byte E.bytes.1 E.len 0 (by decide)
  have ef3 : fieldR (hdB b) 1 (.ok 11) = ((many : Int), .ok 12) := by rw [← hmany]; exact field_byte E.bytes.1 E.len 7 (by decide)
  have ef2 := field_num E.len
  rw [hn6] at ef2
  rw [ef1] at HT
  have hwb : ¬ (b.length ≠ 256 ∨ b.getD 0 0 < 1 ∨ 8 < b.getD 0 0) := hbad
  have HI := Lib.hid (And.intro hU3 (And.intro hBX3 (And.intro hb3 E3)))
  have HE := Lib.hid E
  have Hw3 := Lib.hid hw3
  have Hsz := Lib.hid hsz3
  by_cases hnum : 1099511627776 < n6
  · have hop : openB b = (noUnit, 4) := openB_num hwb hf (by rw [hn6]; exact hnum)
    rw [if_pos hnum] at ef2
    rw [ef2, show fieldR (hdB b) 1 (.bad 5 false) = (0, .bad 5 false) from rfl] at HT
    rw [hop]
    clear ef1 ef2 ef3 hz0 hn6 hb7 hmany hwb hU3 hBX3 hb3 hX E3 hbx hBX hb2 hU hw3 hr hf hbad hop hsz3 E
    go_enter Tryz.func167, Tryz.ntmps167
    go_wp2_with fail
    rw [Hw3.out]
    refine HT.out.mono ?_
    rintro e w4 ⟨rfl, hR4, hrd4, hg4⟩
    have B4 := Lib.hid (HI.out.2.1.kept hg4 (fun e => by have := Option.some.inj e; omega))
    have U4 := Lib.hid (HI.out.1.kept hg4 (fun e => by have := Option.some.inj e; omega))
    have E4 := Lib.hid (HI.out.2.2.2.at_ hg4)
    have G4 := Lib.hid ((grown_below HI.out.2.2.1 (some g)).trans hg4)
    have HX := Lib.hid (rerr_any σ w0 w4 g (hdB b) _ hrd4 E4.out.env)
    rw [show errPos (.bad 5 false) = 5 from rfl, show errNo (.bad 5 false) = 4 from rfl] at HX
    have d0 : w4.cell? ⟨w.heap.size, 0, none⟩ = some (.pointer (some ⟨g, 0, none⟩)) := B4.out.cell 0
    clear hR4 hrd4 hg4 HT
    go_wp2_with fail
    refine HX.out.mono ?_
    rintro e w5 ⟨rfl, hb5⟩
    have U5 := Lib.hid (U4.out.below hb5 U4.out.lt)
    have G5 := Lib.hid (G4.out.trans (grown_below hb5 _))
    have gn := ((HE.out.gl.below (below_grown HE.out.env.bl G5.out HE.out.env.bl.size HE.out.env.lo))).nm
    have HGn := Lib.hid ((HE.out.gl.below (below_grown HE.out.env.bl G5.out HE.out.env.bl.size HE.out.env.lo)))
    unfold errK at gn
    obtain ⟨y0, y1, y2, y3, y4, y5⟩ := unit_cells U5.out
    have hlt10 : 16 < w.heap.size := Nat.lt_of_lt_of_le (World.block_lt_of_cell? _ _ HE.out.gl.nm) HE.out.env.bl.size
    have gz := (grown_at (World.grownBy.refl w5 (some (w.heap.size + 1))) 0 (.int .i64 0)).cell gn (fun e => by have := Option.some.inj e; simp only at this; omega)
    clear hb5 d0 HX hlt10
    go_wp2_with fail
    go_region
    all_goals
      have UZ := Lib.hid (unit_set U5.out (.int .i64 0) (.int .i64 0) (.slice none 0 0))
      have GZ := Lib.hid (grown_set3 G5.out (show w.heap.size ≤ w.heap.size + 1 by omega) (.int .i64 0) (.int .i64 0) (.slice none 0 0))
      clear y0 y1 y2 y3 y4 y5 gn gz
      generalize ((w5.setCell ⟨w.heap.size + 1, 0, none⟩ (.int .i64 0)).setCell ⟨w.heap.size + 1, 1, none⟩ (.int .i64 0)).setCell ⟨w.heap.size + 1, 2, none⟩ (.slice none 0 0) = wz at *
      obtain ⟨z0, z1, z2, _, _, _⟩ := unit_cells UZ.out
      go_wp2_with fail
      exact bodyPost_ret (v := .tuple #[.agg #[.int .i64 0, .int .i64 0, .slice none 0 0], flawV 1 τ.nm]) (by simp [results, Tryz.results167, go_sem, z0, z1, z2]) rfl ⟨_, none, 0, rfl, HGn.out.flaw_nm 1, World.ownsRow_nil _ _ _ _, ⟨GZ.out.os, GZ.out.tape, GZ.out.output, GZ.out.size, GZ.out.block⟩⟩
  · have hnumi : n6 ≤ 1099511627776 := by omega
    rw [if_neg hnum] at ef2
    rw [ef2] at HT
    simp only at HT
    rw [ef3] at HT
    have HOn := Lib.hid (fun (h : ¬ lackOk b many) => openB_lack hwb hf (by rw [hmany, Int.toNat_natCast]; exact h))
    have HOy := Lib.hid (fun (h : lackOk b many) => openB_yes hwb E.bytes.1 hf hb7.1 (by rw [hn6]; exact hnumi) (by rw [hmany, Int.toNat_natCast]; exact h))
    have HUb := Lib.hid (fun (h : many ≤ 239) => (unitOf_body E.len (by rw [hmany, Int.toNat_natCast]; exact h)).trans (show _ = bodyB b many by rw [hmany, Int.toNat_natCast]; rfl))
    have HUk : Hid ((unitOf b).kind = z0 ∧ (unitOf b).num = n6) := Lib.hid ⟨hz0, hn6⟩
    clear ef1 ef2 ef3 hz0 hn6 hb7 hmany hwb hU3 hBX3 hb3 hX E3 hbx hBX hb2 hU hw3 hr hf hbad hsz3 hnum hnumi E
    go_enter Tryz.func167, Tryz.ntmps167
    go_wp2_with fail
    rw [Hw3.out]
    refine HT.out.mono ?_
    rintro e w4 ⟨rfl, hR4, hrd4, hg4⟩
    have B4 := Lib.hid (HI.out.2.1.kept hg4 (fun e => by have := Option.some.inj e; omega))
    have U4 := Lib.hid (HI.out.1.kept hg4 (fun e => by have := Option.some.inj e; omega))
    have E4 := Lib.hid (HI.out.2.2.2.at_ hg4)
    have G4 := Lib.hid ((grown_below HI.out.2.2.1 (some g)).trans hg4)
    have R4 := Lib.hid hR4
    have HX := Lib.hid (rerr_any σ w0 w4 g (hdB b) _ hrd4 E4.out.env)
    rw [show errPos (.ok 12) = 0 from rfl, show errNo (.ok 12) = 0 from rfl] at HX
    have d0 : w4.cell? ⟨w.heap.size, 0, none⟩ = some (.pointer (some ⟨g, 0, none⟩)) := B4.out.cell 0
    clear hR4 hrd4 hg4 HT
    go_wp2_with fail
    refine HX.out.mono ?_
    rintro e w5 ⟨rfl, hb5⟩
    have U5 := Lib.hid (U4.out.below hb5 U4.out.lt)
    have B5 := Lib.hid (B4.out.below hb5 B4.out.lt)
    have G5 := Lib.hid (G4.out.trans (grown_below hb5 _))
    have R5 := Lib.hid (R4.out.below hb5 R4.out.lt)
    have r0 : w5.cell? ⟨w3.heap.size + 1, 0, none⟩ = some (.int .i64 z0) := R5.out.cell 0
    have r1 : w5.cell? ⟨w3.heap.size + 1, 1, none⟩ = some (.int .i64 n6) := R5.out.cell 1
    have r2 : w5.cell? ⟨w3.heap.size + 1, 2, none⟩ = some (.int .i64 (many : Int)) := R5.out.cell 2
    clear hb5 d0 HX
    go_wp2_with fail
    have d0 : w5.cell? ⟨w.heap.size, 0, none⟩ = some (.pointer (some ⟨g, 0, none⟩)) := B5.out.cell 0
    have d1 : w5.cell? ⟨w.heap.size, 1, none⟩ = some (.slice (some ⟨b0, off, none⟩) 256 c) := B5.out.cell 1
    have Hb05 := Lib.hid (below_grown HE.out.env.bl G5.out HE.out.env.bl.size HE.out.env.lo)
    have HLk := Lib.hid (lack_any τ w5.drew (HE.out.gl.below Hb05.out.drew) (some ⟨g, 0, none⟩) b0 off b c many (HE.out.bytes.below Hb05.out.drew) HE.out.len HE.out.cap.1 HE.out.cap.2 hm255)
    go_region
    all_goals
      clear r0 r1 r2
      go_wp2_with fail
      clear d0 d1
      refine HLk.out.mono ?_
      rintro e w6 ⟨v, k, rfl, hF, hN, hb6⟩
      have hb6' : Below w5.heap.size w5 w6 := undrew hb6
      have U6 := Lib.hid (U5.out.below hb6' U5.out.lt)
      have B6 := Lib.hid (B5.out.below hb6' B5.out.lt)
      have G6 := Lib.hid (G5.out.trans (grown_below hb6' _))
      clear hb6 hb6'
      by_cases hok : lackOk b many
      · obtain rfl := FlawOf.zero (show FlawOf τ 0 v by rcases hN with ⟨_, rfl⟩ | ⟨h, _⟩; exact hF; exact absurd hok h)
        have h239 : many ≤ 239 := hok.1
        have Hoy := Lib.hid (HOy.out hok)
        have Hub := Lib.hid (HUb.out h239)
        have Hb06 := Lib.hid (below_grown HE.out.env.bl G6.out HE.out.env.bl.size HE.out.env.lo)
        have HBd := Lib.hid (body_any w6 (some ⟨g, 0, none⟩) b0 off b c many (HE.out.bytes.below Hb06.out) HE.out.len HE.out.cap.1 HE.out.cap.2 h239)
        have d0 : w6.cell? ⟨w.heap.size, 0, none⟩ = some (.pointer (some ⟨g, 0, none⟩)) := B6.out.cell 0
        have d1 : w6.cell? ⟨w.heap.size, 1, none⟩ = some (.slice (some ⟨b0, off, none⟩) 256 c) := B6.out.cell 1
        have Hbl := Lib.hid (bodyB_len HE.out.len h239)
        clear hF hN hok
        go_wp2_with fail
        clear d0 d1
        refine HBd.out.mono ?_
        rintro e w7 ⟨v, rfl, ho, hb7⟩
        obtain ⟨X, cap, rfl, hcp, _⟩ := own_slice ho
        have U7 := Lib.hid (U6.out.below hb7 U6.out.lt)
        have G7 := Lib.hid (G6.out.trans (grown_below hb7 _))
        have Ho7 := Lib.hid (And.intro ho (And.intro hb7 (World.ownsRow.lt ho)))
        obtain ⟨y0, y1, y2, y3, y4, y5⟩ := unit_cells U7.out
        clear ho hb7 HBd
        go_wp2_with fail
        clear y0 y1 y2 y3 y4 y5
        have UZ := Lib.hid (unit_set U7.out (.int .i64 z0) (.int .i64 n6) (.slice X many cap))
        have GZ := Lib.hid (grown_set3 G7.out (show w.heap.size ≤ w.heap.size + 1 by omega) (.int .i64 z0) (.int .i64 n6) (.slice X many cap))
        have OZ : Hid ((((w7.setCell ⟨w.heap.size + 1, 0, none⟩ (.int .i64 z0)).setCell ⟨w.heap.size + 1, 1, none⟩ (.int .i64 n6)).setCell ⟨w.heap.size + 1, 2, none⟩ (.slice X many cap)).ownsRow w.heap.size 5 1 (.slice X many cap) many (u8s (bodyB b many))) := Lib.hid (own_mono (own_keep Ho7.out.1 (fun bb e => by
          have hlo := (Ho7.out.2.2 bb e).1
          have hne : bb ≠ w.heap.size + 1 := by have := U6.out.lt; omega
          exact (Below.heap_setCell _ ⟨w.heap.size + 1, 2, none⟩ _ bb hne).trans ((Below.heap_setCell _ ⟨w.heap.size + 1, 1, none⟩ _ bb hne).trans (Below.heap_setCell _ ⟨w.heap.size + 1, 0, none⟩ _ bb hne)))) (by have := G6.out.size; omega))
        generalize ((w7.setCell ⟨w.heap.size + 1, 0, none⟩ (.int .i64 z0)).setCell ⟨w.heap.size + 1, 1, none⟩ (.int .i64 n6)).setCell ⟨w.heap.size + 1, 2, none⟩ (.slice X many cap) = wz at *
        obtain ⟨z0', z1, z2, _, _, _⟩ := unit_cells UZ.out
        rw [Hoy.out]
        unfold UnitV.val
        rw [HUk.out.1, HUk.out.2, Hub.out, Hbl.out]
        exact bodyPost_ret (v := .tuple #[.agg #[.int .i64 z0, .int .i64 n6, .slice X many cap], .nilIface]) (by simp [results, Tryz.results167, go_sem, z0', z1, z2]) rfl ⟨_, X, cap, rfl, FlawOf.none τ, OZ.out, GZ.out⟩
      · obtain ⟨pos, a, rfl, ha⟩ := FlawOf.four (show FlawOf τ 4 v by rcases hN with ⟨h, _⟩ | ⟨_, rfl⟩; exact absurd h hok; exact hF)
        have Hon := Lib.hid (HOn.out hok)
        have Ha := Lib.hid ha
        obtain ⟨y0, y1, y2, y3, y4, y5⟩ := unit_cells U6.out
        clear hF hN hok ha
        go_wp2_with fail
        clear y0 y1 y2 y3 y4 y5
        have UZ := Lib.hid (unit_set U6.out (.int .i64 0) (.int .i64 0) (.slice none 0 0))
        have GZ := Lib.hid (grown_set3 G6.out (show w.heap.size ≤ w.heap.size + 1 by omega) (.int .i64 0) (.int .i64 0) (.slice none 0 0))
        generalize ((w6.setCell ⟨w.heap.size + 1, 0, none⟩ (.int .i64 0)).setCell ⟨w.heap.size + 1, 1, none⟩ (.int .i64 0)).setCell ⟨w.heap.size + 1, 2, none⟩ (.slice none 0 0) = wz at *
        obtain ⟨z0', z1, z2, _, _, _⟩ := unit_cells UZ.out
        rw [Hon.out]
        exact bodyPost_ret (v := .tuple #[.agg #[.int .i64 0, .int .i64 0, .slice none 0 0], flawV pos a]) (by simp [results, Tryz.results167, go_sem, z0', z1, z2]) rfl ⟨_, none, 0, rfl, Ha.out, World.ownsRow_nil _ _ _ _, GZ.out⟩
end Go.Proofs.YtpdfmpegcejmkaaGreatDoor
namespace Go.Proofs.YtpdfmpegcejmkaaGreatDoor
open Go.RowKit
theorem RdAt.lt {σ : Sen} {w : World} {g : Nat} {bs : List Int} {s : RSt} (h : RdAt σ w g bs s) : g < w.heap.size := by
  obtain ⟨x, cap, k, ev, h⟩ := h
  exact h.blk.lt
theorem own_set3 {w : World} {B n q : Nat} {v x y z : Value} {xs : List Value} (h : w.ownsRow B 5 1 v n xs) (hq : q < B) : (((w.setCell ⟨q, 0, none⟩ x).setCell ⟨q, 1, none⟩ y).setCell ⟨q, 2, none⟩ z).ownsRow B 5 1 v n xs :=
  own_keep h (fun bb e => by
    have hlo := (h.lt bb e).1
    have hne : bb ≠ q := by omega
    exact (Below.heap_setCell _ ⟨q, 2, none⟩ _ bb hne).trans ((Below.heap_setCell _ ⟨q, 1, none⟩ _ bb hne).trans (Below.heap_setCell _ ⟨q, 0, none⟩ _ bb hne)))
theorem below_set3 {w w' : World} {q : Nat} (h : Below w.heap.size w w') (hq : w.heap.size ≤ q) (x y z : Value) : Below w.heap.size w (((w'.setCell ⟨q, 0, none⟩ x).setCell ⟨q, 1, none⟩ y).setCell ⟨q, 2, none⟩ z) :=
  below_grown h (grown_at (grown_at (grown_at (World.grownBy.refl w' (some q)) 0 x) 1 y) 2 z) h.size hq
/-- What opening leaves: the unit's body is its own. -/
def OutU (w w' : World) (u : UnitV) (X : Option Addr) (k : Nat) : Prop := w'.ownsRow w.heap.size 5 1 (.slice X u.body.length k) u.body.length (u8s u.body)
set_option maxRecDepth 100000 in
set_option maxHeartbeats 8000000 in
theorem open_any (σ : Sen) (τ : SenU) (w : World) (hC : GlAt σ w) (hU : GlU τ w) (A : Option Addr) (b : List Int) (c : Nat) (hb : BytesAt w A b) (hbc : b.length ≤ c) (hm : c ≤ 9223372036854775807) :
    Calls Tryz.prog 143 #[.slice A b.length c] w fun e w' => ∃ v X k, e = .returned (.tuple #[(openB b).1.val X k, v]) ∧ FlawOf τ (openB b).2 v ∧ OutU w w' (openB b).1 X k ∧ Below w.heap.size w w' := by
  have hbn := below_new w (.cells #[.int .i64 0, .int .i64 0, .slice none 0 0] 34)
  have hQ := BlockIs.made w 34 #[.int .i64 0, .int .i64 0, .slice none 0 0]
  have HS := Lib.hid (shapeless_any τ _ (hU.below hbn) A b c (hb.below hbn))
  have HB1 := Lib.hid (hb.below hbn)
  obtain ⟨w1, hw1⟩ : ∃ w1, w.alloc (.cells #[.int .i64 0, .int .i64 0, .slice none 0 0] 34) = w1 := ⟨_, rfl⟩
  rw [hw1] at hbn hQ HS HB1
  have H1 := Lib.hid (And.intro hbn hQ)
  have Hw1 := Lib.hid hw1
  by_cases hbad : badB b
  · rw [if_pos hbad] at HS
    rw [openB_shape hbad]
    clear hbn hQ hC hU hb hw1 hbad
    go_enter Tryz.func143, Tryz.ntmps143
    go_wp2_with fail
    rw [Hw1.out]
    refine HS.out.mono ?_
    rintro e w' ⟨v, rfl, hF, rfl⟩
    obtain ⟨pos, a, rfl, ha⟩ := hF.four
    have Ha := Lib.hid ha
    obtain ⟨y0, y1, y2, y3, y4, y5⟩ := unit_cells H1.out.2
    clear ha hF
    go_wp2_with fail
    clear y0 y1 y2 y3 y4 y5
    have UZ := Lib.hid (unit_set H1.out.2 (.int .i64 0) (.int .i64 0) (.slice none 0 0))
    have BZ := Lib.hid (below_set3 H1.out.1 (Nat.le_refl _) (.int .i64 0) (.int .i64 0) (.slice none 0 0))
    generalize ((w1.setCell ⟨w.heap.size, 0, none⟩ (.int .i64 0)).setCell ⟨w.heap.size, 1, none⟩ (.int .i64 0)).setCell ⟨w.heap.size, 2, none⟩ (.slice none 0 0) = wz at *
    obtain ⟨z0, z1, z2, _, _, _⟩ := unit_cells UZ.out
    exact bodyPost_ret (v := .tuple #[.agg #[.int .i64 0, .int .i64 0, .slice none 0 0], flawV pos a]) (by simp [results, Tryz.results143, go_sem, z0, z1, z2]) rfl ⟨_, none, 0, rfl, Ha.out, World.ownsRow_nil _ _ _ _, BZ.out⟩
  · rw [if_neg hbad] at HS
    have hwb : ¬ (b.length ≠ 256 ∨ b.getD 0 0 < 1 ∨ 8 < b.getD 0 0) := hbad
    have hl : b.length = 256 := by omega
    obtain ⟨b0, off, rfl⟩ := hb.some_ (by intro e; rw [e] at hl; exact absurd hl (by decide))
    rw [hl] at HS hbc ⊢
    have HN := Lib.hid (newOpener_any σ w1 b0 off b c HB1.out hl hbc (by omega))
    have HC := Lib.hid hC
    have HU := Lib.hid hU
    have HB := Lib.hid hb
    have Hl := Lib.hid hl
    have Hbc := Lib.hid (show 256 ≤ c ∧ c ≤ 9223372036854775807 from ⟨hbc, by omega⟩)
    have Hbad := Lib.hid hbad
    have HOs := Lib.hid (fun (h : ¬ fitsB b) => openB_sum hwb h)
    clear hbn hQ hC hU hb hw1 hbad hwb hl hbc
    go_enter Tryz.func143, Tryz.ntmps143
    go_wp2_with fail
    rw [Hw1.out]
    refine HS.out.mono ?_
    rintro e w' ⟨v, rfl, hF, rfl⟩
    obtain rfl := hF.zero
    clear hF
    go_wp2_with fail
    refine HN.out.mono ?_
    rintro e w2 ⟨g, rfl, hg, hrd, hb2⟩
    have Q2 := Lib.hid (H1.out.2.below hb2 H1.out.2.lt)
    have hgl2 := hrd.lt
    have hb3 := below_new w2 (.cells #[.pointer (some ⟨g, 0, none⟩), .slice (some ⟨b0, off, none⟩) 256 c] 273)
    have P3 := Lib.hid (BlockIs.made w2 273 #[.pointer (some ⟨g, 0, none⟩), .slice (some ⟨b0, off, none⟩) 256 c])
    have Q3 := Lib.hid (Q2.out.below hb3 Q2.out.lt)
    have b03 := (H1.out.1.trans (hb2.mono H1.out.1.size)).trans (hb3.mono (Nat.le_trans H1.out.1.size hb2.size))
    have hgq : w.heap.size < g := Nat.lt_of_lt_of_le H1.out.2.lt hg
    have hsz2 : w2.heap.size ≠ g := by omega
    obtain ⟨w3, hw3⟩ : ∃ w3, w2.alloc (.cells #[.pointer (some ⟨g, 0, none⟩), .slice (some ⟨b0, off, none⟩) 256 c] 273) = w3 := ⟨_, rfl⟩
    rw [hw3] at hb3 P3 Q3 b03
    have hE : OpE σ τ w w3 g b0 off c b := ⟨⟨HC.out, b03, by omega⟩, HU.out, HB.out, Hl.out, Hbc.out⟩
    have E3 := Lib.hid hE
    have hrd3 := hrd.below hb3
    have HUs := Lib.hid (unsealed_any hE hrd3 hrd3.lt)
    have Hw3 := Lib.hid hw3
    have HG := Lib.hid (And.intro hgq (And.intro hsz2 hrd3.lt))
    have d0 : w3.cell? ⟨w2.heap.size, 0, none⟩ = some (.pointer (some ⟨g, 0, none⟩)) := P3.out.cell 0
    have d1 : w3.cell? ⟨w2.heap.size, 1, none⟩ = some (.slice (some ⟨b0, off, none⟩) 256 c) := P3.out.cell 1
    clear hrd hb2 hb3 hg hgl2 b03 hw3 hE hrd3 hgq hsz2 HN HS
    go_wp2_with fail
    rw [Hw3.out]
    refine HUs.out.mono ?_
    rintro e w4 ⟨v, rfl, hF, hrd4, hg4⟩
    have Q4 := Lib.hid (Q3.out.kept hg4 (fun e => by have := Option.some.inj e; have := HG.out.1; omega))
    have P4 := Lib.hid (P3.out.kept hg4 (fun e => HG.out.2.1 (Option.some.inj e)))
    have E4 := Lib.hid (E3.out.at_ hg4)
    have Rd4 := Lib.hid hrd4
    clear d0 d1 hg4 hrd4 HUs
    by_cases hf : fitsB b
    · obtain rfl := FlawOf.zero (show FlawOf τ 0 v by rw [if_pos hf] at hF; exact hF)
      have HUn := Lib.hid (unit_any E4.out Rd4.out (by have := Rd4.out.lt; exact this) Hbad.out hf)
      have d0 : w4.cell? ⟨w2.heap.size, 0, none⟩ = some (.pointer (some ⟨g, 0, none⟩)) := P4.out.cell 0
      have d1 : w4.cell? ⟨w2.heap.size, 1, none⟩ = some (.slice (some ⟨b0, off, none⟩) 256 c) := P4.out.cell 1
      clear hF hf
      go_wp2_with fail
      clear d0 d1
      refine HUn.out.mono ?_
      rintro e w5 ⟨v, X, k, rfl, hF, ho, hg5⟩
      have Q5 := Lib.hid (Q4.out.kept hg5 (fun e => by have := Option.some.inj e; have := HG.out.1; omega))
      have B5 := Lib.hid (below_grown E4.out.env.bl hg5 E4.out.env.bl.size E4.out.env.lo)
      have hq4 := Q4.out.lt
      have O5 := Lib.hid (And.intro hF (And.intro ho (own_set3 (q := w.heap.size) (x := .int .i64 (openB b).1.kind) (y := .int .i64 (openB b).1.num) (z := .slice X (openB b).1.body.length k) ho hq4)))
      clear hF ho hg5 HUn
      obtain ⟨y0, y1, y2, y3, y4, y5⟩ := unit_cells Q5.out
      unfold UnitV.val
      obtain ⟨r, hop⟩ : ∃ r, openB b = r := ⟨_, rfl⟩
      rw [hop] at O5 ⊢
      obtain ⟨u, code⟩ := r
      simp only at O5 ⊢
      have Hop := Lib.hid hop
      clear hop
      go_wp2_with fail
      clear y0 y1 y2 y3 y4 y5
      have UZ := Lib.hid (unit_set Q5.out (.int .i64 u.kind) (.int .i64 u.num) (.slice X u.body.length k))
      have BZ := Lib.hid (below_set3 B5.out (Nat.le_refl _) (.int .i64 u.kind) (.int .i64 u.num) (.slice X u.body.length k))
      have OZ := Lib.hid (own_mono O5.out.2.2 (show w.heap.size ≤ w4.heap.size by omega))
      have HFz := Lib.hid O5.out.1
      clear O5 hq4
      generalize ((w5.setCell ⟨w.heap.size, 0, none⟩ (.int .i64 u.kind)).setCell ⟨w.heap.size, 1, none⟩ (.int .i64 u.num)).setCell ⟨w.heap.size, 2, none⟩ (.slice X u.body.length k) = wz at *
      obtain ⟨z0, z1, z2, _, _, _⟩ := unit_cells UZ.out
      exact bodyPost_ret (v := .tuple #[.agg #[.int .i64 u.kind, .int .i64 u.num, .slice X u.body.length k], v]) (by simp [results, Tryz.results143, go_sem, z0, z1, z2]) rfl (by rw [Hop.out]; exact ⟨v, X, k, rfl, HFz.out, OZ.out, BZ.out⟩)
    · obtain ⟨pos, a, rfl, ha⟩ := FlawOf.some_ (k := 5) (by decide) (show FlawOf τ 5 v by rw [if_neg hf] at hF; exact hF)
      have Ha := Lib.hid ha
      have Hop := Lib.hid (HOs.out hf)
      have B4 := Lib.hid E4.out.env.bl
      obtain ⟨y0, y1, y2, y3, y4, y5⟩ := unit_cells Q4.out
      clear hF hf ha
      go_wp2_with fail
      clear y0 y1 y2 y3 y4 y5
      have UZ := Lib.hid (unit_set Q4.out (.int .i64 0) (.int .i64 0) (.slice none 0 0))
      have BZ := Lib.hid (below_set3 B4.out (Nat.le_refl _) (.int .i64 0) (.int .i64 0) (.slice none 0 0))
      rw [Hop.out]
      generalize ((w4.setCell ⟨w.heap.size, 0, none⟩ (.int .i64 0)).setCell ⟨w.heap.size, 1, none⟩ (.int .i64 0)).setCell ⟨w.heap.size, 2, none⟩ (.slice none 0 0) = wz at *
      obtain ⟨z0, z1, z2, _, _, _⟩ := unit_cells UZ.out
      exact bodyPost_ret (v := .tuple #[.agg #[.int .i64 0, .int .i64 0, .slice none 0 0], flawV pos a]) (by simp [results, Tryz.results143, go_sem, z0, z1, z2]) rfl ⟨_, none, 0, rfl, Ha.out, World.ownsRow_nil _ _ _ _, BZ.out⟩
end Go.Proofs.YtpdfmpegcejmkaaGreatDoor
