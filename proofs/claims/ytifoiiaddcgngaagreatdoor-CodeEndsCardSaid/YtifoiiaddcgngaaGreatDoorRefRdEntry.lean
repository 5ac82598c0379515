/- The document's own reader: entries, and what is left. -/
import Derived.Test.YtifoiiaddcgngaaGreatDoorRefRdRow
import Derived.Test.YtifoiiaddcgngaaGreatDoorReadEntry
namespace Go.Proofs.YtifoiiaddcgngaaGreatDoor
open Go.RowKit
theorem entryR_bad3 (bs : List Int) (s : RSt) (p : Nat) (l : Bool) (h : (fieldR bs 6 (fieldR bs 6 (fieldR bs 1 s).2).2).2 = .bad p l) : entryR bs s = (noEnt, .bad p l) := by
  cases s with
  | bad p' l' => exact congrArg (fun q => (noEnt, q)) h
  | ok k => rw [entryR_of, h]; rfl
theorem field3_ok (bs : List Int) (s : RSt) (j : Nat) (h : (fieldR bs 6 (fieldR bs 6 (fieldR bs 1 s).2).2).2 = .ok j) : ∃ k, s = .ok k := by
  cases s with
  | bad p l => exact absurd h (by intro e; cases e)
  | ok k => exact ⟨k, rfl⟩
theorem RGot.set4 {lo : Nat} {w w' : World} {g q : Nat} {bs : List Int} {s : RSt} (h : RGot lo w g bs s w') (hq : w.heap.size ≤ q) (hg : g < w.heap.size) (a b c d : Value) : RGot lo w g bs s ((((w'.setCell ⟨q, 0, none⟩ a).setCell ⟨q, 1, none⟩ b).setCell ⟨q, 2, none⟩ c).setCell ⟨q, 3, none⟩ d) :=
  ⟨h.rd.kept (set4_grown w' q a b c d) (fun b e => by cases e; have := h.rd.low; omega), set4_far h.fr hq a b c d⟩
theorem rleft_ref {lo : Nat} (w : World) (g : Nat) (bs : List Int) (s : RSt) (h : RrAt lo w g bs s) (hl : bs.length ≤ 140737488351232) :
    Calls Tryz.prog 43 #[.pointer (some ⟨g, 0, none⟩)] w fun e w' => e = .returned (.int .i64 (leftR bs s)) ∧ ∃ n, w' = w.drewN n := by
  obtain ⟨x, cap, k, e, b, h⟩ := h
  obtain ⟨c0, c1, c2, c3⟩ := h.cells
  have hst := h.st
  clear h
  cases s with
  | bad p l =>
    obtain ⟨rfl, rfl, hk⟩ := hst
    have hne : (errCode l != 0) = true := by cases l <;> rfl
    go_enter Tryz.func43, Tryz.ntmps43
    go_wp2_with fail
    go_ret
    exact ⟨rfl, 0, rfl⟩
  | ok j =>
    obtain ⟨rfl, rfl, rfl, hk⟩ := hst
    go_enter Tryz.func43, Tryz.ntmps43
    go_wp2_with fail
    go_quiet (fail)
    go_wp2_with fail
    go_ret
    exact ⟨rfl, _, rfl⟩
set_option maxRecDepth 100000 in
set_option maxHeartbeats 4000000 in
theorem rrEntry_any {lo : Nat} (w : World) (g : Nat) (bs : List Int) (s : RSt) (h : RrAt lo w g bs s) (hl : bs.length ≤ 140737488351232) :
    Calls Tryz.prog 40 #[.pointer (some ⟨g, 0, none⟩)] w fun e w' => ∃ v, e = .returned (.agg #[.int .i64 (entryR bs s).1.index, .int .i64 (entryR bs s).1.term, .int .i64 (entryR bs s).1.kind, v]) ∧ w'.ownsRow w.heap.size 5 1 v (entryR bs s).1.body.length (u8s (entryR bs s).1.body) ∧ RGot lo w g bs (entryR bs s).2 w' := by
  have hgl := h.lt
  have hbn := below_new w (.cells #[.int .i64 0, .int .i64 0, .int .i64 0, .slice none 0 0] 28)
  have hB : BlockIs (w.alloc (.cells #[.int .i64 0, .int .i64 0, .int .i64 0, .slice none 0 0] 28)) w.heap.size 28 #[.int .i64 0, .int .i64 0, .int .i64 0, .slice none 0 0] := BlockIs.made w _ _
  have h0 := h.below hbn
  have hG0 : RGot lo w g bs s (w.alloc (.cells #[.int .i64 0, .int .i64 0, .int .i64 0, .slice none 0 0] 28)) := (RGot.same h).on hbn
  obtain ⟨x, cap, k, e0, b0, hI⟩ := h0
  obtain ⟨c0, c1, c2, c3⟩ := hI.cells
  have Hst := Lib.hid hI.st
  have HbB := Lib.hid (And.intro hbn hB)
  have HG0 := Lib.hid hG0
  clear hI h hbn hB hG0
  go_enter Tryz.func40, Tryz.ntmps40
  go_wp2_with fail
  generalize w.alloc _ = w0 at *
  refine (rrField_any w0 g bs s 1 HG0.out.rd hl (by omega)).mono ?_
  rintro e w1 ⟨rfl, hG⟩
  have HG1 := Lib.hid (And.intro hG (HG0.out.trans hG))
  have hEb := entryR_bad3 bs s
  have hEk : ∀ k j, s = .ok k → (fieldR bs 6 (fieldR bs 6 (fieldR bs 1 s).2).2).2 = .ok j → entryR bs s = match (textR bs 65535 (.ok j)).2 with
    | .bad p l => (noEnt, .bad p l)
    | .ok i => if rightB ⟨(fieldR bs 6 (fieldR bs 1 s).2).1, (fieldR bs 6 (fieldR bs 6 (fieldR bs 1 s).2).2).1, (fieldR bs 1 s).1, (textR bs 65535 (.ok j)).1⟩
      then (⟨(fieldR bs 6 (fieldR bs 1 s).2).1, (fieldR bs 6 (fieldR bs 6 (fieldR bs 1 s).2).2).1, (fieldR bs 1 s).1, (textR bs 65535 (.ok j)).1⟩, .ok i) else (noEnt, .bad k false) := by
    intro k j hs h3
    subst hs
    rw [entryR_of, h3]
    cases (textR bs 65535 (RSt.ok j)).2 <;> rfl
  have hEo := field3_ok bs s
  have hE := Lib.hid (And.intro hEb (And.intro hEk hEo))
  generalize hr1 : fieldR bs 1 s = r1 at *
  generalize hr2 : fieldR bs 6 r1.2 = r2 at *
  generalize hr3 : fieldR bs 6 r2.2 = r3 at *
  have HR := Lib.hid (And.intro hr1 (And.intro hr2 hr3))
  clear hG c0 c1 c2 c3 hEb hEk hEo hr1 hr2 hr3
  go_wp2_with fail
  refine (rrField_any w1 g bs r1.2 6 HG1.out.1.rd hl (by omega)).mono ?_
  rw [HR.out.2.1]
  rintro e w2 ⟨rfl, hG⟩
  have HG2 := Lib.hid (And.intro hG (HG1.out.2.trans hG))
  clear hG
  go_wp2_with fail
  refine (rrField_any w2 g bs r2.2 6 HG2.out.1.rd hl (by omega)).mono ?_
  rw [HR.out.2.2]
  rintro e w3 ⟨rfl, hG⟩
  have HG3 := Lib.hid (And.intro hG (HG2.out.2.trans hG))
  have hgr : w0.grownBy w3 (some g) := (HG1.out.1.fr.trans HG2.out.1.fr).trans hG.fr
  have hB3 := HbB.out.2.kept hgr (fun e => by have := Option.some.inj e; omega)
  have HB3 := Lib.hid (And.intro hgr hB3)
  have hw0 := HbB.out.1.size
  have hq0 : w.heap.size < w0.heap.size := HbB.out.2.lt
  have hsz3 := hgr.size
  clear hG hgr hB3
  obtain ⟨x3, cap3, k3, e3, b3, hI3⟩ := HG3.out.1.rd
  obtain ⟨d0, d1, d2, d3⟩ := hI3.cells
  have hst3 := hI3.st
  have HI3 := Lib.hid hI3
  clear hI3
  cases h3 : r3.2 with
  | bad p l =>
    rw [h3] at hst3
    obtain ⟨rfl, rfl, hk3⟩ := hst3
    have hne : (errCode l != 0) = true := by cases l <;> rfl
    have He := Lib.hid (hE.out.1 p l h3)
    have hG3' : RGot lo w g bs (.bad p l) w3 := by rw [← h3]; exact HG3.out.2
    have HZ := Lib.hid (And.intro (hG3'.set4 (Nat.le_refl w.heap.size) hgl (.int .i64 0) (.int .i64 0) (.int .i64 0) (.slice none 0 0)) (HB3.out.2.set4 (.int .i64 0) (.int .i64 0) (.int .i64 0) (.slice none 0 0)))
    clear hG3'
    have y0 := HB3.out.2.free 0
    have y1 := HB3.out.2.free 1
    have y2 := HB3.out.2.free 2
    have y3 := HB3.out.2.free 3
    obtain ⟨u0, u1, u2, u3⟩ := entry_cells HB3.out.2
    clear h3
    go_wp2_with fail
    have hZ := HZ.out
    clear d0 d1 d2 d3 y0 y1 y2 y3 u0 u1 u2 u3
    generalize (((w3.setCell ⟨w.heap.size, 0, none⟩ (.int .i64 0)).setCell ⟨w.heap.size, 1, none⟩ (.int .i64 0)).setCell ⟨w.heap.size, 2, none⟩ (.int .i64 0)).setCell ⟨w.heap.size, 3, none⟩ (.slice none 0 0) = wz at *
    obtain ⟨z0, z1, z2, z3⟩ := entry_cells hZ.2
    exact bodyPost_ret (v := .agg #[.int .i64 0, .int .i64 0, .int .i64 0, .slice none 0 0]) (by simp [results, Tryz.results40, go_sem, z0, z1, z2, z3]) rfl ⟨.slice none 0 0, by rw [He.out]; rfl, by rw [He.out]; exact World.ownsRow_nil _ _ _ _, by rw [He.out]; exact hZ.1⟩
  | ok j =>
    rw [h3] at hst3
    obtain ⟨rfl, rfl, rfl, hk3⟩ := hst3
    obtain ⟨ks, rfl⟩ := hE.out.2.2 k3 h3
    obtain ⟨rfl, _, _, hkl⟩ := Hst.out
    have He := Lib.hid (hE.out.2.1 k k3 rfl h3)
    have HT := Lib.hid (rrText_any w3 g bs (.ok k3) 65535 (h3 ▸ HG3.out.1.rd) hl)
    have HG3k := Lib.hid (show RGot lo w g bs (.ok k3) w3 by rw [← h3]; exact HG3.out.2)
    clear h3
    go_wp2_with fail
    refine HT.out.mono ?_
    rintro e w4 ⟨v, rfl, hown4, hG4⟩
    have hG4w := HG3k.out.trans hG4
    have hB4 := HB3.out.2.kept hG4.fr (fun e => by have := Option.some.inj e; omega)
    have hsz4 := hG4.fr.size
    generalize hrt : textR bs 65535 (RSt.ok k3) = rt at *
    have Hrt := Lib.hid hrt
    obtain ⟨X, cx, rfl, hcx, hcxm⟩ := own_slice hown4
    have hlt4 : rt.1.length ≤ bs.length := by rw [← Hrt.out]; exact textR_le bs 65535 _
    obtain ⟨x4, cap4, k4, e4, b4, hI4⟩ := hG4.rd
    have hst4 := hI4.st
    go_upto_region 9 with fail
    have hbE := below_new w4 (.cells #[.int .i64 r2.1, .int .i64 r3.1, .int .i64 r1.1, .slice X rt.1.length cx] 28)
    have hEB : BlockIs (w4.alloc (.cells #[.int .i64 r2.1, .int .i64 r3.1, .int .i64 r1.1, .slice X rt.1.length cx] 28)) w4.heap.size 28 #[.int .i64 r2.1, .int .i64 r3.1, .int .i64 r1.1, .slice X rt.1.length cx] := BlockIs.made w4 _ _
    have hB5 := hB4.below hbE hB4.lt
    have hI5 := hI4.below hbE
    have hG5 := hG4w.on hbE
    have hown5 := ownsRow_below hown4 hbE
    obtain ⟨q8, hq8⟩ : ∃ q8, w4.heap.size = q8 := ⟨_, rfl⟩
    have hq8w : w.heap.size ≤ q8 := by omega
    rw [hq8] at hEB ⊢
    generalize w4.alloc _ = w5 at *
    have H5 := Lib.hid (And.intro hEB (And.intro hB5 (And.intro hG5 hown5)))
    obtain ⟨d0, d1, d2, d3⟩ := hI5.cells
    have HI5 := Lib.hid hI5
    have HT4 := Lib.hid (show BytesAt w5 X rt.1 ∨ True from .inr trivial)
    clear hown4 hG4 hG4w hB4 hI4 hrt hbE hEB hB5 hI5 hG5 hown5 hq8 HT4
    cases h4 : rt.2 with
    | bad p l =>
      rw [h4] at hst4
      obtain ⟨rfl, rfl, hk4⟩ := hst4
      have hne : (errCode l != 0) = true := by cases l <;> rfl
      have heq : (errCode l == 0) = false := by cases l <;> rfl
      have He2 := Lib.hid (show entryR bs (.ok k) = (noEnt, .bad p l) by rw [He.out, h4])
      have hG5' : RGot lo w g bs (.bad p l) w5 := by rw [← h4]; exact H5.out.2.2.1
      have HZ := Lib.hid (And.intro (hG5'.set4 (Nat.le_refl w.heap.size) hgl (.int .i64 0) (.int .i64 0) (.int .i64 0) (.slice none 0 0)) (H5.out.2.1.set4 (.int .i64 0) (.int .i64 0) (.int .i64 0) (.slice none 0 0)))
      have y0 := H5.out.2.1.free 0
      have y1 := H5.out.2.1.free 1
      have y2 := H5.out.2.1.free 2
      have y3 := H5.out.2.1.free 3
      obtain ⟨u0, u1, u2, u3⟩ := entry_cells H5.out.2.1
      clear h4 hG5'
      go_wp2_with fail
      have hZ := HZ.out
      clear d0 d1 d2 d3 y0 y1 y2 y3 u0 u1 u2 u3
      generalize (((w5.setCell ⟨w.heap.size, 0, none⟩ (.int .i64 0)).setCell ⟨w.heap.size, 1, none⟩ (.int .i64 0)).setCell ⟨w.heap.size, 2, none⟩ (.int .i64 0)).setCell ⟨w.heap.size, 3, none⟩ (.slice none 0 0) = wz at *
      obtain ⟨z0, z1, z2, z3⟩ := entry_cells hZ.2
      exact bodyPost_ret (v := .agg #[.int .i64 0, .int .i64 0, .int .i64 0, .slice none 0 0]) (by simp [results, Tryz.results40, go_sem, z0, z1, z2, z3]) rfl ⟨.slice none 0 0, by rw [He2.out]; rfl, by rw [He2.out]; exact World.ownsRow_nil _ _ _ _, by rw [He2.out]; exact hZ.1⟩
    | ok i =>
      rw [h4] at hst4
      obtain ⟨rfl, rfl, rfl, hk4⟩ := hst4
      obtain ⟨v0, v1, v2, v3⟩ := entry_cells H5.out.1
      have HRt := Lib.hid (refRight_any w5 ⟨r2.1, r3.1, r1.1, rt.1⟩ X cx (by show rt.1.length ≤ _; omega))
      have He2 := Lib.hid (show entryR bs (.ok k) = if rightB ⟨r2.1, r3.1, r1.1, rt.1⟩ then (⟨r2.1, r3.1, r1.1, rt.1⟩, .ok k4) else (noEnt, .bad k false) by rw [He.out, h4])
      have hG5' : RGot lo w g bs (.ok k4) w5 := by rw [← h4]; exact H5.out.2.2.1
      have HG5 := Lib.hid hG5'
      clear h4 hG5'
      go_wp2_with fail
      refine HRt.out.mono ?_
      rintro e w6 ⟨rfl, hb6⟩
      have HG6 := Lib.hid (HG5.out.on hb6)
      have hB6 := H5.out.2.1.below hb6 H5.out.2.1.lt
      have hE6 := H5.out.1.below hb6 H5.out.1.lt
      have hown6 := ownsRow_below H5.out.2.2.2 hb6
      have hI6 := HI5.out.below hb6
      obtain ⟨d0, d1, d2, d3⟩ := hI6.cells
      have H6 := Lib.hid (And.intro hE6 (And.intro hB6 hown6))
      clear hb6 hB6 hE6 hown6 hI6 v0 v1 v2 v3
      by_cases hr : rightB ⟨r2.1, r3.1, r1.1, rt.1⟩ = true
      · rw [hr]
        have He3 := Lib.hid (show entryR bs (.ok k) = (⟨r2.1, r3.1, r1.1, rt.1⟩, .ok k4) by rw [He2.out, if_pos hr])
        have HZ := Lib.hid (And.intro (HG6.out.set4 (Nat.le_refl w.heap.size) hgl (.int .i64 r2.1) (.int .i64 r3.1) (.int .i64 r1.1) (.slice X rt.1.length cx)) (And.intro (H6.out.2.1.set4 (.int .i64 r2.1) (.int .i64 r3.1) (.int .i64 r1.1) (.slice X rt.1.length cx)) H6.out.2.2))
        obtain ⟨v0, v1, v2, v3⟩ := entry_cells H6.out.1
        have y0 := H6.out.2.1.free 0
        have y1 := H6.out.2.1.free 1
        have y2 := H6.out.2.1.free 2
        have y3 := H6.out.2.1.free 3
        obtain ⟨u0, u1, u2, u3⟩ := entry_cells H6.out.2.1
        have HO := Lib.hid (own_base (H6.out.2.2.kept (set4_grown w6 w.heap.size (.int .i64 r2.1) (.int .i64 r3.1) (.int .i64 r1.1) (.slice X rt.1.length cx)) (by
          cases hb : (Value.slice X rt.1.length cx).ownBlock with
          | none => exact .inl rfl
          | some b => exact .inr (fun e => by have := (H6.out.2.2.lt b hb).1; have := Option.some.inj e; omega))) (show w.heap.size ≤ w3.heap.size by omega))
        clear hr
        go_wp2_with fail
        have hZ := HZ.out
        have hO := HO.out
        clear d0 d1 d2 d3 y0 y1 y2 y3 u0 u1 u2 u3 v0 v1 v2 v3
        generalize (((w6.setCell ⟨w.heap.size, 0, none⟩ (.int .i64 r2.1)).setCell ⟨w.heap.size, 1, none⟩ (.int .i64 r3.1)).setCell ⟨w.heap.size, 2, none⟩ (.int .i64 r1.1)).setCell ⟨w.heap.size, 3, none⟩ (.slice X rt.1.length cx) = wz at *
        obtain ⟨z0, z1, z2, z3⟩ := entry_cells hZ.2.1
        exact bodyPost_ret (v := .agg #[.int .i64 r2.1, .int .i64 r3.1, .int .i64 r1.1, .slice X rt.1.length cx]) (by simp [results, Tryz.results40, go_sem, z0, z1, z2, z3]) rfl ⟨.slice X rt.1.length cx, by rw [He3.out], by rw [He3.out]; exact hO, by rw [He3.out]; exact hZ.1⟩
      · have hrf : rightB ⟨r2.1, r3.1, r1.1, rt.1⟩ = false := by simpa using hr
        rw [hrf]
        have He3 := Lib.hid (show entryR bs (.ok k) = (noEnt, .bad k false) by rw [He2.out, if_neg hr])
        have HFl := Lib.hid (rrfail_any w6 g bs k4 k false HG6.out.rd)
        unfold errCode at HFl
        clear hr hrf
        go_wp2_with fail
        refine HFl.out.mono ?_
        rintro e w7 ⟨rfl, hG7⟩
        have hG7w := HG6.out.trans hG7
        have hB7 := H6.out.2.1.kept hG7.fr (fun e => by have := Option.some.inj e; omega)
        obtain ⟨x7, cap7, k7, e7, b7, hI7⟩ := hG7.rd
        obtain ⟨rfl, rfl, hk7⟩ := hI7.st
        obtain ⟨d0, d1, d2, d3⟩ := hI7.cells
        unfold errCode at d2
        have HZ := Lib.hid (And.intro (hG7w.set4 (Nat.le_refl w.heap.size) hgl (.int .i64 0) (.int .i64 0) (.int .i64 0) (.slice none 0 0)) (hB7.set4 (.int .i64 0) (.int .i64 0) (.int .i64 0) (.slice none 0 0)))
        have y0 := hB7.free 0
        have y1 := hB7.free 1
        have y2 := hB7.free 2
        have y3 := hB7.free 3
        obtain ⟨u0, u1, u2, u3⟩ := entry_cells hB7
        clear hG7 hG7w hB7 hI7
        go_wp2_with fail
        have hZ := HZ.out
        clear d0 d1 d2 d3 y0 y1 y2 y3 u0 u1 u2 u3
        generalize (((w7.setCell ⟨w.heap.size, 0, none⟩ (.int .i64 0)).setCell ⟨w.heap.size, 1, none⟩ (.int .i64 0)).setCell ⟨w.heap.size, 2, none⟩ (.int .i64 0)).setCell ⟨w.heap.size, 3, none⟩ (.slice none 0 0) = wz at *
        obtain ⟨z0, z1, z2, z3⟩ := entry_cells hZ.2
        exact bodyPost_ret (v := .agg #[.int .i64 0, .int .i64 0, .int .i64 0, .slice none 0 0]) (by simp [results, Tryz.results40, go_sem, z0, z1, z2, z3]) rfl ⟨.slice none 0 0, by rw [He3.out]; rfl, by rw [He3.out]; exact World.ownsRow_nil _ _ _ _, by rw [He3.out]; exact hZ.1⟩
end Go.Proofs.YtifoiiaddcgngaaGreatDoor
