/- The listed variables of the rows of law 04 that have a disk. -/
import Derived.Test.YtmmebaphhgggfaaGreatDoorLaw04Facts
import Derived.Test.YtmmebaphhgggfaaGreatDoorDevErr
namespace Go.Proofs.YtmmebaphhgggfaaGreatDoor
open Go.ChangeShapes Go.WideShapes Go.RowKit Go.Deep
theorem g_dev_errNil : Tryz.prog.globalNamed "limpet/dev.errNil" = some 1 := by kernel_rfl
theorem tg_dev_errNil : (Tryz.prog.globals[1]?).map (·.type) = some 81 := by kernel_rfl
theorem g_dev_errDown : Tryz.prog.globalNamed "limpet/dev.errDown" = some 2 := by kernel_rfl
theorem tg_dev_errDown : (Tryz.prog.globals[2]?).map (·.type) = some 81 := by kernel_rfl
theorem g_dev_errBlock : Tryz.prog.globalNamed "limpet/dev.errBlock" = some 4 := by kernel_rfl
theorem tg_dev_errBlock : (Tryz.prog.globals[4]?).map (·.type) = some 81 := by kernel_rfl
theorem g_dev_errLong : Tryz.prog.globalNamed "limpet/dev.errLong" = some 6 := by kernel_rfl
theorem tg_dev_errLong : (Tryz.prog.globals[6]?).map (·.type) = some 81 := by kernel_rfl
theorem g_dev_errSame : Tryz.prog.globalNamed "limpet/dev.errSame" = some 5 := by kernel_rfl
theorem tg_dev_errSame : (Tryz.prog.globals[5]?).map (·.type) = some 81 := by kernel_rfl
theorem g_dev_errHurt : Tryz.prog.globalNamed "limpet/dev.errHurt" = some 3 := by kernel_rfl
theorem tg_dev_errHurt : (Tryz.prog.globals[3]?).map (·.type) = some 81 := by kernel_rfl
abbrev laidUHS : List (String × DataW Unit) := [("limpet/dev.errNil", Rows.laid_limpet_dev_errNil), ("limpet/dev.errDown", Rows.laid_limpet_dev_errDown), ("limpet/dev.errBlock", Rows.laid_limpet_dev_errBlock), ("limpet/dev.errLong", Rows.laid_limpet_dev_errLong), ("limpet/dev.errSame", Rows.laid_limpet_dev_errSame), ("limpet/dev.errHurt", Rows.laid_limpet_dev_errHurt), ("limpet/code.errWidth", Rows.laid_limpet_code_errWidth), ("limpet/code.errFew", Rows.laid_limpet_code_errFew), ("limpet/code.errGreat", Rows.laid_limpet_code_errGreat), ("limpet/code.errMuch", Rows.laid_limpet_code_errMuch), ("limpet/unit.errBytes", Rows.laid_limpet_unit_errBytes), ("limpet/unit.errKind", Rows.laid_limpet_unit_errKind), ("limpet/unit.errSum", Rows.laid_limpet_unit_errSum), ("limpet/unit.errNum", Rows.laid_limpet_unit_errNum), ("limpet/unit.errBody", Rows.laid_limpet_unit_errBody), ("limpet/unit.errNought", Rows.laid_limpet_unit_errNought), ("limpet/unit.errEnd", Rows.laid_limpet_unit_errEnd), ("limpet/unit.errOther", Rows.laid_limpet_unit_errOther)]
abbrev laidUH : List (String × DataW Unit) := ("errors.errorType", Rows.laid_errors_errorType) :: laidUHS
abbrev laidU5S : List (String × DataW Unit) := [("limpet/dev.errNil", Rows.laid_limpet_dev_errNil), ("limpet/dev.errDown", Rows.laid_limpet_dev_errDown), ("limpet/dev.errBlock", Rows.laid_limpet_dev_errBlock), ("limpet/dev.errLong", Rows.laid_limpet_dev_errLong), ("limpet/dev.errHurt", Rows.laid_limpet_dev_errHurt), ("limpet/code.errWidth", Rows.laid_limpet_code_errWidth), ("limpet/code.errFew", Rows.laid_limpet_code_errFew), ("limpet/code.errGreat", Rows.laid_limpet_code_errGreat), ("limpet/code.errMuch", Rows.laid_limpet_code_errMuch), ("limpet/unit.errBytes", Rows.laid_limpet_unit_errBytes), ("limpet/unit.errKind", Rows.laid_limpet_unit_errKind), ("limpet/unit.errSum", Rows.laid_limpet_unit_errSum), ("limpet/unit.errNum", Rows.laid_limpet_unit_errNum), ("limpet/unit.errBody", Rows.laid_limpet_unit_errBody), ("limpet/unit.errNought", Rows.laid_limpet_unit_errNought), ("limpet/unit.errEnd", Rows.laid_limpet_unit_errEnd), ("limpet/unit.errOther", Rows.laid_limpet_unit_errOther)]
abbrev laidU5 : List (String × DataW Unit) := ("errors.errorType", Rows.laid_errors_errorType) :: laidU5S
set_option maxRecDepth 100000 in
theorem gl_laidUH {W : World} (h : laidMetH Tryz.prog laidUH W) : ∃ (σ : Sen) (τ : SenU) (δ : SenD), GlAt σ W ∧ GlU τ W ∧ GlD δ W ∧ GlS δ W := by
  have h' : laidMet Tryz.prog laidUHS W ∧ handlesMet Tryz.prog [("errors.errorType", Rows.laid_errors_errorType)] W := h
  obtain ⟨⟨ps, hL, hnd, hrows⟩, hh⟩ := h'
  obtain ⟨a0, X0, q0, c0, b0, h0, rfl, m0⟩ := sent_step hL hrows g_dev_errNil tg_dev_errNil
  have r0 := rows_tail hrows
  have n0 := (List.nodup_append.1 hnd).2.1
  obtain ⟨a1, X1, q1, c1, b1, h1, rfl, m1⟩ := sent_step h0 r0 g_dev_errDown tg_dev_errDown
  have r1 := rows_tail r0
  have n1 := (List.nodup_append.1 n0).2.1
  obtain ⟨a2, X2, q2, c2, b2, h2, rfl, m2⟩ := sent_step h1 r1 g_dev_errBlock tg_dev_errBlock
  have r2 := rows_tail r1
  have n2 := (List.nodup_append.1 n1).2.1
  obtain ⟨a3, X3, q3, c3, b3, h3, rfl, m3⟩ := sent_step h2 r2 g_dev_errLong tg_dev_errLong
  have r3 := rows_tail r2
  have n3 := (List.nodup_append.1 n2).2.1
  obtain ⟨a4, X4, q4, c4, b4, h4, rfl, m4⟩ := sent_step h3 r3 g_dev_errSame tg_dev_errSame
  have r4 := rows_tail r3
  have n4 := (List.nodup_append.1 n3).2.1
  obtain ⟨a5, X5, q5, c5, b5, h5, rfl, m5⟩ := sent_step h4 r4 g_dev_errHurt tg_dev_errHurt
  have r5 := rows_tail r4
  have n5 := (List.nodup_append.1 n4).2.1
  obtain ⟨a6, X6, q6, c6, b6, h6, rfl, m6⟩ := sent_step h5 r5 g_code_errWidth tg_code_errWidth
  have r6 := rows_tail r5
  have n6 := (List.nodup_append.1 n5).2.1
  obtain ⟨a7, X7, q7, c7, b7, h7, rfl, m7⟩ := sent_step h6 r6 g_code_errFew tg_code_errFew
  have r7 := rows_tail r6
  have n7 := (List.nodup_append.1 n6).2.1
  obtain ⟨a8, X8, q8, c8, b8, h8, rfl, m8⟩ := sent_step h7 r7 g_code_errGreat tg_code_errGreat
  have r8 := rows_tail r7
  have n8 := (List.nodup_append.1 n7).2.1
  obtain ⟨a9, X9, q9, c9, b9, h9, rfl, m9⟩ := sent_step h8 r8 g_code_errMuch tg_code_errMuch
  have r9 := rows_tail r8
  have n9 := (List.nodup_append.1 n8).2.1
  obtain ⟨a10, X10, q10, c10, b10, h10, rfl, m10⟩ := sent_step h9 r9 g_unit_errBytes tg_unit_errBytes
  have r10 := rows_tail r9
  have n10 := (List.nodup_append.1 n9).2.1
  obtain ⟨a11, X11, q11, c11, b11, h11, rfl, m11⟩ := sent_step h10 r10 g_unit_errKind tg_unit_errKind
  have r11 := rows_tail r10
  have n11 := (List.nodup_append.1 n10).2.1
  obtain ⟨a12, X12, q12, c12, b12, h12, rfl, m12⟩ := sent_step h11 r11 g_unit_errSum tg_unit_errSum
  have r12 := rows_tail r11
  have n12 := (List.nodup_append.1 n11).2.1
  obtain ⟨a13, X13, q13, c13, b13, h13, rfl, m13⟩ := sent_step h12 r12 g_unit_errNum tg_unit_errNum
  have r13 := rows_tail r12
  have n13 := (List.nodup_append.1 n12).2.1
  obtain ⟨a14, X14, q14, c14, b14, h14, rfl, m14⟩ := sent_step h13 r13 g_unit_errBody tg_unit_errBody
  have r14 := rows_tail r13
  have n14 := (List.nodup_append.1 n13).2.1
  obtain ⟨a15, X15, q15, c15, b15, h15, rfl, m15⟩ := sent_step h14 r14 g_unit_errNought tg_unit_errNought
  have r15 := rows_tail r14
  have n15 := (List.nodup_append.1 n14).2.1
  obtain ⟨a16, X16, q16, c16, b16, h16, rfl, m16⟩ := sent_step h15 r15 g_unit_errEnd tg_unit_errEnd
  have r16 := rows_tail r15
  have n16 := (List.nodup_append.1 n15).2.1
  obtain ⟨a17, X17, q17, c17, b17, h17, rfl, m17⟩ := sent_step h16 r16 g_unit_errOther tg_unit_errOther
  obtain ⟨name, u, ty, e1, e2, e3, e4, e5⟩ := hh _ (List.mem_singleton.2 rfl)
  have en : name = [101, 114, 114, 111, 114] := (Option.some.inj e1).symm
  subst en
  obtain rfl := Option.some.inj (rtRow.symm.trans e2)
  have hm : ty ∈ (List.range 299).filter fun t => Tryz.prog.rowNamed t [101, 114, 114, 111, 114] := List.mem_filter.2 ⟨List.mem_range.2 (by rw [← typesSize]; exact e3), e4⟩
  rw [oneRow] at hm
  obtain rfl := List.mem_singleton.1 hm
  have hth : typeHandle Tryz.prog 81 = .pointer (some ⟨19, 81, none⟩) := by kernel_rfl
  rw [hth] at e5
  have cty0 := World.var?_cell gTy e5 0
  have cty : W.cell? ⟨11, 0, none⟩ = some (.iface 250 (.agg #[.pointer (some ⟨19, 81, none⟩)])) := by simpa using cty0
  have GC : GlAt ⟨a6, a7, a8, a9, a7⟩ W := by
    refine ⟨c6, c7, c8, c9, cty, ?_, places_ne n5 m6 (List.mem_append_right _ (List.mem_append_right _ (List.mem_append_left _ m9))), places_ne n6 m7 (List.mem_append_right _ (List.mem_append_left _ m9)), places_ne n7 m8 (List.mem_append_left _ m9), places_ne n6 m7 (List.mem_append_right _ (List.mem_append_left _ m9))⟩
    rintro a (rfl | rfl | rfl | rfl | rfl)
    · exact b6
    · exact b7
    · exact b8
    · exact b9
    · exact b7
  have GU : GlU ⟨a10, a11, a12, a13, a14, a15, a16, a17⟩ W := by
    refine ⟨c10, c11, c12, c13, c14, c15, c16, c17, cty, ?_, ⟨places_ne n9 m10 (List.mem_append_right _ (List.mem_append_left _ m12)), places_ne n10 m11 (List.mem_append_left _ m12), (places_ne n11 m12 (List.mem_append_left _ m13)).symm, (places_ne n11 m12 (List.mem_append_right _ (List.mem_append_left _ m14))).symm, (places_ne n11 m12 (List.mem_append_right _ (List.mem_append_right _ (List.mem_append_left _ m15)))).symm, (places_ne n11 m12 (List.mem_append_right _ (List.mem_append_right _ (List.mem_append_right _ (List.mem_append_left _ m16))))).symm, (places_ne n11 m12 (List.mem_append_right _ (List.mem_append_right _ (List.mem_append_right _ (List.mem_append_right _ (List.mem_append_left _ m17)))))).symm⟩, ⟨places_ne n9 m10 (List.mem_append_right _ (List.mem_append_right _ (List.mem_append_right _ (List.mem_append_right _ (List.mem_append_right _ (List.mem_append_right _ (List.mem_append_left _ m17))))))), places_ne n10 m11 (List.mem_append_right _ (List.mem_append_right _ (List.mem_append_right _ (List.mem_append_right _ (List.mem_append_right _ (List.mem_append_left _ m17)))))), places_ne n12 m13 (List.mem_append_right _ (List.mem_append_right _ (List.mem_append_right _ (List.mem_append_left _ m17)))), places_ne n13 m14 (List.mem_append_right _ (List.mem_append_right _ (List.mem_append_left _ m17))), places_ne n14 m15 (List.mem_append_right _ (List.mem_append_left _ m17)), places_ne n15 m16 (List.mem_append_left _ m17)⟩⟩
    rintro a (rfl | rfl | rfl | rfl | rfl | rfl | rfl | rfl)
    · exact b10
    · exact b11
    · exact b12
    · exact b13
    · exact b14
    · exact b15
    · exact b16
    · exact b17
  have GD : GlD ⟨a0, a1, a2, a3, a5, a4⟩ W := ⟨c0, c1, c2, c3, c5, b0, b1, b2, b3, b5, (places_ne hnd m0 (List.mem_append_left _ m1)).symm, (places_ne hnd m0 (List.mem_append_right _ (List.mem_append_right _ (List.mem_append_right _ (List.mem_append_right _ (List.mem_append_left _ m5)))))).symm, (places_ne n0 m1 (List.mem_append_right _ (List.mem_append_right _ (List.mem_append_right _ (List.mem_append_left _ m5))))).symm, ⟨(places_ne hnd m0 (List.mem_append_right _ (List.mem_append_left _ m2))).symm, (places_ne n0 m1 (List.mem_append_left _ m2)).symm, places_ne n1 m2 (List.mem_append_right _ (List.mem_append_right _ (List.mem_append_left _ m5)))⟩, ⟨(places_ne hnd m0 (List.mem_append_right _ (List.mem_append_right _ (List.mem_append_left _ m3)))).symm, (places_ne n0 m1 (List.mem_append_right _ (List.mem_append_left _ m3))).symm, places_ne n2 m3 (List.mem_append_right _ (List.mem_append_left _ m5))⟩⟩
  have GS : GlS ⟨a0, a1, a2, a3, a5, a4⟩ W := ⟨c4, b4, ⟨(places_ne hnd m0 (List.mem_append_right _ (List.mem_append_right _ (List.mem_append_right _ (List.mem_append_left _ m4))))).symm, (places_ne n0 m1 (List.mem_append_right _ (List.mem_append_right _ (List.mem_append_left _ m4)))).symm, places_ne n3 m4 (List.mem_append_left _ m5)⟩⟩
  exact ⟨_, _, _, GC, GU, GD, GS⟩
set_option maxRecDepth 100000 in
theorem gl_laidU5 {W : World} (h : laidMetH Tryz.prog laidU5 W) : ∃ (σ : Sen) (τ : SenU) (δ : SenD), GlAt σ W ∧ GlU τ W ∧ GlD δ W := by
  have h' : laidMet Tryz.prog laidU5S W ∧ handlesMet Tryz.prog [("errors.errorType", Rows.laid_errors_errorType)] W := h
  obtain ⟨⟨ps, hL, hnd, hrows⟩, hh⟩ := h'
  obtain ⟨a0, X0, q0, c0, b0, h0, rfl, m0⟩ := sent_step hL hrows g_dev_errNil tg_dev_errNil
  have r0 := rows_tail hrows
  have n0 := (List.nodup_append.1 hnd).2.1
  obtain ⟨a1, X1, q1, c1, b1, h1, rfl, m1⟩ := sent_step h0 r0 g_dev_errDown tg_dev_errDown
  have r1 := rows_tail r0
  have n1 := (List.nodup_append.1 n0).2.1
  obtain ⟨a2, X2, q2, c2, b2, h2, rfl, m2⟩ := sent_step h1 r1 g_dev_errBlock tg_dev_errBlock
  have r2 := rows_tail r1
  have n2 := (List.nodup_append.1 n1).2.1
  obtain ⟨a3, X3, q3, c3, b3, h3, rfl, m3⟩ := sent_step h2 r2 g_dev_errLong tg_dev_errLong
  have r3 := rows_tail r2
  have n3 := (List.nodup_append.1 n2).2.1
  obtain ⟨a4, X4, q4, c4, b4, h4, rfl, m4⟩ := sent_step h3 r3 g_dev_errHurt tg_dev_errHurt
  have r4 := rows_tail r3
  have n4 := (List.nodup_append.1 n3).2.1
  obtain ⟨a5, X5, q5, c5, b5, h5, rfl, m5⟩ := sent_step h4 r4 g_code_errWidth tg_code_errWidth
  have r5 := rows_tail r4
  have n5 := (List.nodup_append.1 n4).2.1
  obtain ⟨a6, X6, q6, c6, b6, h6, rfl, m6⟩ := sent_step h5 r5 g_code_errFew tg_code_errFew
  have r6 := rows_tail r5
  have n6 := (List.nodup_append.1 n5).2.1
  obtain ⟨a7, X7, q7, c7, b7, h7, rfl, m7⟩ := sent_step h6 r6 g_code_errGreat tg_code_errGreat
  have r7 := rows_tail r6
  have n7 := (List.nodup_append.1 n6).2.1
  obtain ⟨a8, X8, q8, c8, b8, h8, rfl, m8⟩ := sent_step h7 r7 g_code_errMuch tg_code_errMuch
  have r8 := rows_tail r7
  have n8 := (List.nodup_append.1 n7).2.1
  obtain ⟨a9, X9, q9, c9, b9, h9, rfl, m9⟩ := sent_step h8 r8 g_unit_errBytes tg_unit_errBytes
  have r9 := rows_tail r8
  have n9 := (List.nodup_append.1 n8).2.1
  obtain ⟨a10, X10, q10, c10, b10, h10, rfl, m10⟩ := sent_step h9 r9 g_unit_errKind tg_unit_errKind
  have r10 := rows_tail r9
  have n10 := (List.nodup_append.1 n9).2.1
  obtain ⟨a11, X11, q11, c11, b11, h11, rfl, m11⟩ := sent_step h10 r10 g_unit_errSum tg_unit_errSum
  have r11 := rows_tail r10
  have n11 := (List.nodup_append.1 n10).2.1
  obtain ⟨a12, X12, q12, c12, b12, h12, rfl, m12⟩ := sent_step h11 r11 g_unit_errNum tg_unit_errNum
  have r12 := rows_tail r11
  have n12 := (List.nodup_append.1 n11).2.1
  obtain ⟨a13, X13, q13, c13, b13, h13, rfl, m13⟩ := sent_step h12 r12 g_unit_errBody tg_unit_errBody
  have r13 := rows_tail r12
  have n13 := (List.nodup_append.1 n12).2.1
  obtain ⟨a14, X14, q14, c14, b14, h14, rfl, m14⟩ := sent_step h13 r13 g_unit_errNought tg_unit_errNought
  have r14 := rows_tail r13
  have n14 := (List.nodup_append.1 n13).2.1
  obtain ⟨a15, X15, q15, c15, b15, h15, rfl, m15⟩ := sent_step h14 r14 g_unit_errEnd tg_unit_errEnd
  have r15 := rows_tail r14
  have n15 := (List.nodup_append.1 n14).2.1
  obtain ⟨a16, X16, q16, c16, b16, h16, rfl, m16⟩ := sent_step h15 r15 g_unit_errOther tg_unit_errOther
  obtain ⟨name, u, ty, e1, e2, e3, e4, e5⟩ := hh _ (List.mem_singleton.2 rfl)
  have en : name = [101, 114, 114, 111, 114] := (Option.some.inj e1).symm
  subst en
  obtain rfl := Option.some.inj (rtRow.symm.trans e2)
  have hm : ty ∈ (List.range 299).filter fun t => Tryz.prog.rowNamed t [101, 114, 114, 111, 114] := List.mem_filter.2 ⟨List.mem_range.2 (by rw [← typesSize]; exact e3), e4⟩
  rw [oneRow] at hm
  obtain rfl := List.mem_singleton.1 hm
  have hth : typeHandle Tryz.prog 81 = .pointer (some ⟨19, 81, none⟩) := by kernel_rfl
  rw [hth] at e5
  have cty0 := World.var?_cell gTy e5 0
  have cty : W.cell? ⟨11, 0, none⟩ = some (.iface 250 (.agg #[.pointer (some ⟨19, 81, none⟩)])) := by simpa using cty0
  have GC : GlAt ⟨a5, a6, a7, a8, a6⟩ W := by
    refine ⟨c5, c6, c7, c8, cty, ?_, places_ne n4 m5 (List.mem_append_right _ (List.mem_append_right _ (List.mem_append_left _ m8))), places_ne n5 m6 (List.mem_append_right _ (List.mem_append_left _ m8)), places_ne n6 m7 (List.mem_append_left _ m8), places_ne n5 m6 (List.mem_append_right _ (List.mem_append_left _ m8))⟩
    rintro a (rfl | rfl | rfl | rfl | rfl)
    · exact b5
    · exact b6
    · exact b7
    · exact b8
    · exact b6
  have GU : GlU ⟨a9, a10, a11, a12, a13, a14, a15, a16⟩ W := by
    refine ⟨c9, c10, c11, c12, c13, c14, c15, c16, cty, ?_, ⟨places_ne n8 m9 (List.mem_append_right _ (List.mem_append_left _ m11)), places_ne n9 m10 (List.mem_append_left _ m11), (places_ne n10 m11 (List.mem_append_left _ m12)).symm, (places_ne n10 m11 (List.mem_append_right _ (List.mem_append_left _ m13))).symm, (places_ne n10 m11 (List.mem_append_right _ (List.mem_append_right _ (List.mem_append_left _ m14)))).symm, (places_ne n10 m11 (List.mem_append_right _ (List.mem_append_right _ (List.mem_append_right _ (List.mem_append_left _ m15))))).symm, (places_ne n10 m11 (List.mem_append_right _ (List.mem_append_right _ (List.mem_append_right _ (List.mem_append_right _ (List.mem_append_left _ m16)))))).symm⟩, ⟨places_ne n8 m9 (List.mem_append_right _ (List.mem_append_right _ (List.mem_append_right _ (List.mem_append_right _ (List.mem_append_right _ (List.mem_append_right _ (List.mem_append_left _ m16))))))), places_ne n9 m10 (List.mem_append_right _ (List.mem_append_right _ (List.mem_append_right _ (List.mem_append_right _ (List.mem_append_right _ (List.mem_append_left _ m16)))))), places_ne n11 m12 (List.mem_append_right _ (List.mem_append_right _ (List.mem_append_right _ (List.mem_append_left _ m16)))), places_ne n12 m13 (List.mem_append_right _ (List.mem_append_right _ (List.mem_append_left _ m16))), places_ne n13 m14 (List.mem_append_right _ (List.mem_append_left _ m16)), places_ne n14 m15 (List.mem_append_left _ m16)⟩⟩
    rintro a (rfl | rfl | rfl | rfl | rfl | rfl | rfl | rfl)
    · exact b9
    · exact b10
    · exact b11
    · exact b12
    · exact b13
    · exact b14
    · exact b15
    · exact b16
  have GD : GlD ⟨a0, a1, a2, a3, a4, a0⟩ W := ⟨c0, c1, c2, c3, c4, b0, b1, b2, b3, b4, (places_ne hnd m0 (List.mem_append_left _ m1)).symm, (places_ne hnd m0 (List.mem_append_right _ (List.mem_append_right _ (List.mem_append_right _ (List.mem_append_left _ m4))))).symm, (places_ne n0 m1 (List.mem_append_right _ (List.mem_append_right _ (List.mem_append_left _ m4)))).symm, ⟨(places_ne hnd m0 (List.mem_append_right _ (List.mem_append_left _ m2))).symm, (places_ne n0 m1 (List.mem_append_left _ m2)).symm, places_ne n1 m2 (List.mem_append_right _ (List.mem_append_left _ m4))⟩, ⟨(places_ne hnd m0 (List.mem_append_right _ (List.mem_append_right _ (List.mem_append_left _ m3)))).symm, (places_ne n0 m1 (List.mem_append_right _ (List.mem_append_left _ m3))).symm, places_ne n2 m3 (List.mem_append_left _ m4)⟩⟩
  exact ⟨_, _, _, GC, GU, GD⟩
theorem door_laidUH (os : Os) (args : Array Value) : laidMetH Tryz.prog laidUH ((World.doorLaid Tryz.prog 400 os).forCall (fun _ _ => 0) ⟨#[], args, []⟩).memory :=
  laidMetH_of_parts3 (fuel := 8) (laidMet_of_run' 8 (by kernel_rfl) (by kernel_rfl)) (by kernel_rfl) (by kernel_rfl)
theorem door_laidU5 (os : Os) (args : Array Value) : laidMetH Tryz.prog laidU5 ((World.doorLaid Tryz.prog 400 os).forCall (fun _ _ => 0) ⟨#[], args, []⟩).memory :=
  laidMetH_of_parts3 (fuel := 8) (laidMet_of_run' 8 (by kernel_rfl) (by kernel_rfl)) (by kernel_rfl) (by kernel_rfl)
end Go.Proofs.YtmmebaphhgggfaaGreatDoor
