/- What the rows of law 08 share: the listed variables as they are laid. -/
/- Shapes, idents that come in, opened; rows of rows. -/
import Derived.Test.YtpdfmpegcejmkaaGreatDoorKitSent
import Derived.Test.YtpdfmpegcejmkaaGreatDoorUnitErr
import Derived.Test.YtpdfmpegcejmkaaGreatDoorCodeRight
import Derived.Test.YtpdfmpegcejmkaaGreatDoorFlawAs
namespace Go.Proofs.YtpdfmpegcejmkaaGreatDoor
open Go.ChangeShapes Go.WideShapes Go.RowKit Go.Deep
theorem g_code_errWidth : Tryz.prog.globalNamed "limpet/code.errWidth" = some 6 := by kernel_rfl
theorem tg_code_errWidth : (Tryz.prog.globals[6]?).map (·.type) = some 106 := by kernel_rfl
theorem g_code_errFew : Tryz.prog.globalNamed "limpet/code.errFew" = some 7 := by kernel_rfl
theorem tg_code_errFew : (Tryz.prog.globals[7]?).map (·.type) = some 106 := by kernel_rfl
theorem g_code_errGreat : Tryz.prog.globalNamed "limpet/code.errGreat" = some 8 := by kernel_rfl
theorem tg_code_errGreat : (Tryz.prog.globals[8]?).map (·.type) = some 106 := by kernel_rfl
theorem g_code_errMuch : Tryz.prog.globalNamed "limpet/code.errMuch" = some 12 := by kernel_rfl
theorem tg_code_errMuch : (Tryz.prog.globals[12]?).map (·.type) = some 106 := by kernel_rfl
theorem g_unit_errBytes : Tryz.prog.globalNamed "limpet/unit.errBytes" = some 13 := by kernel_rfl
theorem tg_unit_errBytes : (Tryz.prog.globals[13]?).map (·.type) = some 106 := by kernel_rfl
theorem g_unit_errKind : Tryz.prog.globalNamed "limpet/unit.errKind" = some 14 := by kernel_rfl
theorem tg_unit_errKind : (Tryz.prog.globals[14]?).map (·.type) = some 106 := by kernel_rfl
theorem g_unit_errSum : Tryz.prog.globalNamed "limpet/unit.errSum" = some 15 := by kernel_rfl
theorem tg_unit_errSum : (Tryz.prog.globals[15]?).map (·.type) = some 106 := by kernel_rfl
theorem g_unit_errNum : Tryz.prog.globalNamed "limpet/unit.errNum" = some 16 := by kernel_rfl
theorem tg_unit_errNum : (Tryz.prog.globals[16]?).map (·.type) = some 106 := by kernel_rfl
theorem g_unit_errBody : Tryz.prog.globalNamed "limpet/unit.errBody" = some 17 := by kernel_rfl
theorem tg_unit_errBody : (Tryz.prog.globals[17]?).map (·.type) = some 106 := by kernel_rfl
theorem g_unit_errNought : Tryz.prog.globalNamed "limpet/unit.errNought" = some 19 := by kernel_rfl
theorem tg_unit_errNought : (Tryz.prog.globals[19]?).map (·.type) = some 106 := by kernel_rfl
theorem g_unit_errEnd : Tryz.prog.globalNamed "limpet/unit.errEnd" = some 18 := by kernel_rfl
theorem tg_unit_errEnd : (Tryz.prog.globals[18]?).map (·.type) = some 106 := by kernel_rfl
theorem g_unit_errOther : Tryz.prog.globalNamed "limpet/unit.errOther" = some 11 := by kernel_rfl
theorem tg_unit_errOther : (Tryz.prog.globals[11]?).map (·.type) = some 106 := by kernel_rfl
theorem g_seg_errEntry : Tryz.prog.globalNamed "limpet/seg.errEntry" = some 9 := by kernel_rfl
theorem tg_seg_errEntry : (Tryz.prog.globals[9]?).map (·.type) = some 106 := by kernel_rfl
theorem g_seg_errSegment : Tryz.prog.globalNamed "limpet/seg.errSegment" = some 5 := by kernel_rfl
theorem tg_seg_errSegment : (Tryz.prog.globals[5]?).map (·.type) = some 106 := by kernel_rfl
theorem g_seg_errMany : Tryz.prog.globalNamed "limpet/seg.errMany" = some 4 := by kernel_rfl
theorem tg_seg_errMany : (Tryz.prog.globals[4]?).map (·.type) = some 106 := by kernel_rfl
theorem g_seg_errOrder : Tryz.prog.globalNamed "limpet/seg.errOrder" = some 0 := by kernel_rfl
theorem tg_seg_errOrder : (Tryz.prog.globals[0]?).map (·.type) = some 106 := by kernel_rfl
theorem g_seg_errIndex : Tryz.prog.globalNamed "limpet/seg.errIndex" = some 3 := by kernel_rfl
theorem tg_seg_errIndex : (Tryz.prog.globals[3]?).map (·.type) = some 106 := by kernel_rfl
theorem g_seg_errBody : Tryz.prog.globalNamed "limpet/seg.errBody" = some 1 := by kernel_rfl
theorem tg_seg_errBody : (Tryz.prog.globals[1]?).map (·.type) = some 106 := by kernel_rfl
theorem g_seg_errFoot : Tryz.prog.globalNamed "limpet/seg.errFoot" = some 2 := by kernel_rfl
theorem tg_seg_errFoot : (Tryz.prog.globals[2]?).map (·.type) = some 106 := by kernel_rfl
abbrev laidGS : List (String × DataW Unit) := [("limpet/code.errWidth", Rows.laid_limpet_code_errWidth), ("limpet/code.errFew", Rows.laid_limpet_code_errFew), ("limpet/code.errGreat", Rows.laid_limpet_code_errGreat), ("limpet/code.errMuch", Rows.laid_limpet_code_errMuch), ("limpet/unit.errBytes", Rows.laid_limpet_unit_errBytes), ("limpet/unit.errKind", Rows.laid_limpet_unit_errKind), ("limpet/unit.errSum", Rows.laid_limpet_unit_errSum), ("limpet/unit.errNum", Rows.laid_limpet_unit_errNum), ("limpet/unit.errBody", Rows.laid_limpet_unit_errBody), ("limpet/unit.errNought", Rows.laid_limpet_unit_errNought), ("limpet/unit.errEnd", Rows.laid_limpet_unit_errEnd), ("limpet/unit.errOther", Rows.laid_limpet_unit_errOther), ("limpet/seg.errEntry", Rows.laid_limpet_seg_errEntry), ("limpet/seg.errSegment", Rows.laid_limpet_seg_errSegment), ("limpet/seg.errMany", Rows.laid_limpet_seg_errMany), ("limpet/seg.errOrder", Rows.laid_limpet_seg_errOrder), ("limpet/seg.errIndex", Rows.laid_limpet_seg_errIndex), ("limpet/seg.errBody", Rows.laid_limpet_seg_errBody), ("limpet/seg.errFoot", Rows.laid_limpet_seg_errFoot)]
abbrev laidG : List (String × DataW Unit) := ("errors.errorType", Rows.laid_errors_errorType) :: laidGS
theorem gTy : Tryz.prog.globalNamed "errors.errorType" = some 10 := by kernel_rfl
theorem rtRow : (Tryz.prog.cutTypes.find? (·.1 == "internal/reflectlite.rtype")).map (·.2) = some 256 := by kernel_rfl
theorem typesSize : Tryz.prog.types.size = 320 := by kernel_rfl
theorem oneRow : ((List.range 320).filter fun t => Tryz.prog.rowNamed t [101, 114, 114, 111, 114]) = [106] := by kernel_rfl
set_option maxRecDepth 100000 in
theorem gl_laidG {W : World} (h : laidMetH Tryz.prog laidG W) : ∃ (σ : Sen) (τ : SenU) (ρ : SenQ), GlAt σ W ∧ GlU τ W ∧ GlQ ρ W ∧ GlM ρ W := by
  have h' : laidMet Tryz.prog laidGS W ∧ handlesMet Tryz.prog [("errors.errorType", Rows.laid_errors_errorType)] W := h
  obtain ⟨⟨ps, hL, hnd, hrows⟩, hh⟩ := h'
  obtain ⟨a0, X0, q0, c0, b0, h0, rfl, m0⟩ := sent_step hL hrows g_code_errWidth tg_code_errWidth
  have r0 := rows_tail hrows
  have n0 := (List.nodup_append.1 hnd).2.1
  obtain ⟨a1, X1, q1, c1, b1, h1, rfl, m1⟩ := sent_step h0 r0 g_code_errFew tg_code_errFew
  have r1 := rows_tail r0
  have n1 := (List.nodup_append.1 n0).2.1
  obtain ⟨a2, X2, q2, c2, b2, h2, rfl, m2⟩ := sent_step h1 r1 g_code_errGreat tg_code_errGreat
  have r2 := rows_tail r1
  have n2 := (List.nodup_append.1 n1).2.1
  obtain ⟨a3, X3, q3, c3, b3, h3, rfl, m3⟩ := sent_step h2 r2 g_code_errMuch tg_code_errMuch
  have r3 := rows_tail r2
  have n3 := (List.nodup_append.1 n2).2.1
  obtain ⟨a4, X4, q4, c4, b4, h4, rfl, m4⟩ := sent_step h3 r3 g_unit_errBytes tg_unit_errBytes
  have r4 := rows_tail r3
  have n4 := (List.nodup_append.1 n3).2.1
  obtain ⟨a5, X5, q5, c5, b5, h5, rfl, m5⟩ := sent_step h4 r4 g_unit_errKind tg_unit_errKind
  have r5 := rows_tail r4
  have n5 := (List.nodup_append.1 n4).2.1
  obtain ⟨a6, X6, q6, c6, b6, h6, rfl, m6⟩ := sent_step h5 r5 g_unit_errSum tg_unit_errSum
  have r6 := rows_tail r5
  have n6 := (List.nodup_append.1 n5).2.1
  obtain ⟨a7, X7, q7, c7, b7, h7, rfl, m7⟩ := sent_step h6 r6 g_unit_errNum tg_unit_errNum
  have r7 := rows_tail r6
  have n7 := (List.nodup_append.1 n6).2.1
  obtain ⟨a8, X8, q8, c8, b8, h8, rfl, m8⟩ := sent_step h7 r7 g_unit_errBody tg_unit_errBody
  have r8 := rows_tail r7
  have n8 := (List.nodup_append.1 n7).2.1
  obtain ⟨a9, X9, q9, c9, b9, h9, rfl, m9⟩ := sent_step h8 r8 g_unit_errNought tg_unit_errNought
  have r9 := rows_tail r8
  have n9 := (List.nodup_append.1 n8).2.1
  obtain ⟨a10, X10, q10, c10, b10, h10, rfl, m10⟩ := sent_step h9 r9 g_unit_errEnd tg_unit_errEnd
  have r10 := rows_tail r9
  have n10 := (List.nodup_append.1 n9).2.1
  obtain ⟨a11, X11, q11, c11, b11, h11, rfl, m11⟩ := sent_step h10 r10 g_unit_errOther tg_unit_errOther
  have r11 := rows_tail r10
  have n11 := (List.nodup_append.1 n10).2.1
  obtain ⟨a12, X12, q12, c12, b12, h12, rfl, m12⟩ := sent_step h11 r11 g_seg_errEntry tg_seg_errEntry
  have r12 := rows_tail r11
  have n12 := (List.nodup_append.1 n11).2.1
  obtain ⟨a13, X13, q13, c13, b13, h13, rfl, m13⟩ := sent_step h12 r12 g_seg_errSegment tg_seg_errSegment
  have r13 := rows_tail r12
  have n13 := (List.nodup_append.1 n12).2.1
  obtain ⟨a14, X14, q14, c14, b14, h14, rfl, m14⟩ := sent_step h13 r13 g_seg_errMany tg_seg_errMany
  have r14 := rows_tail r13
  have n14 := (List.nodup_append.1 n13).2.1
  obtain ⟨a15, X15, q15, c15, b15, h15, rfl, m15⟩ := sent_step h14 r14 g_seg_errOrder tg_seg_errOrder
  have r15 := rows_tail r14
  have n15 := (List.nodup_append.1 n14).2.1
  obtain ⟨a16, X16, q16, c16, b16, h16, rfl, m16⟩ := sent_step h15 r15 g_seg_errIndex tg_seg_errIndex
  have r16 := rows_tail r15
  have n16 := (List.nodup_append.1 n15).2.1
  obtain ⟨a17, X17, q17, c17, b17, h17, rfl, m17⟩ := sent_step h16 r16 g_seg_errBody tg_seg_errBody
  have r17 := rows_tail r16
  have n17 := (List.nodup_append.1 n16).2.1
  obtain ⟨a18, X18, q18, c18, b18, h18, rfl, m18⟩ := sent_step h17 r17 g_seg_errFoot tg_seg_errFoot
  obtain ⟨name, u, ty, e1, e2, e3, e4, e5⟩ := hh _ (List.mem_singleton.2 rfl)
  have en : name = [101, 114, 114, 111, 114] := (Option.some.inj e1).symm
  subst en
  obtain rfl := Option.some.inj (rtRow.symm.trans e2)
  have hm : ty ∈ (List.range 320).filter fun t => Tryz.prog.rowNamed t [101, 114, 114, 111, 114] := List.mem_filter.2 ⟨List.mem_range.2 (by rw [← typesSize]; exact e3), e4⟩
  rw [oneRow] at hm
  obtain rfl := List.mem_singleton.1 hm
  have hth : typeHandle Tryz.prog 106 = .pointer (some ⟨20, 106, none⟩) := by kernel_rfl
  rw [hth] at e5
  have cty0 := World.var?_cell gTy e5 0
  have cty : W.cell? ⟨10, 0, none⟩ = some (.iface 256 (.agg #[.pointer (some ⟨20, 106, none⟩)])) := by simpa using cty0
  have GC : GlAt ⟨a0, a1, a2, a3, a1⟩ W := by
    refine ⟨c0, c1, c2, c3, cty, ?_, places_ne hnd m0 (List.mem_append_right _ (List.mem_append_right _ (List.mem_append_left _ m3))), places_ne n0 m1 (List.mem_append_right _ (List.mem_append_left _ m3)), places_ne n1 m2 (List.mem_append_left _ m3), places_ne n0 m1 (List.mem_append_right _ (List.mem_append_left _ m3))⟩
    rintro a (rfl | rfl | rfl | rfl | rfl)
    · exact b0
    · exact b1
    · exact b2
    · exact b3
    · exact b1
  have GU : GlU ⟨a4, a5, a6, a7, a8, a9, a10, a11⟩ W := by
    refine ⟨c4, c5, c6, c7, c8, c9, c10, c11, cty, ?_, ⟨places_ne n3 m4 (List.mem_append_right _ (List.mem_append_left _ m6)), places_ne n4 m5 (List.mem_append_left _ m6), (places_ne n5 m6 (List.mem_append_left _ m7)).symm, (places_ne n5 m6 (List.mem_append_right _ (List.mem_append_left _ m8))).symm, (places_ne n5 m6 (List.mem_append_right _ (List.mem_append_right _ (List.mem_append_left _ m9)))).symm, (places_ne n5 m6 (List.mem_append_right _ (List.mem_append_right _ (List.mem_append_right _ (List.mem_append_left _ m10))))).symm, (places_ne n5 m6 (List.mem_append_right _ (List.mem_append_right _ (List.mem_append_right _ (List.mem_append_right _ (List.mem_append_left _ m11)))))).symm⟩, ⟨places_ne n3 m4 (List.mem_append_right _ (List.mem_append_right _ (List.mem_append_right _ (List.mem_append_right _ (List.mem_append_right _ (List.mem_append_right _ (List.mem_append_left _ m11))))))), places_ne n4 m5 (List.mem_append_right _ (List.mem_append_right _ (List.mem_append_right _ (List.mem_append_right _ (List.mem_append_right _ (List.mem_append_left _ m11)))))), places_ne n6 m7 (List.mem_append_right _ (List.mem_append_right _ (List.mem_append_right _ (List.mem_append_left _ m11)))), places_ne n7 m8 (List.mem_append_right _ (List.mem_append_right _ (List.mem_append_left _ m11))), places_ne n8 m9 (List.mem_append_right _ (List.mem_append_left _ m11)), places_ne n9 m10 (List.mem_append_left _ m11)⟩⟩
    rintro a (rfl | rfl | rfl | rfl | rfl | rfl | rfl | rfl)
    · exact b4
    · exact b5
    · exact b6
    · exact b7
    · exact b8
    · exact b9
    · exact b10
    · exact b11
  have GQ : GlQ ⟨a12, a13, a14, a15, a16, a17, a18⟩ W := by
    refine ⟨c12, c15, c16, c17, c18, cty, ?_, places_ne n11 m12 (List.mem_append_right _ (List.mem_append_right _ (List.mem_append_left _ m15))), places_ne n11 m12 (List.mem_append_right _ (List.mem_append_right _ (List.mem_append_right _ (List.mem_append_left _ m16)))), places_ne n11 m12 (List.mem_append_right _ (List.mem_append_right _ (List.mem_append_right _ (List.mem_append_right _ (List.mem_append_left _ m17))))), places_ne n11 m12 (List.mem_append_right _ (List.mem_append_right _ (List.mem_append_right _ (List.mem_append_right _ (List.mem_append_right _ (List.mem_append_left _ m18)))))), places_ne n12 m13 (List.mem_append_right _ (List.mem_append_left _ m15)), places_ne n12 m13 (List.mem_append_right _ (List.mem_append_right _ (List.mem_append_left _ m16))), places_ne n12 m13 (List.mem_append_right _ (List.mem_append_right _ (List.mem_append_right _ (List.mem_append_left _ m17)))), places_ne n12 m13 (List.mem_append_right _ (List.mem_append_right _ (List.mem_append_right _ (List.mem_append_right _ (List.mem_append_left _ m18))))), places_ne n13 m14 (List.mem_append_left _ m15), places_ne n13 m14 (List.mem_append_right _ (List.mem_append_left _ m16)), places_ne n13 m14 (List.mem_append_right _ (List.mem_append_right _ (List.mem_append_left _ m17))), places_ne n13 m14 (List.mem_append_right _ (List.mem_append_right _ (List.mem_append_right _ (List.mem_append_left _ m18)))), (places_ne n14 m15 (List.mem_append_left _ m16)).symm, (places_ne n14 m15 (List.mem_append_right _ (List.mem_append_left _ m17))).symm, (places_ne n15 m16 (List.mem_append_left _ m17)).symm, (places_ne n14 m15 (List.mem_append_right _ (List.mem_append_right _ (List.mem_append_left _ m18)))).symm, (places_ne n15 m16 (List.mem_append_right _ (List.mem_append_left _ m18))).symm, (places_ne n16 m17 (List.mem_append_left _ m18)).symm⟩
    rintro a (rfl | rfl | rfl | rfl | rfl | rfl | rfl)
    · exact b12
    · exact b13
    · exact b14
    · exact b15
    · exact b16
    · exact b17
    · exact b18
  have GM : GlM ⟨a12, a13, a14, a15, a16, a17, a18⟩ W := ⟨c13, c14⟩
  exact ⟨_, _, _, GC, GU, GQ, GM⟩
theorem door_laidG (os : Os) (args : Array Value) : laidMetH Tryz.prog laidG ((World.doorLaid Tryz.prog 800 os).forCall (fun _ _ => 0) ⟨#[], args, []⟩).memory :=
  laidMetH_of_parts3 (fuel := 8) (laidMet_of_run' 8 (by kernel_rfl) (by kernel_rfl)) (by kernel_rfl) (by kernel_rfl)
theorem list3 {α : Type} (l : List α) (h : l.length = 3) : ∃ a b c, l = [a, b, c] := by
  match l, h with
  | [a, b, c], _ => exact ⟨a, b, c, rfl⟩
end Go.Proofs.YtpdfmpegcejmkaaGreatDoor
namespace Go.Proofs.YtpdfmpegcejmkaaGreatDoor
open Go.ChangeShapes Go.WideShapes Go.RowKit Go.Deep
theorem cellsRow : Tryz.prog.cellsOf 27 = 1 := by kernel_rfl
theorem bytesRow : Tryz.prog.bytesOf 27 = 24 := by kernel_rfl
theorem cellsIdent8 : Tryz.prog.cellsOf 26 = 3 := by kernel_rfl
theorem cellsShape : Tryz.prog.cellsOf 23 = 3 := by kernel_rfl
theorem cellsEKind8 : Tryz.prog.cellsOf 24 = 1 := by kernel_rfl
set_option maxRecDepth 100000 in
/-- An ident that comes in. -/
theorem open_ident8 {H : Type} {enc : TypeId × Value → H} {W : World} {base : Nat} {v : Value} {d : DataW H} {pl : List MemPlace}
    (hv : Value.okWide Tryz.prog W .any base 26 v) (h : DataW.Trod enc Tryz.prog W 0 (fun _ => true) true 26 v d pl) : ∃ a : IdentI, v = a.val := by
  obtain ⟨cs0, rfl, hcs⟩ := okWide_struct Tryz.underlying26 hv
  rw [cellsIdent8] at hcs
  obtain ⟨fuel, hf⟩ := h
  obtain ⟨v0, v1, v2, hl3⟩ := list3 cs0.toList (by rw [Array.length_toList]; exact hcs)
  obtain rfl : cs0 = #[v0, v1, v2] := by apply Array.ext'; rw [hl3]
  obtain ⟨ys, n, _, hx, hl, hyl, hfd⟩ := DataW.trod_struct Tryz.underlying26 hf
  have f0 : DataW.trod enc Tryz.prog W 0 (fun _ => true) true n 3 (([v0, v1, v2].drop 0).take (Tryz.prog.cellsOf 3)) = ys[0]? := hfd 0 _ rfl
  rw [cellsInt] at f0
  have f1 : DataW.trod enc Tryz.prog W 0 (fun _ => true) true n 3 (([v0, v1, v2].drop 1).take (Tryz.prog.cellsOf 3)) = ys[1]? := hfd 1 _ rfl
  rw [cellsInt] at f1
  have f2 : DataW.trod enc Tryz.prog W 0 (fun _ => true) true n 24 (([v0, v1, v2].drop 2).take (Tryz.prog.cellsOf 24)) = ys[2]? := hfd 2 _ rfl
  rw [cellsEKind8] at f2
  obtain ⟨y0, y1, y2, rfl⟩ := list3 ys hyl
  simp only [List.getElem?_cons_zero, List.getElem?_cons_succ, List.drop_zero, List.drop_succ_cons, List.take_succ_cons, List.take_zero] at f0 f1 f2
  obtain ⟨n0, e0, _, _⟩ := DataW.trod_int Tryz.underlying3 f0
  obtain ⟨n1, e1, _, _⟩ := DataW.trod_int Tryz.underlying3 f1
  obtain ⟨n2, e2, _, _⟩ := DataW.trod_int Tryz.underlying24 f2
  simp only [List.cons.injEq, and_true] at e0 e1 e2
  subst e0 e1 e2
  exact ⟨⟨n0, n1, n2⟩, rfl⟩
set_option maxRecDepth 100000 in
theorem open_shape8 {H : Type} {enc : TypeId × Value → H} {W : World} {base : Nat} {v : Value} {d : DataW H} {pl : List MemPlace}
    (hv : Value.okWide Tryz.prog W .any base 23 v) (h : DataW.Trod enc Tryz.prog W 0 (fun _ => true) true 23 v d pl) : ∃ a b c : Int, v = .agg #[.int .i64 a, .int .i64 b, .int .i64 c] := by
  obtain ⟨cs0, rfl, _⟩ := okWide_struct Tryz.underlying23 hv
  obtain ⟨fuel, hf⟩ := h
  obtain ⟨ys, n, _, hx, hl, hyl, hf2⟩ := DataW.trod_struct Tryz.underlying23 hf
  rw [cellsShape] at hl
  have f0 : DataW.trod enc Tryz.prog W 0 (fun _ => true) true n 3 (((Value.agg cs0).cells.toList.drop 0).take (Tryz.prog.cellsOf 3)) = ys[0]? := hf2 0 _ rfl
  have f1 : DataW.trod enc Tryz.prog W 0 (fun _ => true) true n 3 (((Value.agg cs0).cells.toList.drop 1).take (Tryz.prog.cellsOf 3)) = ys[1]? := hf2 1 _ rfl
  have f2 : DataW.trod enc Tryz.prog W 0 (fun _ => true) true n 3 (((Value.agg cs0).cells.toList.drop 2).take (Tryz.prog.cellsOf 3)) = ys[2]? := hf2 2 _ rfl
  rw [cellsInt] at f0 f1 f2
  obtain ⟨y0, y1, y2, rfl⟩ := list3 ys hyl
  obtain ⟨v0, v1, v2, hcs⟩ := list3 _ hl
  rw [hcs] at f0 f1 f2
  simp only [List.getElem?_cons_zero, List.getElem?_cons_succ, List.drop_zero, List.drop_succ_cons, List.take_succ_cons, List.take_zero] at f0 f1 f2
  obtain ⟨n0, e0, _, _⟩ := DataW.trod_int Tryz.underlying3 f0
  obtain ⟨n1, e1, _, _⟩ := DataW.trod_int Tryz.underlying3 f1
  obtain ⟨n2, e2, _, _⟩ := DataW.trod_int Tryz.underlying3 f2
  simp only [List.cons.injEq, and_true] at e0 e1 e2
  subst e0 e1 e2
  refine ⟨n0, n1, n2, ?_⟩
  congr 1
  apply Array.ext'
  exact hcs
end Go.Proofs.YtpdfmpegcejmkaaGreatDoor
