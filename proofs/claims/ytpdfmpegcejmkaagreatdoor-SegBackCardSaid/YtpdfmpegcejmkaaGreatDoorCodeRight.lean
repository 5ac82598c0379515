/- What the rows of law 08 share: the listed variables as they are laid. -/
/- seg.must, seg.tried: what is panicked with, and what is told of it. -/
/- Is an entry right? -/
import Derived.Test.YtpdfmpegcejmkaaGreatDoorKitSent
import Derived.Test.YtpdfmpegcejmkaaGreatDoorSegIs
import Derived.Test.YtpdfmpegcejmkaaGreatDoorSegErr
import Derived.WalkLawsBesides
import Derived.Defers
import Derived.Recover
import Derived.Test.YtpdfmpegcejmkaaGreatDoorCodeAdd
namespace Go.Proofs.YtpdfmpegcejmkaaGreatDoor
open Go.ChangeShapes Go.WideShapes Go.RowKit Go.Deep
theorem g_code_errWidth : Tryz.prog.globalNamed "limpet/code.errWidth" = some 6 := by kernel_rfl
theorem tg_code_errWidth : (Tryz.prog.globals[6]?).map (·.type) = some 106 := by kernel_rfl
theorem g_code_errFew : Tryz.prog.globalNamed "limpet/code.errFew" = some 7 := by kernel_rfl
theorem tg_code_errFew : (Tryz.prog.globals[7]?).map (·.type) = some 106 := by kernel_rfl
theorem g_code_errGreat : Tryz.prog.globalNamed "limpet/code.errGreat" = some 8 := by kernel_rfl
theorem tg_code_errGreat : (Tryz.prog.globals[8]?).map (·.type) = some 106 := by kernel_rfl
theorem g_code_errMuch : Tryz.prog.globalNamed "limpet/code.errMuch" = some 12 := by kernel_rfl
theorem tg_code_errMuch : (Tryz.prog.globals[12]?).map (·.type) = some 106 := by kernel_rfl
theorem g_unit_errBytes : Tryz.prog.globalNamed "limpet/unit.errBytes" = some 13 := by kernel_rfl
theorem tg_unit_errBytes : (Tryz.prog.globals[13]?).map (·.type) = some 106 := by kernel_rfl
theorem g_unit_errKind : Tryz.prog.globalNamed "limpet/unit.errKind" = some 14 := by kernel_rfl
theorem tg_unit_errKind : (Tryz.prog.globals[14]?).map (·.type) = some 106 := by kernel_rfl
theorem g_unit_errSum : Tryz.prog.globalNamed "limpet/unit.errSum" = some 15 := by kernel_rfl
theorem tg_unit_errSum : (Tryz.prog.globals[15]?).map (·.type) = some 106 := by kernel_rfl
theorem g_unit_errNum : Tryz.prog.globalNamed "limpet/unit.errNum" = some 16 := by kernel_rfl
theorem tg_unit_errNum : (Tryz.prog.globals[16]?).map (·.type) = some 106 := by kernel_rfl
theorem g_unit_errBody : Tryz.prog.globalNamed "limpet/unit.errBody" = some 17 := by kernel_rfl
theorem tg_unit_errBody : (Tryz.prog.globals[17]?).map (·.type) = some 106 := by kernel_rfl
theorem g_unit_errNought : Tryz.prog.globalNamed "limpet/unit.errNought" = some 19 := by kernel_rfl
theorem tg_unit_errNought : (Tryz.prog.globals[19]?).map (·.type) = some 106 := by kernel_rfl
theorem g_unit_errEnd : Tryz.prog.globalNamed "limpet/unit.errEnd" = some 18 := by kernel_rfl
theorem tg_unit_errEnd : (Tryz.prog.globals[18]?).map (·.type) = some 106 := by kernel_rfl
theorem g_unit_errOther : Tryz.prog.globalNamed "limpet/unit.errOther" = some 11 := by kernel_rfl
theorem tg_unit_errOther : (Tryz.prog.globals[11]?).map (·.type) = some 106 := by kernel_rfl
theorem g_seg_errEntry : Tryz.prog.globalNamed "limpet/seg.errEntry" = some 9 := by kernel_rfl
theorem tg_seg_errEntry : (Tryz.prog.globals[9]?).map (·.type) = some 106 := by kernel_rfl
theorem g_seg_errOrder : Tryz.prog.globalNamed "limpet/seg.errOrder" = some 0 := by kernel_rfl
theorem tg_seg_errOrder : (Tryz.prog.globals[0]?).map (·.type) = some 106 := by kernel_rfl
theorem g_seg_errIndex : Tryz.prog.globalNamed "limpet/seg.errIndex" = some 3 := by kernel_rfl
theorem tg_seg_errIndex : (Tryz.prog.globals[3]?).map (·.type) = some 106 := by kernel_rfl
theorem g_seg_errBody : Tryz.prog.globalNamed "limpet/seg.errBody" = some 1 := by kernel_rfl
theorem tg_seg_errBody : (Tryz.prog.globals[1]?).map (·.type) = some 106 := by kernel_rfl
theorem g_seg_errFoot : Tryz.prog.globalNamed "limpet/seg.errFoot" = some 2 := by kernel_rfl
theorem tg_seg_errFoot : (Tryz.prog.globals[2]?).map (·.type) = some 106 := by kernel_rfl
abbrev laidQS : List (String × DataW Unit) := [("limpet/code.errWidth", Rows.laid_limpet_code_errWidth), ("limpet/code.errFew", Rows.laid_limpet_code_errFew), ("limpet/code.errGreat", Rows.laid_limpet_code_errGreat), ("limpet/code.errMuch", Rows.laid_limpet_code_errMuch), ("limpet/unit.errBytes", Rows.laid_limpet_unit_errBytes), ("limpet/unit.errKind", Rows.laid_limpet_unit_errKind), ("limpet/unit.errSum", Rows.laid_limpet_unit_errSum), ("limpet/unit.errNum", Rows.laid_limpet_unit_errNum), ("limpet/unit.errBody", Rows.laid_limpet_unit_errBody), ("limpet/unit.errNought", Rows.laid_limpet_unit_errNought), ("limpet/unit.errEnd", Rows.laid_limpet_unit_errEnd), ("limpet/unit.errOther", Rows.laid_limpet_unit_errOther), ("limpet/seg.errEntry", Rows.laid_limpet_seg_errEntry), ("limpet/seg.errOrder", Rows.laid_limpet_seg_errOrder), ("limpet/seg.errIndex", Rows.laid_limpet_seg_errIndex), ("limpet/seg.errBody", Rows.laid_limpet_seg_errBody), ("limpet/seg.errFoot", Rows.laid_limpet_seg_errFoot)]
abbrev laidQ : List (String × DataW Unit) := ("errors.errorType", Rows.laid_errors_errorType) :: laidQS
theorem gTy : Tryz.prog.globalNamed "errors.errorType" = some 10 := by kernel_rfl
theorem rtRow : (Tryz.prog.cutTypes.find? (·.1 == "internal/reflectlite.rtype")).map (·.2) = some 256 := by kernel_rfl
theorem typesSize : Tryz.prog.types.size = 320 := by kernel_rfl
theorem oneRow : ((List.range 320).filter fun t => Tryz.prog.rowNamed t [101, 114, 114, 111, 114]) = [106] := by kernel_rfl
set_option maxRecDepth 100000 in
theorem gl_laidQ {W : World} (h : laidMetH Tryz.prog laidQ W) : ∃ (σ : Sen) (τ : SenU) (ρ : SenQ), GlAt σ W ∧ GlU τ W ∧ GlQ ρ W := by
  have h' : laidMet Tryz.prog laidQS W ∧ handlesMet Tryz.prog [("errors.errorType", Rows.laid_errors_errorType)] W := h
  obtain ⟨⟨ps, hL, hnd, hrows⟩, hh⟩ := h'
  obtain ⟨a0, X0, q0, c0, b0, h0, rfl, m0⟩ := sent_step hL hrows g_code_errWidth tg_code_errWidth
  have r0 := rows_tail hrows
  have n0 := (List.nodup_append.1 hnd).2.1
  obtain ⟨a1, X1, q1, c1, b1, h1, rfl, m1⟩ := sent_step h0 r0 g_code_errFew tg_code_errFew
  have r1 := rows_tail r0
  have n1 := (List.nodup_append.1 n0).2.1
  obtain ⟨a2, X2, q2, c2, b2, h2, rfl, m2⟩ := sent_step h1 r1 g_code_errGreat tg_code_errGreat
  have r2 := rows_tail r1
  have n2 := (List.nodup_append.1 n1).2.1
  obtain ⟨a3, X3, q3, c3, b3, h3, rfl, m3⟩ := sent_step h2 r2 g_code_errMuch tg_code_errMuch
  have r3 := rows_tail r2
  have n3 := (List.nodup_append.1 n2).2.1
  obtain ⟨a4, X4, q4, c4, b4, h4, rfl, m4⟩ := sent_step h3 r3 g_unit_errBytes tg_unit_errBytes
  have r4 := rows_tail r3
  have n4 := (List.nodup_append.1 n3).2.1
  obtain ⟨a5, X5, q5, c5, b5, h5, rfl, m5⟩ := sent_step h4 r4 g_unit_errKind tg_unit_errKind
  have r5 := rows_tail r4
  have n5 := (List.nodup_append.1 n4).2.1
  obtain ⟨a6, X6, q6, c6, b6, h6, rfl, m6⟩ := sent_step h5 r5 g_unit_errSum tg_unit_errSum
  have r6 := rows_tail r5
  have n6 := (List.nodup_append.1 n5).2.1
  obtain ⟨a7, X7, q7, c7, b7, h7, rfl, m7⟩ := sent_step h6 r6 g_unit_errNum tg_unit_errNum
  have r7 := rows_tail r6
  have n7 := (List.nodup_append.1 n6).2.1
  obtain ⟨a8, X8, q8, c8, b8, h8, rfl, m8⟩ := sent_step h7 r7 g_unit_errBody tg_unit_errBody
  have r8 := rows_tail r7
  have n8 := (List.nodup_append.1 n7).2.1
  obtain ⟨a9, X9, q9, c9, b9, h9, rfl, m9⟩ := sent_step h8 r8 g_unit_errNought tg_unit_errNought
  have r9 := rows_tail r8
  have n9 := (List.nodup_append.1 n8).2.1
  obtain ⟨a10, X10, q10, c10, b10, h10, rfl, m10⟩ := sent_step h9 r9 g_unit_errEnd tg_unit_errEnd
  have r10 := rows_tail r9
  have n10 := (List.nodup_append.1 n9).2.1
  obtain ⟨a11, X11, q11, c11, b11, h11, rfl, m11⟩ := sent_step h10 r10 g_unit_errOther tg_unit_errOther
  have r11 := rows_tail r10
  have n11 := (List.nodup_append.1 n10).2.1
  obtain ⟨a12, X12, q12, c12, b12, h12, rfl, m12⟩ := sent_step h11 r11 g_seg_errEntry tg_seg_errEntry
  have r12 := rows_tail r11
  have n12 := (List.nodup_append.1 n11).2.1
  obtain ⟨a13, X13, q13, c13, b13, h13, rfl, m13⟩ := sent_step h12 r12 g_seg_errOrder tg_seg_errOrder
  have r13 := rows_tail r12
  have n13 := (List.nodup_append.1 n12).2.1
  obtain ⟨a14, X14, q14, c14, b14, h14, rfl, m14⟩ := sent_step h13 r13 g_seg_errIndex tg_seg_errIndex
  have r14 := rows_tail r13
  have n14 := (List.nodup_append.1 n13).2.1
  obtain ⟨a15, X15, q15, c15, b15, h15, rfl, m15⟩ := sent_step h14 r14 g_seg_errBody tg_seg_errBody
  have r15 := rows_tail r14
  have n15 := (List.nodup_append.1 n14).2.1
  obtain ⟨a16, X16, q16, c16, b16, h16, rfl, m16⟩ := sent_step h15 r15 g_seg_errFoot tg_seg_errFoot
  obtain ⟨name, u, ty, e1, e2, e3, e4, e5⟩ := hh _ (List.mem_singleton.2 rfl)
  have en : name = [101, 114, 114, 111, 114] := (Option.some.inj e1).symm
  subst en
  obtain rfl := Option.some.inj (rtRow.symm.trans e2)
  have hm : ty ∈ (List.range 320).filter fun t => Tryz.prog.rowNamed t [101, 114, 114, 111, 114] := List.mem_filter.2 ⟨List.mem_range.2 (by rw [← typesSize]; exact e3), e4⟩
  rw [oneRow] at hm
  obtain rfl := List.mem_singleton.1 hm
  have hth : typeHandle Tryz.prog 106 = .pointer (some ⟨20, 106, none⟩) := by kernel_rfl
  rw [hth] at e5
  have cty0 := World.var?_cell gTy e5 0
  have cty : W.cell? ⟨10, 0, none⟩ = some (.iface 256 (.agg #[.pointer (some ⟨20, 106, none⟩)])) := by simpa using cty0
  have GC : GlAt ⟨a0, a1, a2, a3, a1⟩ W := by
    refine ⟨c0, c1, c2, c3, cty, ?_, places_ne hnd m0 (List.mem_append_right _ (List.mem_append_right _ (List.mem_append_left _ m3))), places_ne n0 m1 (List.mem_append_right _ (List.mem_append_left _ m3)), places_ne n1 m2 (List.mem_append_left _ m3), places_ne n0 m1 (List.mem_append_right _ (List.mem_append_left _ m3))⟩
    rintro a (rfl | rfl | rfl | rfl | rfl)
    · exact b0
    · exact b1
    · exact b2
    · exact b3
    · exact b1
  have GU : GlU ⟨a4, a5, a6, a7, a8, a9, a10, a11⟩ W := by
    refine ⟨c4, c5, c6, c7, c8, c9, c10, c11, cty, ?_, ⟨places_ne n3 m4 (List.mem_append_right _ (List.mem_append_left _ m6)), places_ne n4 m5 (List.mem_append_left _ m6), (places_ne n5 m6 (List.mem_append_left _ m7)).symm, (places_ne n5 m6 (List.mem_append_right _ (List.mem_append_left _ m8))).symm, (places_ne n5 m6 (List.mem_append_right _ (List.mem_append_right _ (List.mem_append_left _ m9)))).symm, (places_ne n5 m6 (List.mem_append_right _ (List.mem_append_right _ (List.mem_append_right _ (List.mem_append_left _ m10))))).symm, (places_ne n5 m6 (List.mem_append_right _ (List.mem_append_right _ (List.mem_append_right _ (List.mem_append_right _ (List.mem_append_left _ m11)))))).symm⟩, ⟨places_ne n3 m4 (List.mem_append_right _ (List.mem_append_right _ (List.mem_append_right _ (List.mem_append_right _ (List.mem_append_right _ (List.mem_append_right _ (List.mem_append_left _ m11))))))), places_ne n4 m5 (List.mem_append_right _ (List.mem_append_right _ (List.mem_append_right _ (List.mem_append_right _ (List.mem_append_right _ (List.mem_append_left _ m11)))))), places_ne n6 m7 (List.mem_append_right _ (List.mem_append_right _ (List.mem_append_right _ (List.mem_append_left _ m11)))), places_ne n7 m8 (List.mem_append_right _ (List.mem_append_right _ (List.mem_append_left _ m11))), places_ne n8 m9 (List.mem_append_right _ (List.mem_append_left _ m11)), places_ne n9 m10 (List.mem_append_left _ m11)⟩⟩
    rintro a (rfl | rfl | rfl | rfl | rfl | rfl | rfl | rfl)
    · exact b4
    · exact b5
    · exact b6
    · exact b7
    · exact b8
    · exact b9
    · exact b10
    · exact b11
  have GQ : GlQ ⟨a12, a12, a12, a13, a14, a15, a16⟩ W := by
    refine ⟨c12, c13, c14, c15, c16, cty, ?_, places_ne n11 m12 (List.mem_append_left _ m13), places_ne n11 m12 (List.mem_append_right _ (List.mem_append_left _ m14)), places_ne n11 m12 (List.mem_append_right _ (List.mem_append_right _ (List.mem_append_left _ m15))), places_ne n11 m12 (List.mem_append_right _ (List.mem_append_right _ (List.mem_append_right _ (List.mem_append_left _ m16)))), places_ne n11 m12 (List.mem_append_left _ m13), places_ne n11 m12 (List.mem_append_right _ (List.mem_append_left _ m14)), places_ne n11 m12 (List.mem_append_right _ (List.mem_append_right _ (List.mem_append_left _ m15))), places_ne n11 m12 (List.mem_append_right _ (List.mem_append_right _ (List.mem_append_right _ (List.mem_append_left _ m16)))), places_ne n11 m12 (List.mem_append_left _ m13), places_ne n11 m12 (List.mem_append_right _ (List.mem_append_left _ m14)), places_ne n11 m12 (List.mem_append_right _ (List.mem_append_right _ (List.mem_append_left _ m15))), places_ne n11 m12 (List.mem_append_right _ (List.mem_append_right _ (List.mem_append_right _ (List.mem_append_left _ m16)))), (places_ne n12 m13 (List.mem_append_left _ m14)).symm, (places_ne n12 m13 (List.mem_append_right _ (List.mem_append_left _ m15))).symm, (places_ne n13 m14 (List.mem_append_left _ m15)).symm, (places_ne n12 m13 (List.mem_append_right _ (List.mem_append_right _ (List.mem_append_left _ m16)))).symm, (places_ne n13 m14 (List.mem_append_right _ (List.mem_append_left _ m16))).symm, (places_ne n14 m15 (List.mem_append_left _ m16)).symm⟩
    rintro a (rfl | rfl | rfl | rfl | rfl | rfl | rfl)
    · exact b12
    · exact b12
    · exact b12
    · exact b13
    · exact b14
    · exact b15
    · exact b16
  exact ⟨_, _, _, GC, GU, GQ⟩
theorem door_laidQ (os : Os) (args : Array Value) : laidMetH Tryz.prog laidQ ((World.doorLaid Tryz.prog 800 os).forCall (fun _ _ => 0) ⟨#[], args, []⟩).memory :=
  laidMetH_of_parts3 (fuel := 8) (laidMet_of_run' 8 (by kernel_rfl) (by kernel_rfl)) (by kernel_rfl) (by kernel_rfl)
theorem list3 {α : Type} (l : List α) (h : l.length = 3) : ∃ a b c, l = [a, b, c] := by
  match l, h with
  | [a, b, c], _ => exact ⟨a, b, c, rfl⟩
end Go.Proofs.YtpdfmpegcejmkaaGreatDoor
namespace Go.Proofs.YtpdfmpegcejmkaaGreatDoor
open Go.RowKit
set_option maxRecDepth 100000 in
theorem gmust_nil (n : Int) (w : World) : Calls Tryz.prog 72 #[.int .i64 n, .nilIface] w fun e w' => e = .returned (.tuple #[]) ∧ w = w' := by
  go_enter Tryz.func72, Tryz.ntmps72
  go_wp2_with fail
  go_end0
  exact ⟨rfl, rfl⟩
set_option maxRecDepth 100000 in
theorem gmust_err (σ : SenQ) (n c : Int) (v : Value) (hv : GErr σ c v) (w : World) : Calls Tryz.prog 72 #[.int .i64 n, v] w fun e w' => e = .panicked [{ v := gfaultV n v, recovered := false }] ∧ w = w' := by
  obtain ⟨t, x, rfl⟩ : ∃ t x, v = .iface t x := by rcases hv with ⟨a, rfl, _⟩ | ⟨_, rfl⟩ <;> exact ⟨_, _, rfl⟩
  clear hv
  go_enter Tryz.func72, Tryz.ntmps72
  go_wp2_with fail
  exact ⟨rfl, rfl, rfl⟩
theorem bodyPostS_end {P : Program} {fn : Func} {c₀ : Frame} {cs : List Frame} {R : Ending → FrameMode → World → Prop} {a : Act} {w : World} {v : Value} {u' : FrameMode}
    (hv : (results fn a.tmps).run P w = .ok v w) (hd : a.defers = []) (hR : R (.returned v) u' w) : bodyPostS P fn c₀ cs R .normal a ({ c₀ with mode := u' } :: cs) w :=
  ⟨hd, u', rfl, v, hv, hR⟩
theorem gassert (x : Value) (w : World) : (Instr.typeAssert (.iface 108 x) 20 108 true).run Tryz.prog w = .ok (.tuple #[x, .bool true]) w := by kernel_rfl
set_option maxRecDepth 100000 in
theorem gcatch_idle (p : Addr) (w : World) :
    CallsD Tryz.prog 70 #[.pointer (some p)] .returning w fun e u' w' => e = .returned (.tuple #[]) ∧ u' = .returning ∧ w' = w := by
  refine callsD_of_wpS Tryz.func70 rfl fun c₀ cs hu => ?_
  have hc : ({ c₀ with mode := .returning } : Frame) = c₀ := by cases c₀; simp_all
  simp only [Tryz.ntmps70, List.size_toArray, List.length_cons, List.length_nil, Nat.reduceAdd, Nat.reduceSub, Array.replicate_succ, Array.replicate_zero, List.push_toArray, List.append_toArray, List.nil_append, List.cons_append]
  apply wpS_seq
  apply wpS_region
  simp [wpOpsS, go_sem, recoverD, hu, Exit.thenS]
  refine wpS_of_wp ?_
  rw [← hc]
  go_wp2_with fail
  exact bodyPostS_end (results_none rfl _ _ _) rfl ⟨rfl, rfl, rfl⟩
set_option maxRecDepth 100000 in
set_option maxHeartbeats 1000000 in
theorem gcatch_any (σ : SenQ) (p : Nat) (n c : Int) (v x : Value) (w : World) (hG : GlQ σ w) (hp : BlockIs w p 35 #[x]) (hv : GErr σ c v) :
    CallsD Tryz.prog 70 #[.pointer (some ⟨p, 0, none⟩)] (.panicking [{ v := gfaultV n v, recovered := false }]) w fun e u' w' => e = .returned (.tuple #[]) ∧ u' = .panicking [{ v := gfaultV n v, recovered := true }] ∧ BlockIs w' p 35 #[.int .i64 c] ∧ w.grownBy w' (some p) := by
  have ha := gassert
  have HE := Lib.hid (fun W (h : GlQ σ W) => gerrno_any σ W h n c v hv)
  have HG := Lib.hid hG
  have HP := Lib.hid hp
  obtain ⟨u, y, rfl⟩ : ∃ u y, v = .iface u y := by rcases hv with ⟨a, rfl, _⟩ | ⟨_, rfl⟩ <;> exact ⟨_, _, rfl⟩
  clear hG hp hv
  unfold gfaultV at *
  refine callsD_of_wpS Tryz.func70 rfl fun c₀ cs hu => ?_
  simp only [Tryz.ntmps70, List.size_toArray, List.length_cons, List.length_nil, Nat.reduceAdd, Nat.reduceSub, Array.replicate_succ, Array.replicate_zero, List.push_toArray, List.append_toArray, List.nil_append, List.cons_append]
  apply wpS_seq
  apply wpS_region
  simp [wpOpsS, go_sem, recoverD, hu, Exit.thenS]
  refine wpS_of_wp ?_
  go_wp2_with fail
  have hb1 := below_new w (.cells #[.int .i64 n, .iface u y] 108)
  refine (HE.out _ (HG.out.below hb1)).mono ?_
  rintro e w2 ⟨rfl, b2⟩
  have hb2 := hb1.trans (b2.mono hb1.size)
  have P2 := HP.out.below hb2 HP.out.lt
  have c0 : w2.cell? ⟨p, 0, none⟩ = some x := P2.cell 0
  have f0 := P2.free 0
  have PZ := Lib.hid (P2.set1 0 (.int .i64 c))
  have GZ := Lib.hid (grown_at (grown_below hb2 (some p)) 0 (.int .i64 c))
  clear hb1 b2 hb2 P2 HE HP HG
  go_wp2_with fail
  exact bodyPostS_end (results_none rfl _ _ _) rfl ⟨rfl, rfl, PZ.out, GZ.out⟩
set_option maxRecDepth 100000 in
set_option maxHeartbeats 1000000 in
/-- What is done by a closure is told, by its number, if it panics with a fault. -/
theorem tried_any (σ : SenQ) (w : World) (F : FuncId) (cap : Array Value) (hcall : ∀ w, (callFunc F cap).run Tryz.prog w = .ok (.enter F cap) w) (row : Option Nat) (hrow : ∀ b, row = some b → b < w.heap.size) (Q : Int → World → Prop)
    (hdo : ∀ w1, Below w.heap.size w w1 → w.heap.size < w1.heap.size → Calls Tryz.prog F cap w1 fun e w2 => ∃ c, ((c = 0 ∧ e = .returned (.tuple #[])) ∨ Faults σ c e) ∧ w1.grownBy w2 row ∧ GlQ σ w2 ∧ Q c w2) :
    Calls Tryz.prog 38 #[.func (.func F) #[] cap] w fun e w' => ∃ c w2, e = .returned (.int .i64 c) ∧ Q c w2 ∧ w.grownBy w2 row ∧ w2.grownBy w' (some w.heap.size) ∧ w.heap.size < w2.heap.size := by
  have hmf : ∀ (fn : Fn) (first cap : Array Value) (w : World), (Instr.makeFunc fn first cap).run Tryz.prog w = .ok (.func fn first cap) w := fun _ _ _ _ => rfl
  have HD := Lib.hid (hdo _ (below_new w (.cells #[.int .i64 0] 35)) (by simp))
  have HB := Lib.hid (BlockIs.made w 35 #[.int .i64 0])
  have HN := Lib.hid (below_new w (.cells #[.int .i64 0] 35))
  have HS := Lib.hid (show (w.alloc (.cells #[.int .i64 0] 35)).heap.size = w.heap.size + 1 by simp)
  have HR := Lib.hid hrow
  clear hdo hrow
  go_enter_defers Tryz.func38, Tryz.ntmps38
  go_wp2_with fail
  refine HD.out.mono ?_
  rintro e w2 ⟨c, he, hg2, hG2, hQ⟩
  have P2 := HB.out.kept hg2 (fun e => by have := HR.out _ e.symm; omega)
  have W2 := Lib.hid (show w.grownBy w2 row from (grown_below HN.out row).trans hg2)
  have L2 := Lib.hid (show w.heap.size < w2.heap.size by have := hg2.size; have := HS.out; omega)
  have HQ := Lib.hid hQ
  have HP := Lib.hid P2
  have HG := Lib.hid hG2
  clear hg2 hG2 hQ P2 HD
  rcases he with ⟨rfl, rfl⟩ | ⟨n, v, rfl, hv⟩
  · have c0 : w2.cell? ⟨w.heap.size, 0, none⟩ = some (.int .i64 0) := HP.out.cell 0
    have f0 := HP.out.free 0
    have PZ := HP.out.set1 0 (.int .i64 0)
    have GZ := Lib.hid (grown_at (World.grownBy.refl w2 (some w.heap.size)) 0 (.int .i64 0))
    go_wp2_with fail
    generalize w2.setCell ⟨w.heap.size, 0, none⟩ (.int .i64 0) = w3 at *
    have z0 : w3.cell? ⟨w.heap.size, 0, none⟩ = some (.int .i64 0) := PZ.cell 0
    refine leaves_cons (f := 70) (args := #[.pointer (some ⟨w.heap.size, 0, none⟩)]) (by simp) (by simp [go_sem]) ?_
    refine (gcatch_idle ⟨w.heap.size, 0, none⟩ _).mono ?_
    rintro e u' w4 ⟨rfl, rfl, rfl⟩
    simp [Leaves, settle, results, Tryz.results38, go_sem, z0]
    exact ⟨w2, HQ.out, W2.out, GZ.out, L2.out⟩
  · have HV := Lib.hid hv
    clear hv
    go_wp2_with fail
    refine leaves_cons (f := 70) (args := #[.pointer (some ⟨w.heap.size, 0, none⟩)]) (by simp) (by simp [go_sem]) ?_
    refine (gcatch_any σ w.heap.size n c v _ w2 HG.out HP.out HV.out).mono ?_
    rintro e u' w4 ⟨rfl, rfl, p4, g4⟩
    have z0 : w4.cell? ⟨w.heap.size, 0, none⟩ = some (.int .i64 c) := p4.cell 0
    simp [Leaves, settle, results, Tryz.results38, go_sem, z0]
    exact ⟨w2, HQ.out, W2.out, g4, L2.out⟩
end Go.Proofs.YtpdfmpegcejmkaaGreatDoor
namespace Go.Proofs.YtpdfmpegcejmkaaGreatDoor
open Go.RowKit
set_option maxRecDepth 100000 in
set_option maxHeartbeats 1000000 in
theorem right_any (w : World) (e : Ent) (A : Option Addr) (c : Nat) (hl : e.body.length ≤ 9223372036854775807) :
    Calls Tryz.prog 25 #[.agg #[.int .i64 e.index, .int .i64 e.term, .int .i64 e.kind, .slice A e.body.length c]] w fun r w' => r = .returned (.bool (rightB e)) ∧ Below w.heap.size w w' := by
  obtain ⟨x, t, k, body⟩ := e
  simp only at hl ⊢
  have hn := below_new w (.cells #[.int .i64 x, .int .i64 t, .int .i64 k, .slice A body.length c] 50)
  by_cases hk : 1 ≤ k ∧ k ≤ 3
  · go_enter Tryz.func25, Tryz.ntmps25
    go_wp2
    all_goals
      go_ret
      refine ⟨ret_bool ?_, hn⟩
      simp only [beq_iff_eq] at *
      unfold rightB
      first | exact (decide_eq_false (by simp only; omega)).symm | (rw [decide_eq_decide]; simp only; omega)
  · go_enter Tryz.func25, Tryz.ntmps25
    go_wp2
    all_goals
      go_ret
      refine ⟨ret_bool ?_, hn⟩
      unfold rightB
      first | exact (decide_eq_false (by simp only; omega)).symm | (rw [decide_eq_decide]; simp only; omega)
end Go.Proofs.YtpdfmpegcejmkaaGreatDoor
