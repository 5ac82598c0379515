/- Law 02, CodeEnds: no writer, no reader. -/
import Derived.Test.YtifoiiaddcgngaaGreatDoorLaw02Gets
namespace Go.Proofs.YtifoiiaddcgngaaGreatDoor
open Go.RowKit
set_option maxRecDepth 100000 in
theorem wfield_nil (w : World) (wd v : Value) :
    Calls Tryz.prog 13 #[.pointer none, wd, v] w fun e w' => e = .returned (.tuple #[]) ∧ w = w' := by
  go_enter Tryz.func13, Tryz.ntmps13
  go_wp2_with fail
  refine (whole_nil w).mono ?_
  rintro e w' ⟨rfl, rfl⟩
  go_wp2_with fail
  exact ret_none rfl rfl ⟨rfl, rfl⟩
set_option maxRecDepth 100000 in
theorem wtext_nil (w : World) (A : Option Addr) (n c : Nat) :
    Calls Tryz.prog 15 #[.pointer none, .slice A n c] w fun e w' => e = .returned (.tuple #[]) ∧ Below w.heap.size w w' := by
  have hb := below_new w (.cells #[.int .i64 (n : Int)] 3)
  go_enter Tryz.func15, Tryz.ntmps15
  go_wp2_with fail
  refine (wfield_nil _ _ _).mono ?_
  rintro e w' ⟨rfl, rfl⟩
  go_wp2_with fail
  refine (whole_nil _).mono ?_
  rintro e w' ⟨rfl, rfl⟩
  go_wp2_with fail
  go_end0
  exact ⟨rfl, hb⟩
set_option maxRecDepth 100000 in
theorem wrow_nil (w : World) (A : Option Addr) (n c : Nat) :
    Calls Tryz.prog 17 #[.pointer none, .slice A n c] w fun e w' => e = .returned (.tuple #[]) ∧ Below w.heap.size w w' := by
  have hb := below_new w (.cells #[.int .i64 (n : Int)] 3)
  go_enter Tryz.func17, Tryz.ntmps17
  go_wp2_with fail
  refine (wfield_nil _ _ _).mono ?_
  rintro e w' ⟨rfl, rfl⟩
  go_wp2_with fail
  refine (wfield_nil _ _ _).mono ?_
  rintro e w' ⟨rfl, rfl⟩
  go_wp2_with fail
  go_end0
  exact ⟨rfl, hb⟩
set_option maxRecDepth 100000 in
theorem wentry_nil (w : World) (a b c d : Value) :
    Calls Tryz.prog 19 #[.pointer none, .agg #[a, b, c, d]] w fun e w' => e = .returned (.tuple #[]) ∧ Below w.heap.size w w' := by
  have hb := below_new w (.cells #[a, b, c, d] 28)
  go_enter Tryz.func19, Tryz.ntmps19
  go_wp2_with fail
  refine (whole_nil _).mono ?_
  rintro e w' ⟨rfl, rfl⟩
  go_wp2_with fail
  exact ret_none rfl rfl ⟨rfl, hb⟩
set_option maxRecDepth 100000 in
theorem rfield_nil (w : World) (wd : Int) :
    Calls Tryz.prog 30 #[.pointer none, .int .i64 wd] w fun e w' => e = .returned (.int .i64 0) ∧ w = w' := by
  go_enter Tryz.func30, Tryz.ntmps30
  go_wp2_with fail
  refine (going_nil _).mono ?_
  rintro e w' ⟨rfl, rfl⟩
  go_wp2_with fail
  go_ret
  exact ⟨rfl, rfl⟩
set_option maxRecDepth 100000 in
theorem rcount_nil (w : World) (a b c : Int) :
    Calls Tryz.prog 66 #[.pointer none, .int .i64 a, .int .i64 b, .int .i64 c] w fun e w' => e = .returned (.int .i64 0) ∧ w = w' := by
  go_enter Tryz.func66, Tryz.ntmps66
  go_wp2_with fail
  refine (going_nil _).mono ?_
  rintro e w' ⟨rfl, rfl⟩
  go_wp2_with fail
  go_ret
  exact ⟨rfl, rfl⟩
set_option maxRecDepth 100000 in
theorem rtext_nil (w : World) (m : Int) :
    Calls Tryz.prog 32 #[.pointer none, .int .i64 m] w fun e w' => e = .returned (.slice none 0 0) ∧ w = w' := by
  go_enter Tryz.func32, Tryz.ntmps32
  go_wp2_with fail
  refine (rcount_nil _ _ _ _).mono ?_
  rintro e w' ⟨rfl, rfl⟩
  go_wp2_with fail
  go_ret
  exact ⟨rfl, rfl⟩
set_option maxRecDepth 100000 in
theorem rrow_nil (w : World) (m : Int) :
    Calls Tryz.prog 36 #[.pointer none, .int .i64 m] w fun e w' => e = .returned (.slice none 0 0) ∧ w = w' := by
  go_enter Tryz.func36, Tryz.ntmps36
  go_wp2_with fail
  refine (rcount_nil _ _ _ _).mono ?_
  rintro e w' ⟨rfl, rfl⟩
  go_wp2_with fail
  go_ret
  exact ⟨rfl, rfl⟩
set_option maxRecDepth 100000 in
theorem rentry_nil (w : World) :
    Calls Tryz.prog 39 #[.pointer none] w fun e w' => e = .returned (.agg #[.int .i64 0, .int .i64 0, .int .i64 0, .slice none 0 0]) ∧ Below w.heap.size w w' := by
  have hbn := below_new w (.cells #[.int .i64 0, .int .i64 0, .int .i64 0, .slice none 0 0] 28)
  have hB : BlockIs (w.alloc (.cells #[.int .i64 0, .int .i64 0, .int .i64 0, .slice none 0 0] 28)) w.heap.size 28 #[.int .i64 0, .int .i64 0, .int .i64 0, .slice none 0 0] := BlockIs.made w _ _
  have HB := Lib.hid (And.intro hbn hB)
  clear hbn hB
  go_enter Tryz.func39, Tryz.ntmps39
  go_wp2_with fail
  generalize w.alloc _ = w1 at *
  refine (going_nil _).mono ?_
  rintro e w' ⟨rfl, rfl⟩
  have HZ := Lib.hid (And.intro (HB.out.1.grown (set4_grown w1 w.heap.size (.int .i64 0) (.int .i64 0) (.int .i64 0) (.slice none 0 0)) HB.out.1.size (fun j e => by cases e; exact Nat.le_refl _)) (HB.out.2.set4 (.int .i64 0) (.int .i64 0) (.int .i64 0) (.slice none 0 0)))
  have y0 := HB.out.2.free 0
  have y1 := HB.out.2.free 1
  have y2 := HB.out.2.free 2
  have y3 := HB.out.2.free 3
  obtain ⟨u0, u1, u2, u3⟩ := entry_cells HB.out.2
  go_wp2_with fail
  have hZ := HZ.out
  clear y0 y1 y2 y3 u0 u1 u2 u3
  generalize (((w1.setCell ⟨w.heap.size, 0, none⟩ (.int .i64 0)).setCell ⟨w.heap.size, 1, none⟩ (.int .i64 0)).setCell ⟨w.heap.size, 2, none⟩ (.int .i64 0)).setCell ⟨w.heap.size, 3, none⟩ (.slice none 0 0) = wz at *
  obtain ⟨z0, z1, z2, z3⟩ := entry_cells hZ.2
  exact bodyPost_ret (v := .agg #[.int .i64 0, .int .i64 0, .int .i64 0, .slice none 0 0]) (by simp [results, Tryz.results39, go_sem, z0, z1, z2, z3]) rfl ⟨rfl, hZ.1⟩
set_option maxRecDepth 100000 in
set_option maxHeartbeats 2000000 in
theorem none_any (w : World) :
    Calls Tryz.prog 8 #[] w fun e w' => e = .returned (.bool true) ∧ Below w.heap.size w w' := by
  have hb1 := below_new w (.cells #[.int .i64 1] 3)
  have Hb1 := Lib.hid hb1
  have hfd : ∀ w : World, (Instr.field 28 (.agg #[.int .i64 0, .int .i64 0, .int .i64 0, .slice none 0 0]) 0).run Tryz.prog w = .ok (.int .i64 0) w := fun _ => by kernel_rfl
  go_enter Tryz.func8, Tryz.ntmps8
  go_wp2_with fail
  generalize w.alloc _ = w1 at *
  clear hb1
  refine (wfield_nil _ _ _).mono ?_
  rintro e w' ⟨rfl, rfl⟩
  go_wp2_with fail
  refine (wtext_nil _ _ _ _).mono ?_
  rintro e w2 ⟨rfl, hb2⟩
  have Hb2 := Lib.hid (Hb1.out.trans (hb2.mono Hb1.out.size))
  clear hb2
  go_wp2_with fail
  refine (wrow_nil _ _ _ _).mono ?_
  rintro e w3 ⟨rfl, hb3⟩
  have Hb3 := Lib.hid (Hb2.out.trans (hb3.mono Hb2.out.size))
  clear hb3
  go_wp2_with fail
  refine (wentry_nil _ _ _ _ _).mono ?_
  rintro e w4 ⟨rfl, hb4⟩
  have Hb4 := Lib.hid (Hb3.out.trans (hb4.mono Hb3.out.size))
  clear hb4
  go_wp2_with fail
  refine (wbytes_nil _).mono ?_
  rintro e w' ⟨rfl, rfl⟩
  go_wp2_with fail
  refine (rerr_nil _).mono ?_
  rintro e w' ⟨rfl, rfl⟩
  go_wp2_with fail
  refine (rfield_nil _ _).mono ?_
  rintro e w' ⟨rfl, rfl⟩
  go_wp2_with fail
  refine (rtext_nil _ _).mono ?_
  rintro e w' ⟨rfl, rfl⟩
  go_wp2_with fail
  refine (rrow_nil _ _).mono ?_
  rintro e w' ⟨rfl, rfl⟩
  go_wp2_with fail
  refine (rentry_nil _).mono ?_
  rintro e w5 ⟨rfl, hb5⟩
  have Hb5 := Lib.hid (Hb4.out.trans (hb5.mono Hb4.out.size))
  clear hb5
  go_wp2_with fail
  refine (rleft_nil _).mono ?_
  rintro e w' ⟨rfl, rfl⟩
  go_wp2_with fail
  go_ret
  exact ⟨rfl, Hb5.out⟩
end Go.Proofs.YtifoiiaddcgngaaGreatDoor
