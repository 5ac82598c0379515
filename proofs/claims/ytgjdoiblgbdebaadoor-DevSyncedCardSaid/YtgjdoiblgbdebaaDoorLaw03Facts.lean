/- The package's own errors, as the rows of law 03 lay them. -/
import Derived.Test.YtgjdoiblgbdebaaDoorKitSent
import Derived.Test.YtgjdoiblgbdebaaDoorDevErr
namespace Go.Proofs.YtgjdoiblgbdebaaDoor
open Go.ChangeShapes Go.WideShapes Go.RowKit Go.Deep
abbrev laidH : List (String × DataW Unit) := [("limpet/dev.errNil", Rows.laid_limpet_dev_errNil), ("limpet/dev.errDown", Rows.laid_limpet_dev_errDown), ("limpet/dev.errBlock", Rows.laid_limpet_dev_errBlock), ("limpet/dev.errLong", Rows.laid_limpet_dev_errLong), ("limpet/dev.errSame", Rows.laid_limpet_dev_errSame), ("limpet/dev.errHurt", Rows.laid_limpet_dev_errHurt)]
abbrev laid5 : List (String × DataW Unit) := [("limpet/dev.errNil", Rows.laid_limpet_dev_errNil), ("limpet/dev.errDown", Rows.laid_limpet_dev_errDown), ("limpet/dev.errBlock", Rows.laid_limpet_dev_errBlock), ("limpet/dev.errLong", Rows.laid_limpet_dev_errLong), ("limpet/dev.errHurt", Rows.laid_limpet_dev_errHurt)]
theorem gNi : Tryd.prog.globalNamed "limpet/dev.errNil" = some 1 := by kernel_rfl
theorem tNi : (Tryd.prog.globals[1]?).map (·.type) = some 74 := by kernel_rfl
theorem gDn : Tryd.prog.globalNamed "limpet/dev.errDown" = some 2 := by kernel_rfl
theorem tDn : (Tryd.prog.globals[2]?).map (·.type) = some 74 := by kernel_rfl
theorem gBk : Tryd.prog.globalNamed "limpet/dev.errBlock" = some 4 := by kernel_rfl
theorem tBk : (Tryd.prog.globals[4]?).map (·.type) = some 74 := by kernel_rfl
theorem gLo : Tryd.prog.globalNamed "limpet/dev.errLong" = some 0 := by kernel_rfl
theorem tLo : (Tryd.prog.globals[0]?).map (·.type) = some 74 := by kernel_rfl
theorem gSm : Tryd.prog.globalNamed "limpet/dev.errSame" = some 5 := by kernel_rfl
theorem tSm : (Tryd.prog.globals[5]?).map (·.type) = some 74 := by kernel_rfl
theorem gHu : Tryd.prog.globalNamed "limpet/dev.errHurt" = some 3 := by kernel_rfl
theorem tHu : (Tryd.prog.globals[3]?).map (·.type) = some 74 := by kernel_rfl
set_option maxRecDepth 100000 in
/-- All six, out of the laid list. -/
theorem glH_of {W : World} (h : laidMetH Tryd.prog laidH W) : ∃ σ, GlD σ W ∧ GlS σ W := by
  rw [MakeChecks.laidMetH_plain _ _ _ (by kernel_rfl)] at h
  obtain ⟨ps, hL, hnd, hrows⟩ := h
  obtain ⟨a0, X0, q0, c0, b0, h0, rfl, m0⟩ := sent_step hL hrows gNi tNi
  have r0 := rows_tail hrows
  have n0 := (List.nodup_append.1 hnd).2.1
  obtain ⟨a1, X1, q1, c1, b1, h1, rfl, m1⟩ := sent_step h0 r0 gDn tDn
  have r1 := rows_tail r0
  have n1 := (List.nodup_append.1 n0).2.1
  obtain ⟨a2, X2, q2, c2, b2, h2, rfl, m2⟩ := sent_step h1 r1 gBk tBk
  have r2 := rows_tail r1
  have n2 := (List.nodup_append.1 n1).2.1
  obtain ⟨a3, X3, q3, c3, b3, h3, rfl, m3⟩ := sent_step h2 r2 gLo tLo
  have r3 := rows_tail r2
  have n3 := (List.nodup_append.1 n2).2.1
  obtain ⟨a4, X4, q4, c4, b4, h4, rfl, m4⟩ := sent_step h3 r3 gSm tSm
  have r4 := rows_tail r3
  have n4 := (List.nodup_append.1 n3).2.1
  obtain ⟨a5, X5, q5, c5, b5, h5, rfl, m5⟩ := sent_step h4 r4 gHu tHu
  have l : ∀ {x : MemPlace} (X Y : List MemPlace), x ∈ X → x ∈ X ++ Y := fun X Y h => List.mem_append_left Y h
  have r : ∀ {x : MemPlace} (X Y : List MemPlace), x ∈ Y → x ∈ X ++ Y := fun X Y h => List.mem_append_right X h
  have k1 := l X1 (X2 ++ (X3 ++ (X4 ++ (X5 ++ q5)))) m1
  have k2 := l X2 (X3 ++ (X4 ++ (X5 ++ q5))) m2
  have k3 := l X3 (X4 ++ (X5 ++ q5)) m3
  have k4 := l X4 (X5 ++ q5) m4
  have k5 := l X5 q5 m5
  refine ⟨⟨a0, a1, a2, a3, a5, a4⟩, ⟨c0, c1, c2, c3, c5, b0, b1, b2, b3, b5, ?_, ?_, ?_, ⟨?_, ?_, ?_⟩, ⟨?_, ?_, ?_⟩⟩, ⟨c4, b4, ⟨?_, ?_, ?_⟩⟩⟩
  · exact (places_ne hnd m0 k1).symm
  · exact (places_ne hnd m0 (r X1 _ (r X2 _ (r X3 _ (r X4 _ k5))))).symm
  · exact (places_ne n0 m1 (r X2 _ (r X3 _ (r X4 _ k5)))).symm
  · exact (places_ne hnd m0 (r X1 _ k2)).symm
  · exact (places_ne n0 m1 k2).symm
  · exact places_ne n1 m2 (r X3 _ (r X4 _ k5))
  · exact (places_ne hnd m0 (r X1 _ (r X2 _ k3))).symm
  · exact (places_ne n0 m1 (r X2 _ k3)).symm
  · exact places_ne n2 m3 (r X4 _ k5)
  · exact (places_ne hnd m0 (r X1 _ (r X2 _ (r X3 _ k4)))).symm
  · exact (places_ne n0 m1 (r X2 _ (r X3 _ k4))).symm
  · exact places_ne n3 m4 k5
set_option maxRecDepth 100000 in
theorem gl5_of {W : World} (h : laidMetH Tryd.prog laid5 W) : ∃ σ, GlD σ W := by
  rw [MakeChecks.laidMetH_plain _ _ _ (by kernel_rfl)] at h
  obtain ⟨ps, hL, hnd, hrows⟩ := h
  obtain ⟨a0, X0, q0, c0, b0, h0, rfl, m0⟩ := sent_step hL hrows gNi tNi
  have r0 := rows_tail hrows
  have n0 := (List.nodup_append.1 hnd).2.1
  obtain ⟨a1, X1, q1, c1, b1, h1, rfl, m1⟩ := sent_step h0 r0 gDn tDn
  have r1 := rows_tail r0
  have n1 := (List.nodup_append.1 n0).2.1
  obtain ⟨a2, X2, q2, c2, b2, h2, rfl, m2⟩ := sent_step h1 r1 gBk tBk
  have r2 := rows_tail r1
  have n2 := (List.nodup_append.1 n1).2.1
  obtain ⟨a3, X3, q3, c3, b3, h3, rfl, m3⟩ := sent_step h2 r2 gLo tLo
  have r3 := rows_tail r2
  obtain ⟨a5, X5, q5, c5, b5, h5, rfl, m5⟩ := sent_step h3 r3 gHu tHu
  have l : ∀ {x : MemPlace} (X Y : List MemPlace), x ∈ X → x ∈ X ++ Y := fun X Y h => List.mem_append_left Y h
  have r : ∀ {x : MemPlace} (X Y : List MemPlace), x ∈ Y → x ∈ X ++ Y := fun X Y h => List.mem_append_right X h
  have k1 := l X1 (X2 ++ (X3 ++ (X5 ++ q5))) m1
  have k2 := l X2 (X3 ++ (X5 ++ q5)) m2
  have k3 := l X3 (X5 ++ q5) m3
  have k5 := l X5 q5 m5
  refine ⟨⟨a0, a1, a2, a3, a5, a5⟩, ⟨c0, c1, c2, c3, c5, b0, b1, b2, b3, b5, ?_, ?_, ?_, ⟨?_, ?_, ?_⟩, ⟨?_, ?_, ?_⟩⟩⟩
  · exact (places_ne hnd m0 k1).symm
  · exact (places_ne hnd m0 (r X1 _ (r X2 _ (r X3 _ k5)))).symm
  · exact (places_ne n0 m1 (r X2 _ (r X3 _ k5))).symm
  · exact (places_ne hnd m0 (r X1 _ k2)).symm
  · exact (places_ne n0 m1 k2).symm
  · exact places_ne n1 m2 (r X3 _ k5)
  · exact (places_ne hnd m0 (r X1 _ (r X2 _ k3))).symm
  · exact (places_ne n0 m1 (r X2 _ k3)).symm
  · exact places_ne n2 m3 k5
theorem doorH (os : Os) (args : Array Value) : laidMetH Tryd.prog laidH ((World.doorLaid Tryd.prog 400 os).forCall (fun _ _ => 0) ⟨#[], args, []⟩).memory :=
  laidMetH_of_parts3 (fuel := 8) (laidMet_of_run' 8 (by kernel_rfl) (by kernel_rfl)) (by kernel_rfl) (by kernel_rfl)
theorem door5 (os : Os) (args : Array Value) : laidMetH Tryd.prog laid5 ((World.doorLaid Tryd.prog 400 os).forCall (fun _ _ => 0) ⟨#[], args, []⟩).memory :=
  laidMetH_of_parts3 (fuel := 8) (laidMet_of_run' 8 (by kernel_rfl) (by kernel_rfl)) (by kernel_rfl) (by kernel_rfl)
end Go.Proofs.YtgjdoiblgbdebaaDoor
