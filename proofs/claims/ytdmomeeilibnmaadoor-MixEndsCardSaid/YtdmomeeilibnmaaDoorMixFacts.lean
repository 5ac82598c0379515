/- What the rows of mix's laws share: the listed variable's cell, a start that meets the condition. -/
import Derived.Test.YtdmomeeilibnmaaDoorRows
import Derived.Test.YtdmomeeilibnmaaDoorCards
import Derived.Test.YtdmomeeilibnmaaDoorTie
import Derived.Test.YtdmomeeilibnmaaDoorLawKit
namespace Go.Proofs.YtdmomeeilibnmaaDoor
open Go.ChangeShapes Go.WideShapes Go.RowKit
theorem own : ownKnob Tryd.prog.godebug = none := by kernel_rfl
theorem laidOut : laidOutB Tryd.prog = true := by kernel_rfl
theorem gErr : Tryd.prog.globalNamed "limpet/mix.errSum" = some 0 := by kernel_rfl
theorem gErrType : (Tryd.prog.globals[0]?).map (·.type) = some 43 := by kernel_rfl
theorem starErr : "*" ++ "errors.errorString" = "*errors.errorString" := by decide
theorem rowErr (u : TypeId) (h : Tryd.prog.typeName? 3 u = some "*errors.errorString") : u = 73 :=
  typeName_ptr_named (nm := "errors.errorString") (by rw [starErr]; kernel_rfl) (by kernel_rfl) (by decide) u (by rw [starErr]; exact h)
theorem cellsErr : Tryd.prog.cellsOf 98 = 1 := by kernel_rfl
theorem cellsStr : Tryd.prog.cellsOf 9 = 1 := by kernel_rfl
theorem cellsByte : Tryd.prog.cellsOf 5 = 1 := by kernel_rfl
theorem bytesByte : Tryd.prog.bytesOf 5 = 1 := by kernel_rfl
abbrev laidErr : List (String × DataW Unit) := [("limpet/mix.errSum", Rows.laid_limpet_mix_errSum)]
theorem errCell {W : World} (h : laidMetH Tryd.prog laidErr W) : ∃ b : Addr, W.cell? ⟨0, 0, none⟩ = some (.iface 73 (.pointer (some b))) := by
  rw [MakeChecks.laidMetH_plain _ _ _ (by kernel_rfl)] at h
  obtain ⟨a, s, hv, _, _, _⟩ := laid_sentinel h gErr gErrType Tryd.underlying43 rowErr Tryd.underlying73 Tryd.underlying98 rfl rfl Tryd.underlying9 cellsErr cellsStr
  refine ⟨a, ?_⟩
  have := World.var?_cell gErr hv 0
  simpa using this
theorem door_met (os : Os) (args : Array Value) : laidMetH Tryd.prog laidErr ((World.doorLaid Tryd.prog 400 os).forCall (fun _ _ => 0) ⟨#[], args, []⟩).memory :=
  laidMetH_of_parts3 (fuel := 8) (laidMet_of_run' 8 (by kernel_rfl) (by kernel_rfl)) (by kernel_rfl) (by kernel_rfl)
theorem open_u32 (n : Int) (h0 : 0 ≤ n) (h1 : n ≤ 4294967295) : ∃ t : BitVec 32, n = (t.toNat : Int) := by
  obtain ⟨m, rfl⟩ := Int.eq_ofNat_of_zero_le h0
  refine ⟨BitVec.ofNat 32 m, ?_⟩
  rw [BitVec.toNat_ofNat, Nat.mod_eq_of_lt (by omega)]
end Go.Proofs.YtdmomeeilibnmaaDoor
