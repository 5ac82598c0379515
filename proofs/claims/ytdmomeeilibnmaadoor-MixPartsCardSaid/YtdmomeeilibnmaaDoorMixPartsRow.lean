/- MixParts: for whatever three rows of bytes: sums joined are the sum of both, however they are parted; with nothing behind it a sum stays. The row's statement, and its tied card (the one listed variable, errSum, is tied to the program's text). -/
import Derived.Test.YtdmomeeilibnmaaDoorRows
import Derived.Test.YtdmomeeilibnmaaDoorCards
import Derived.Test.YtdmomeeilibnmaaDoorTie
import Derived.Test.YtdmomeeilibnmaaDoorLawKit
import Derived.Test.YtdmomeeilibnmaaDoorMixParts
import Derived.SevenTiedAt
namespace Go.Proofs.YtdmomeeilibnmaaDoor
open Go.ChangeShapes Go.WideShapes Go.RowKit
theorem own : ownKnob Tryd.prog.godebug = none := by kernel_rfl
theorem laidOut : laidOutB Tryd.prog = true := by kernel_rfl
theorem gErr : Tryd.prog.globalNamed "limpet/mix.errSum" = some 0 := by kernel_rfl
theorem gErrType : (Tryd.prog.globals[0]?).map (·.type) = some 43 := by kernel_rfl
theorem starErr : "*" ++ "errors.errorString" = "*errors.errorString" := by decide
theorem rowErr (u : TypeId) (h : Tryd.prog.typeName? 3 u = some "*errors.errorString") : u = 73 :=
  typeName_ptr_named (nm := "errors.errorString") (by rw [starErr]; kernel_rfl) (by kernel_rfl) (by decide) u (by rw [starErr]; exact h)
theorem cellsErr : Tryd.prog.cellsOf 98 = 1 := by kernel_rfl
theorem cellsStr : Tryd.prog.cellsOf 9 = 1 := by kernel_rfl
theorem cellsByte : Tryd.prog.cellsOf 5 = 1 := by kernel_rfl
theorem bytesByte : Tryd.prog.bytesOf 5 = 1 := by kernel_rfl
abbrev laidErr : List (String × DataW Unit) := [("limpet/mix.errSum", Rows.laid_limpet_mix_errSum)]
theorem errCell {W : World} (h : laidMetH Tryd.prog laidErr W) : ∃ b : Addr, W.cell? ⟨0, 0, none⟩ = some (.iface 73 (.pointer (some b))) := by
  rw [MakeChecks.laidMetH_plain _ _ _ (by kernel_rfl)] at h
  obtain ⟨a, s, hv, _, _, _⟩ := laid_sentinel h gErr gErrType Tryd.underlying43 rowErr Tryd.underlying73 Tryd.underlying98 rfl rfl Tryd.underlying9 cellsErr cellsStr
  refine ⟨a, ?_⟩
  have := World.var?_cell gErr hv 0
  simpa using this
theorem door_met (os : Os) (args : Array Value) : laidMetH Tryd.prog laidErr ((World.doorLaid Tryd.prog 400 os).forCall (fun _ _ => 0) ⟨#[], args, []⟩).memory :=
  laidMetH_of_parts3 (fuel := 8) (laidMet_of_run' 8 (by kernel_rfl) (by kernel_rfl)) (by kernel_rfl) (by kernel_rfl)
set_option maxRecDepth 100000 in
theorem mixParts_lifted (os : Os) (started : os.Started) (H : Type) (enc : TypeId × Value → H) :
    ReturnsInHanded {} Tryd.checked os 6 .any (fun w args => (Rows.mixPartsSpec.pre enc Tryd.prog Tryd.f6 [] false w args ∧ laidMetH Tryd.prog laidErr w) ∧ sizedMet enc Tryd.prog Tryd.f6 (OpenSpec.ofChange Rows.mixPartsSpec) false w args)
      (Rows.mixPartsSpec.post enc Tryd.prog Tryd.f6 false true false false) := by
  refine returnsInHanded_of_change_and (C := Tryd.checked) (X := fun w _ => laidMetH Tryd.prog laidErr w) (fun _ _ _ hh h => h.of_heap hh) own started (by kernel_rfl) Tryd.func6
    (ChangeSpec.witness_shaped (enc := enc) (C := Tryd.checked) (os := os) (X := fun w _ => laidMetH Tryd.prog laidErr w) false (World.doorLaid Tryd.prog 400 os) #[.slice none 0 0, .slice none 0 0, .slice none 0 0] 8 rfl (World.shaped_of_RefB (by kernel_rfl) (by kernel_rfl)) (by kernel_rfl) (by kernel_rfl) (by kernel_rfl) (door_met os _)) ?_
  intro W base args ds gs before hval0 hW _ hsz0 hL _
  have hval : ∀ (j : Nat) t v, Tryd.f6.params[j]? = some t → args[j]? = some v → Value.okWide Tryd.prog W .any base t v := hval0
  have hsz : (DataW.weightsEach Tryd.prog (Tryd.f6.params.toList ++ Rows.mixPartsSpec.plain.varTypes Tryd.prog) (ds ++ gs)).all (· ≤ reachBytes) = true := hsz0
  have hW' : DataW.Whole enc Tryd.prog Tryd.f6.params.toList Rows.mixPartsSpec.vars false W args.toList ds gs before := hW
  obtain ⟨p, q, hA0, hV, rfl, _, _⟩ := hW
  have hA : DataW.TrodAll enc Tryd.prog W 0 (fun _ => true) true Tryd.f6.params.toList args.toList ds p := hA0
  clear hval0 hsz0 hA0
  have hpar : Tryd.f6.params = #[24, 24, 24] := Tryd.params6
  rw [hpar] at hA hval hsz
  obtain ⟨v0, v1, v2, d0, d1, d2, p0, p1, p2, rfl, rfl, rfl, h0, h1, h2⟩ := trodAll_three hA
  obtain ⟨b, hg⟩ := errCell hL
  obtain ⟨A0, z0, c0, rfl, k0, m0, n0, o0⟩ := open_bytes Tryd.underlying24 Tryd.underlying5 cellsByte (hval 0 _ v0 rfl rfl) h0
  obtain ⟨A1, z1, c1, rfl, k1, m1, n1, o1⟩ := open_bytes Tryd.underlying24 Tryd.underlying5 cellsByte (hval 1 _ v1 rfl rfl) h1
  obtain ⟨A2, z2, c2, rfl, k2, m2, n2, o2⟩ := open_bytes Tryd.underlying24 Tryd.underlying5 cellsByte (hval 2 _ v2 rfl rfl) h2
  have reach : ∀ (j : Nat) (d : DataW H) (c : Nat), ([24, 24, 24] ++ Rows.mixPartsSpec.plain.varTypes Tryd.prog)[j]? = some 24 → ([d0, d1, d2] ++ gs)[j]? = some d → (d = .nil ∧ c = 0 ∨ ∃ elems spare, d = .slice elems spare ∧ elems.length + spare.length = c) → c ≤ 140737488351232 := by
    intro j d c ht hd ho
    rcases ho with ⟨_, rfl⟩ | ⟨elems, spare, rfl, rfl⟩
    · exact Nat.zero_le _
    · have := sized_slice hsz (j := j) (t := 24) (e := 5) ht hd Tryd.underlying24
      rw [bytesByte] at this
      simpa [reachBytes] using this
  have r0 := reach 0 d0 c0 rfl rfl o0
  have r1 := reach 1 d1 c1 rfl rfl o1
  have r2 := reach 2 d2 c2 rfl rfl o2
  refine (mixParts_any ⟨A0, z0, c0⟩ ⟨A1, z1, c1⟩ ⟨A2, z2, c2⟩ b W hg ⟨⟨k0, m0⟩, n0, Nat.le_trans r0 (by decide)⟩ ⟨⟨k1, m1⟩, n1, Nat.le_trans r1 (by decide)⟩ ⟨⟨k2, m2⟩, n2, Nat.le_trans r2 (by decide)⟩ r0 r1 r2).mono fun e W' ⟨he, hw⟩ => ?_
  subst he
  exact ⟨_, rfl, law_post (bt := 4) laidOut (by kernel_rfl) (by kernel_rfl) Tryd.underlying4 rfl (fun gs hgs => by subst hgs; rfl) hW' hw⟩
theorem mixParts_holds : Rows.MixPartsSaid :=
  OpenClaim.holds_of_wide 6 Tryd.f6 rfl rfl rfl rfl rfl rfl rfl ⟨rfl, rfl, rfl, rfl, rfl⟩ rfl rfl rfl rfl rfl (by kernel_rfl) Tryd.func6 (by kernel_rfl)
    (of_decide_eq_true (by kernel_rfl)) (by unfold Func.isWrapper; first | (rw [if_pos (by decide +kernel)]; kernel_rfl) | (rw [if_neg (by decide +kernel)]; exact ⟨rfl, rfl⟩))
    (fun os started H enc _ => mixParts_lifted os started H enc)
theorem mixParts_card : Rows.MixPartsCardSaid :=
  Claim7.holds_tied_plain_at .later [] [.sentinel] true Rows.mixPartsCard.stood.harness true
    mixParts_holds (fun _ h => by cases h) (by kernel_rfl) (fun _ h => by cases h) mixParts_row_tie rfl ⟨rfl, rfl⟩ (by kernel_rfl) rfl
    (fun f fn hf hfn => by
      obtain rfl : f = 6 := Option.some.inj ((show Tryd.prog.funcNamed "limpet/limpetlaw01.MixParts" = some 6 by kernel_rfl).symm.trans hf) |>.symm
      obtain rfl : fn = Tryd.f6 := (Option.some.inj (Tryd.func6.symm.trans hfn)).symm
      exact ⟨by kernel_rfl, fun j t ht => by
        rw [Tryd.params6] at ht
        have h3 : t = 24 := by
          rcases j with _ | _ | _ | j <;> simp at ht <;> exact ht.symm
        subst h3
        exact (show Tryd.prog.wantsStandIn 24 = false by kernel_rfl)⟩)
    (by kernel_rfl)
#print axioms mixParts_card
end Go.Proofs.YtdmomeeilibnmaaDoor
