/- MarkDoes: whatever is done to the marks of a disk of one to eight blocks, crashes and rot among it: what is told, and what is stored, is what the document tells. The row's statement, and its tied card (the listed variables are tied to the program's text). -/
import Derived.Test.YtpaikolnampcfaaGreatDoorLaw06Args
import Derived.Test.YtpaikolnampcfaaGreatDoorLaw06Deeds
import Derived.Test.YtpaikolnampcfaaGreatDoorLaw06Does
import Derived.SevenTiedAt
namespace Go.Proofs.YtpaikolnampcfaaGreatDoor
set_option maxRecDepth 100000
open Go.ChangeShapes Go.WideShapes Go.RowKit Go.Deep
theorem markDoes_lifted (os : Os) (started : os.Started) (H : Type) (enc : TypeId × Value → H) :
 ReturnsInHanded {} Tryz.checked os 4 .any (fun w args => (Rows.markDoesSpec.pre enc Tryz.prog Tryz.f4 [] false w args ∧ laidMetH Tryz.prog laidK w) ∧ sizedMet enc Tryz.prog Tryz.f4 (OpenSpec.ofChange Rows.markDoesSpec) false w args)
  (Rows.markDoesSpec.post enc Tryz.prog Tryz.f4 false true false false) := by
 refine returnsInHanded_of_change_and (C := Tryz.checked) (X := fun w _ => laidMetH Tryz.prog laidK w) (fun _ _ _ hh h => h.of_heap hh) own started (by kernel_rfl) Tryz.func4
  (ChangeSpec.witness_shaped (enc := enc) (C := Tryz.checked) (os := os) (X := fun w _ => laidMetH Tryz.prog laidK w) false (World.doorLaid Tryz.prog 800 os) #[.int .i64 0, .slice none 0 0] 8 rfl (World.shaped_of_RefB (by kernel_rfl) (by kernel_rfl)) (by kernel_rfl) (by kernel_rfl) (by kernel_rfl) (door_laidK os _)) ?_
 intro W base args ds gs before hval0 hW _ hsz0 hL _
 have hval : ∀ (j : Nat) t v, Tryz.f4.params[j]? = some t → args[j]? = some v → Value.okWide Tryz.prog W .any base t v := hval0
 have hsz : (DataW.weightsEach Tryz.prog (Tryz.f4.params.toList ++ Rows.markDoesSpec.plain.varTypes Tryz.prog) (ds ++ gs)).all (· ≤ reachBytes) = true := hsz0
 have hW' : DataW.Whole enc Tryz.prog Tryz.f4.params.toList Rows.markDoesSpec.vars false W args.toList ds gs before := hW
 obtain ⟨p, q, hA0, hV, rfl, _, _⟩ := hW
 have hA : DataW.TrodAll enc Tryz.prog W 0 (fun _ => true) true Tryz.f4.params.toList args.toList ds p := hA0
 clear hval0 hsz0 hA0
 have hpar : Tryz.f4.params = #[3, 38] := Tryz.params4
 rw [hpar] at hA hval hsz
 obtain ⟨v0, v1, d0, d1, p0, p1, rfl, rfl, rfl, h0, h1⟩ := trodAll_two hA
 obtain ⟨σ, τ, δ, κ, hC, hU, hD, hS, hK⟩ := gl_laidK hL
 obtain ⟨a0, rfl, rfl, rfl, w0⟩ := open_int Tryz.underlying3 (hval 0 _ v0 rfl rfl) h0
 obtain ⟨A1, l1, c1, rfl, k1, n1⟩ := open_deeds6 (hval 1 _ v1 rfl rfl) h1 (reach_arg hsz (j := 1) rfl rfl)
 refine (markDoes_any σ τ δ κ W hC hU hD hS hK a0 A1 l1 c1 k1).mono fun e W' ⟨he, hw⟩ => ?_
 subst he
 exact ⟨_, rfl, law_post (bt := 4) laidOut (by kernel_rfl) (by kernel_rfl) Tryz.underlying4 rfl (fun gs hgs => by subst hgs; rfl) hW' hw⟩
theorem markDoes_holds : Rows.MarkDoesSaid :=
 OpenClaim.holds_of_wide 4 Tryz.f4 rfl rfl rfl rfl rfl rfl rfl ⟨rfl, rfl, rfl, rfl, rfl⟩ rfl rfl rfl rfl rfl (by kernel_rfl) Tryz.func4 (by kernel_rfl)
  (of_decide_eq_true (by kernel_rfl)) (by unfold Func.isWrapper; first | (rw [if_pos (by decide +kernel)]; kernel_rfl) | (rw [if_neg (by decide +kernel)]; exact ⟨rfl, rfl⟩))
  (fun os started H enc _ => markDoes_lifted os started H enc)
theorem markDoes_card : Rows.MarkDoesCardSaid :=
 Claim7.holds_tied_plain_at .later [] [.handle, .sentinel, .sentinel, .sentinel, .sentinel, .sentinel, .sentinel, .sentinel, .sentinel, .sentinel, .sentinel, .sentinel, .sentinel, .sentinel, .sentinel, .sentinel, .sentinel, .sentinel, .sentinel, .sentinel, .sentinel, .sentinel, .sentinel] true Rows.markDoesCard.stood.harness true
  markDoes_holds (fun _ h => by cases h) (by kernel_rfl) (fun _ h => by cases h) markDoes_row_tie rfl ⟨rfl, rfl⟩ (by kernel_rfl) rfl
  (fun f fn hf hfn => by
   obtain rfl : f = 4 := Option.some.inj ((show Tryz.prog.funcNamed "limpet/limpetlaw06.MarkDoes" = some 4 by kernel_rfl).symm.trans hf) |>.symm
   obtain rfl : fn = Tryz.f4 := (Option.some.inj (Tryz.func4.symm.trans hfn)).symm
   exact ⟨by kernel_rfl, fun j t ht => by
    rw [Tryz.params4] at ht
    rcases j with _ | _ | j
    · obtain rfl : 3 = t := by simpa using ht
      exact (show Tryz.prog.wantsStandIn 3 = false by kernel_rfl)
    · obtain rfl : 38 = t := by simpa using ht
      exact (show Tryz.prog.wantsStandIn 38 = false by kernel_rfl)
    · simp at ht⟩)
  (by kernel_rfl)
#print axioms markDoes_card
end Go.Proofs.YtpaikolnampcfaaGreatDoor
