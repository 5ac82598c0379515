/- CodePuts: whatever parts are put, right ones and not: behind each, the bytes are what the document tells; what is lent stays, what is told lies apart. The row's statement, and its tied card (the three listed variables are tied to the program's text). -/
import Derived.Test.YtoddcjpfldpnfaaDoorLaw02Facts
import Derived.Test.YtoddcjpfldpnfaaDoorLaw02Puts
import Derived.SevenTiedAt
namespace Go.Proofs.YtoddcjpfldpnfaaDoor
open Go.ChangeShapes Go.WideShapes Go.RowKit Go.Deep
set_option maxRecDepth 100000 in
set_option maxHeartbeats 2000000 in
theorem codePuts_any (σ : Sen) (w : World) (hG : GlF σ w) (A : Option Addr) (ps : List PartV) (c : Nat) (hp : PVAt w A ps) (hl : ps.length ≤ 140737488351232) (hnn : ∀ p ∈ ps, p.nA = none → p.nc = 0) :
    Calls Tryd.prog 3 #[.slice A ps.length c] w fun e w' => e = .returned (.bool true) ∧ Below w.heap.size w w' := by
  go_enter Tryd.func3, Tryd.ntmps3
  go_wp2_with fail
  refine (size_any w A ps c hp hl).mono ?_
  rintro e w2 ⟨m, rfl, hm, hmt, hq⟩
  have hq : Qu w w2 := hq
  have hb2 : Below w.heap.size w w2 := hq.below _
  have Hmt := Lib.hid hmt
  clear hmt hq
  by_cases hbig : (m : Int) > 3000
  · go_wp2_with fail
    refine (awake_any σ w2 (hG.below hb2)).mono ?_
    rintro e w3 ⟨rfl, hb3⟩
    go_wp2_with fail
    go_ret
    exact ⟨rfl, hb2.trans (hb3.mono hb2.size)⟩
  · have HP := Lib.hid (puts_any w2 A ps c (hp.below hb2) hnn (by have := Hmt.out (by omega); omega))
    go_wp2_with fail
    refine HP.out.mono ?_
    rintro e w3 ⟨v, rfl, ⟨X, cp, rfl, hX⟩, hb3⟩
    have hb4 := hb2.trans (hb3.mono hb2.size)
    have HA := Lib.hid (awake_any σ w3 (hG.below hb4))
    clear hX HP
    go_wp2_with fail
    refine HA.out.mono ?_
    rintro e w5 ⟨rfl, hb5⟩
    go_wp2_with fail
    go_ret
    exact ⟨rfl, hb4.trans (hb5.mono hb4.size)⟩
theorem doorF (os : Os) (args : Array Value) : laidMetH Tryd.prog laidF ((World.doorLaid Tryd.prog 400 os).forCall (fun _ _ => 0) ⟨#[], args, []⟩).memory :=
  laidMetH_of_parts3 (fuel := 8) (laidMet_of_run' 8 (by kernel_rfl) (by kernel_rfl)) (by kernel_rfl) (by kernel_rfl)
set_option maxRecDepth 100000 in
theorem codePuts_lifted (os : Os) (started : os.Started) (H : Type) (enc : TypeId × Value → H) :
    ReturnsInHanded {} Tryd.checked os 3 .any (fun w args => (Rows.codePutsSpec.pre enc Tryd.prog Tryd.f3 [] false w args ∧ laidMetH Tryd.prog laidF w) ∧ sizedMet enc Tryd.prog Tryd.f3 (OpenSpec.ofChange Rows.codePutsSpec) false w args)
      (Rows.codePutsSpec.post enc Tryd.prog Tryd.f3 false true false false) := by
  refine returnsInHanded_of_change_and (C := Tryd.checked) (X := fun w _ => laidMetH Tryd.prog laidF w) (fun _ _ _ hh h => h.of_heap hh) own started (by kernel_rfl) Tryd.func3
    (ChangeSpec.witness_shaped (enc := enc) (C := Tryd.checked) (os := os) (X := fun w _ => laidMetH Tryd.prog laidF w) false (World.doorLaid Tryd.prog 400 os) #[.slice none 0 0] 8 rfl (World.shaped_of_RefB (by kernel_rfl) (by kernel_rfl)) (by kernel_rfl) (by kernel_rfl) (by kernel_rfl) (doorF os _)) ?_
  intro W base args ds gs before hval0 hW _ hsz0 hL _
  have hval : ∀ (j : Nat) t v, Tryd.f3.params[j]? = some t → args[j]? = some v → Value.okWide Tryd.prog W .any base t v := hval0
  have hsz : (DataW.weightsEach Tryd.prog (Tryd.f3.params.toList ++ Rows.codePutsSpec.plain.varTypes Tryd.prog) (ds ++ gs)).all (· ≤ reachBytes) = true := hsz0
  have hW' : DataW.Whole enc Tryd.prog Tryd.f3.params.toList Rows.codePutsSpec.vars false W args.toList ds gs before := hW
  obtain ⟨p, q, hA0, hV, rfl, _, _⟩ := hW
  have hA : DataW.TrodAll enc Tryd.prog W 0 (fun _ => true) true Tryd.f3.params.toList args.toList ds p := hA0
  clear hval0 hsz0 hA0
  have hpar : Tryd.f3.params = #[22] := Tryd.params3
  rw [hpar] at hA hval hsz
  obtain ⟨v0, d0, rfl, rfl, h0⟩ := trodAll_one hA
  obtain ⟨σ, hG⟩ := glF_of hL
  obtain ⟨A1, ps, c1, rfl, hps, hpl, hnn⟩ := open_parts_all (hval 0 _ v0 rfl rfl) h0 (reach_arg hsz (j := 0) rfl rfl)
  refine (codePuts_any σ W hG A1 ps c1 hps hpl hnn).mono fun e W' ⟨he, hw⟩ => ?_
  subst he
  exact ⟨_, rfl, law_post (bt := 4) laidOut (by kernel_rfl) (by kernel_rfl) Tryd.underlying4 rfl (fun gs hgs => by subst hgs; rfl) hW' hw⟩
theorem codePuts_holds : Rows.CodePutsSaid :=
  OpenClaim.holds_of_wide 3 Tryd.f3 rfl rfl rfl rfl rfl rfl rfl ⟨rfl, rfl, rfl, rfl, rfl⟩ rfl rfl rfl rfl rfl (by kernel_rfl) Tryd.func3 (by kernel_rfl)
    (of_decide_eq_true (by kernel_rfl)) (by unfold Func.isWrapper; first | (rw [if_pos (by decide +kernel)]; kernel_rfl) | (rw [if_neg (by decide +kernel)]; exact ⟨rfl, rfl⟩))
    (fun os started H enc _ => codePuts_lifted os started H enc)
theorem codePuts_card : Rows.CodePutsCardSaid :=
  Claim7.holds_tied_plain_at .later [] [.sentinel, .sentinel, .sentinel] true Rows.codePutsCard.stood.harness true
    codePuts_holds (fun _ h => by cases h) (by kernel_rfl) (fun _ h => by cases h) codePuts_row_tie rfl ⟨rfl, rfl⟩ (by kernel_rfl) rfl
    (fun f fn hf hfn => by
      obtain rfl : f = 3 := Option.some.inj ((show Tryd.prog.funcNamed "limpet/limpetlaw02.CodePuts" = some 3 by kernel_rfl).symm.trans hf) |>.symm
      obtain rfl : fn = Tryd.f3 := (Option.some.inj (Tryd.func3.symm.trans hfn)).symm
      exact ⟨by kernel_rfl, fun j t ht => by
        rw [Tryd.params3] at ht
        rcases j with _ | j
        · obtain rfl : 22 = t := by simpa using ht
          exact (show Tryd.prog.wantsStandIn 22 = false by kernel_rfl)
        · simp at ht⟩)
    (by kernel_rfl)
#print axioms codePuts_card
end Go.Proofs.YtoddcjpfldpnfaaDoor
