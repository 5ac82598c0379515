/- MixTells: for whatever parts, two sums and number: the sum of the parts, whether a sum fits each, and the sums joined, are what the page's own functions tell; the parts stay. The row's statement, and its tied card (the one listed variable, errSum, is tied to the program's text). -/
import Derived.Test.YtdmomeeilibnmaaDoorMixFacts
import Derived.Test.YtdmomeeilibnmaaDoorMixTells
import Derived.SevenTiedAt
namespace Go.Proofs.YtdmomeeilibnmaaDoor
open Go.ChangeShapes Go.WideShapes Go.RowKit Go.Deep
theorem open_rows {H : Type} {enc : TypeId × Value → H} {P : Program} {W : World} {base : Nat} {t e1 e : TypeId} {v : Value} {d : DataW H} {pl : List MemPlace}
    (ht : P.underlying t = some (.slice e1)) (he1 : P.underlying e1 = some (.slice e)) (he : P.underlying e = some (.int .u8)) (hc1 : P.cellsOf e1 = 1) (hc : P.cellsOf e = 1) (hby1 : P.bytesOf e1 = 24) (hby : P.bytesOf e = 1)
    (hv : Value.okWide P W .any base t v) (h : DataW.Trod enc P W 0 (fun _ => true) true t v d pl) (hw : ∀ n ∈ d.weights P t, n ≤ reachBytes) :
    ∃ (A : Option Addr) (ps : List Part) (cap : Nat), v = .slice A ps.length cap ∧ PartsAt W A ps ∧ ps.length ≤ 140737488351232 ∧ ∀ p ∈ ps, p.zs.length ≤ 140737488351232 ∧ (p.A = none → p.cap = 0) := by
  obtain ⟨a0, len, cap, rfl⟩ := okWide_slice ht hv
  obtain ⟨fuel, hf⟩ := h
  rcases open_slice ht hf with ⟨hcs, hx⟩ | ⟨a, len, cap, m, n, D, Pl, hcs, _, hl, hm, hmm, hx, hi⟩
  · simp [Value.cells] at hcs
    obtain ⟨rfl, rfl, rfl⟩ := hcs
    exact ⟨none, [], 0, rfl, ⟨(fun p hp => by cases hp), (fun h => absurd rfl h)⟩, Nat.zero_le _, (fun p hp => by cases hp)⟩
  · simp [Value.cells] at hcs
    obtain ⟨rfl, rfl, rfl⟩ := hcs
    simp only [Prod.mk.injEq] at hx
    simp only [if_true] at hmm
    have hwlen : (len + (m - len)) * 24 ≤ reachBytes := by
      refine hw _ ?_
      rw [hx.1]
      simp only [DataW.weights, ht, hby1, List.length_map, List.length_range]
      exact List.mem_cons_self
    have each : ∀ i, i < len → ∃ p : Part, W.cell? (a.add i) = some p.val ∧ p.ok W ∧ p.zs.length ≤ 140737488351232 ∧ (p.A = none → p.cap = 0) := by
      intro i hil
      obtain ⟨cs', hcl, htr⟩ := hi i (by omega)
      rw [hc1, Nat.mul_one] at hcl
      obtain ⟨_, hlen1, hcell⟩ := World.cells?_some hcl
      obtain ⟨A, zs, c, rfl, k1, k2, k3, k4, k5⟩ := open_bytes_raw he1 he hc hby htr (fun n hn => hw n (by
        rw [hx.1]
        simp only [DataW.weights, ht]
        refine List.mem_cons.2 (.inr (List.mem_append.2 (.inl (weights_elem ?_ n hn))))
        exact List.mem_map.2 ⟨i, List.mem_range.2 hil, rfl⟩))
      have h0 := hcell 0 (by decide)
      refine ⟨⟨A, zs, c⟩, ?_, ⟨⟨k1, k2⟩, k3, Nat.le_trans k4 (by decide)⟩, Nat.le_trans k3 k4, k5⟩
      have hadd : (a.add i).add 0 = a.add i := by unfold Addr.add; simp
      rw [hadd] at h0
      simpa [Part.val] using h0
    have hchoice : ∃ f : Nat → Part, ∀ i, i < len → W.cell? (a.add i) = some (f i).val ∧ (f i).ok W ∧ (f i).zs.length ≤ 140737488351232 ∧ ((f i).A = none → (f i).cap = 0) :=
      ⟨fun i => if h : i < len then Classical.choose (each i h) else ⟨none, [], 0⟩, fun i h => by
        simp only [h, dif_pos]
        exact Classical.choose_spec (each i h)⟩
    obtain ⟨f, hfn⟩ := hchoice
    have hpl : ((List.range len).map f).length = len := by simp
    refine ⟨some a, (List.range len).map f, cap, by rw [hpl], ⟨fun p hp => ?_, fun hne => ?_⟩, by rw [hpl]; simp only [reachBytes] at hwlen; omega, fun p hp => ?_⟩
    · obtain ⟨i, hil, rfl⟩ := List.mem_map.1 hp
      exact (hfn i (List.mem_range.1 hil)).2.1
    · have hpos : 0 < len := by
        rcases Nat.eq_zero_or_pos len with h0 | h0
        · subst h0; exact absurd rfl hne
        · exact h0
      obtain ⟨b, off, spot⟩ := a
      have hspot : spot = none := by simpa [Addr.add] using World.cell?_spot (hfn 0 hpos).1
      subst hspot
      refine ⟨b, off, rfl, fun i p hp => ?_⟩
      rw [List.getElem?_map] at hp
      by_cases hil : i < len
      · rw [List.getElem?_range hil] at hp
        obtain rfl : f i = p := by simpa using hp
        have := (hfn i hil).1
        have hadd : (⟨b, off, none⟩ : Addr).add i = ⟨b, off + i, none⟩ := by unfold Addr.add; split <;> simp_all
        rw [hadd] at this
        exact this
      · rw [List.getElem?_eq_none (by simpa using hil)] at hp; cases hp
    · obtain ⟨i, hil, rfl⟩ := List.mem_map.1 hp
      exact (hfn i (List.mem_range.1 hil)).2.2
theorem cellsRow : Tryd.prog.cellsOf 24 = 1 := by kernel_rfl
theorem bytesRow : Tryd.prog.bytesOf 24 = 24 := by kernel_rfl
set_option maxRecDepth 100000 in
theorem mixTells_lifted (os : Os) (started : os.Started) (H : Type) (enc : TypeId × Value → H) :
    ReturnsInHanded {} Tryd.checked os 3 .any (fun w args => (Rows.mixTellsSpec.pre enc Tryd.prog Tryd.f3 [] false w args ∧ laidMetH Tryd.prog laidErr w) ∧ sizedMet enc Tryd.prog Tryd.f3 (OpenSpec.ofChange Rows.mixTellsSpec) false w args)
      (Rows.mixTellsSpec.post enc Tryd.prog Tryd.f3 false true false false) := by
  refine returnsInHanded_of_change_and (C := Tryd.checked) (X := fun w _ => laidMetH Tryd.prog laidErr w) (fun _ _ _ hh h => h.of_heap hh) own started (by kernel_rfl) Tryd.func3
    (ChangeSpec.witness_shaped (enc := enc) (C := Tryd.checked) (os := os) (X := fun w _ => laidMetH Tryd.prog laidErr w) false (World.doorLaid Tryd.prog 400 os) #[.slice none 0 0, .int .u32 0, .int .u32 0, .int .i64 0] 8 rfl (World.shaped_of_RefB (by kernel_rfl) (by kernel_rfl)) (by kernel_rfl) (by kernel_rfl) (by kernel_rfl) (door_met os _)) ?_
  intro W base args ds gs before hval0 hW _ hsz0 hL _
  have hval : ∀ (j : Nat) t v, Tryd.f3.params[j]? = some t → args[j]? = some v → Value.okWide Tryd.prog W .any base t v := hval0
  have hsz : (DataW.weightsEach Tryd.prog (Tryd.f3.params.toList ++ Rows.mixTellsSpec.plain.varTypes Tryd.prog) (ds ++ gs)).all (· ≤ reachBytes) = true := hsz0
  have hW' : DataW.Whole enc Tryd.prog Tryd.f3.params.toList Rows.mixTellsSpec.vars false W args.toList ds gs before := hW
  obtain ⟨p, q, hA0, hV, rfl, _, _⟩ := hW
  have hA : DataW.TrodAll enc Tryd.prog W 0 (fun _ => true) true Tryd.f3.params.toList args.toList ds p := hA0
  clear hval0 hsz0 hA0
  have hpar : Tryd.f3.params = #[22, 23, 23, 3] := Tryd.params3
  rw [hpar] at hA hval hsz
  obtain ⟨v0, v1, v2, v3, d0, d1, d2, d3, p0, p1, p2, p3, rfl, rfl, rfl, h0, h1, h2, h3⟩ := trodAll_four hA
  obtain ⟨b, hg⟩ := errCell hL
  obtain ⟨A0, ps, c0, rfl, hps, hpl, heach⟩ := open_rows Tryd.underlying22 Tryd.underlying24 Tryd.underlying5 cellsRow cellsByte bytesRow bytesByte (hval 0 _ v0 rfl rfl) h0 (reach_arg hsz (j := 0) rfl rfl)
  obtain ⟨x, rfl, rfl, rfl, wx⟩ := open_int Tryd.underlying23 (hval 1 _ v1 rfl rfl) h1
  obtain ⟨y, rfl, rfl, rfl, wy⟩ := open_int Tryd.underlying23 (hval 2 _ v2 rfl rfl) h2
  obtain ⟨z, rfl, rfl, rfl, wz⟩ := open_int Tryd.underlying3 (hval 3 _ v3 rfl rfl) h3
  have bx := bounds_u32 wx
  have by_ := bounds_u32 wy
  have bz := bounds_i64 wz
  obtain ⟨s, rfl⟩ := open_u32 x bx.1 bx.2
  obtain ⟨t, rfl⟩ := open_u32 y by_.1 by_.2
  refine (mixTells_any ps A0 c0 s t z b W hg hps hpl heach bz.2).mono fun e W' ⟨he, hw⟩ => ?_
  subst he
  exact ⟨_, rfl, law_post (bt := 4) laidOut (by kernel_rfl) (by kernel_rfl) Tryd.underlying4 rfl (fun gs hgs => by subst hgs; rfl) hW' hw⟩
theorem mixTells_holds : Rows.MixTellsSaid :=
  OpenClaim.holds_of_wide 3 Tryd.f3 rfl rfl rfl rfl rfl rfl rfl ⟨rfl, rfl, rfl, rfl, rfl⟩ rfl rfl rfl rfl rfl (by kernel_rfl) Tryd.func3 (by kernel_rfl)
    (of_decide_eq_true (by kernel_rfl)) (by unfold Func.isWrapper; first | (rw [if_pos (by decide +kernel)]; kernel_rfl) | (rw [if_neg (by decide +kernel)]; exact ⟨rfl, rfl⟩))
    (fun os started H enc _ => mixTells_lifted os started H enc)
theorem mixTells_card : Rows.MixTellsCardSaid :=
  Claim7.holds_tied_plain_at .later [] [.sentinel] true Rows.mixTellsCard.stood.harness true
    mixTells_holds (fun _ h => by cases h) (by kernel_rfl) (fun _ h => by cases h) mixTells_row_tie rfl ⟨rfl, rfl⟩ (by kernel_rfl) rfl
    (fun f fn hf hfn => by
      obtain rfl : f = 3 := Option.some.inj ((show Tryd.prog.funcNamed "limpet/limpetlaw01.MixTells" = some 3 by kernel_rfl).symm.trans hf) |>.symm
      obtain rfl : fn = Tryd.f3 := (Option.some.inj (Tryd.func3.symm.trans hfn)).symm
      exact ⟨by kernel_rfl, fun j t ht => by
        rw [Tryd.params3] at ht
        rcases j with _ | _ | _ | _ | j
        · obtain rfl : 22 = t := by simpa using ht
          exact (show Tryd.prog.wantsStandIn 22 = false by kernel_rfl)
        · obtain rfl : 23 = t := by simpa using ht
          exact (show Tryd.prog.wantsStandIn 23 = false by kernel_rfl)
        · obtain rfl : 23 = t := by simpa using ht
          exact (show Tryd.prog.wantsStandIn 23 = false by kernel_rfl)
        · obtain rfl : 3 = t := by simpa using ht
          exact (show Tryd.prog.wantsStandIn 3 = false by kernel_rfl)
        · simp at ht⟩)
    (by kernel_rfl)
#print axioms mixTells_card
end Go.Proofs.YtdmomeeilibnmaaDoor
