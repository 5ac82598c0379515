/- seg: segment.ahead, of anything. -/
import Derived.Test.YtpdfmpegcejmkaaGreatDoorSegAheadM
namespace Go.Proofs.YtpdfmpegcejmkaaGreatDoor
open Go.RowKit
theorem gaheadS_any (σ : Sen) (τ : SenU) (ρ : SenQ) (W : World) (hC : GlAt σ W) (hU : GlU τ W) (hQ : GlQ ρ W) (hM : GlM ρ W) (a b c g f : Int) (A : Option Addr) (bs : List Int) (k : Nat) (hb : BytesAt W A bs) (hbc : bs.length ≤ k) (hm : k ≤ 9223372036854775807) (hf : f ≤ 1099511627776 * 64) :
    Calls Tryz.prog 46 #[.agg (segC a b c g f), .slice A bs.length k] W fun r w' => (((headOf bs f g).2 = 0 ∧ r = .returned (headOf bs f g).1.val) ∨ Faults ρ (headOf bs f g).2 r) ∧ Below W.heap.size W w' := by
  by_cases h0 : f < 0
  · have e : headOf bs f g = (noIdent, 2) := by unfold headOf; rw [if_pos h0]
    rw [e]
    exact (gahead_none ρ W hQ hM a b c g f A bs.length k h0).mono fun r w' h => ⟨.inr h.1, h.2⟩
  · by_cases he : (asB bs 4 g).2 = 0
    · have e : headOf bs f g = partedH f (asB bs 4 g).1 := by unfold headOf; rw [if_neg h0, if_neg (fun h => h he)]
      rw [e]
      obtain ⟨h1, h2⟩ := head_read f (asB bs 4 g).1
      refine (gahead_body σ τ ρ W hC hU hQ hM a b c g f A bs k hb hbc hm (by omega) hf he).mono ?_
      rintro r w' ⟨⟨hp, rfl⟩ | ⟨hp, hr⟩, hbl⟩
      · have hz := h1.1 hp
        refine ⟨.inl ⟨hz, ?_⟩, hbl⟩
        rw [h2 hz, show (partedH f (asB bs 4 g).1).1 = bodyH (asB bs 4 g).1 by unfold partedH; rw [if_pos ((partedH_zero _ _).1 hz)]]
      · have hn : ¬((asB bs 4 g).1.length = 13 ∧ aheadI (bodyH (asB bs 4 g).1) f) := fun x => hp (h1.2 ((partedH_zero _ _).2 x))
        refine ⟨.inr ?_, hbl⟩
        rw [show (partedH f (asB bs 4 g).1).2 = 4 by unfold partedH; rw [if_neg hn]]
        exact hr
    · have e : headOf bs f g = (noIdent, (asB bs 4 g).2) := by unfold headOf; rw [if_neg h0, if_pos he]
      rw [e]
      exact (gahead_as σ τ ρ W hC hU hM a b c g f A bs k hb hbc hm (by omega) he).mono fun r w' h => ⟨.inr h.1, h.2⟩
theorem headOf_none {bs : List Int} {f g : Int} (h : (headOf bs f g).2 ≠ 0) : (headOf bs f g).1 = noIdent := by
  unfold headOf partedH at *
  repeat' split
  all_goals first
    | rfl
    | (exfalso; apply h; simp_all)
/-- Amid the closure of Ahead. -/
structure AcI (W : World) (a b c g f : Int) (A : Option Addr) (bs : List Int) (n : Nat) (z : Nat) (D : Nat → Bool) (V : Nat → Value) (w : World) : Prop where
  gr : W.grownBy w (some z)
  bl : D 5 = false → Below W.heap.size W w
  s54 : D 5 = true → D 4 = true
  z0 : D 5 = false → BlockIs w z 26 #[.int .i64 0, .int .i64 0, .int .i64 0]
  z1 : D 5 = true → BlockIs w z 26 #[.int .i64 (headOf bs f g).1.idx, .int .i64 (headOf bs f g).1.term, .int .i64 (headOf bs f g).1.kind]
  nz : D 5 = true → (headOf bs f g).2 = 0
  v0 : D 0 = true → V 0 = .agg #[.int .i64 a, .int .i64 b, .int .i64 c]
  v1 : D 1 = true → V 1 = .int .i64 g
  v2 : D 2 = true → V 2 = .agg (segC a b c g f)
  v3 : D 3 = true → V 3 = .slice A bs.length n
  v4 : D 4 = true → D 5 = false → (headOf bs f g).2 = 0 ∧ V 4 = (headOf bs f g).1.val
theorem AcI.world {W w w' : World} {a b c g f : Int} {A : Option Addr} {bs : List Int} {n z : Nat} {D : Nat → Bool} {V : Nat → Value} (k : AcI W a b c g f A bs n z D V w) (hb : Below w.heap.size w w') : AcI W a b c g f A bs n z D V w' :=
  { k with gr := k.gr.trans (grown_below hb _), bl := fun h => (k.bl h).trans (hb.mono (k.bl h).size), z0 := fun h => (k.z0 h).below hb (k.z0 h).lt, z1 := fun h => (k.z1 h).below hb (k.z1 h).lt }
theorem bytes_load {w : World} {p n c : Nat} {A : Option Addr} (h : BlockIs w p 27 #[.slice A n c]) : (Instr.loadAt 27 (.pointer (some ⟨p, 0, none⟩))).run Tryz.prog w = .ok (.slice A n c) w := by
  have d0 := h.cell 0
  go_simp
set_option maxRecDepth 100000 in
set_option maxHeartbeats 4000000 in
theorem gahead1_any (σ : Sen) (τ : SenU) (ρ : SenQ) (W : World) (hC : GlAt σ W) (hU : GlU τ W) (hQ : GlQ ρ W) (hM : GlM ρ W) (a b c g : Int) (A : Option Addr) (bs : List Int) (k : Nat) (hb : BytesAt W A bs) (hbc : bs.length ≤ k) (hm : k ≤ 9223372036854775807) (p q x z : Nat)
    (hp : BlockIs W p 23 #[.int .i64 a, .int .i64 b, .int .i64 c]) (hq : BlockIs W q 3 #[.int .i64 g]) (hx : BlockIs W x 27 #[.slice A bs.length k]) (hz : BlockIs W z 26 #[.int .i64 0, .int .i64 0, .int .i64 0]) (hpz : p ≠ z) (hqz : q ≠ z) (hxz : x ≠ z) :
    Calls Tryz.prog 45 #[.pointer (some ⟨p, 0, none⟩), .pointer (some ⟨q, 0, none⟩), .pointer (some ⟨x, 0, none⟩), .pointer (some ⟨z, 0, none⟩)] W fun r w' => (((headOf bs (firstI a b c g) g).2 = 0 ∧ r = .returned (.tuple #[])) ∨ Faults ρ (headOf bs (firstI a b c g) g).2 r) ∧ BlockIs w' z 26 #[.int .i64 (headOf bs (firstI a b c g) g).1.idx, .int .i64 (headOf bs (firstI a b c g) g).1.term, .int .i64 (headOf bs (firstI a b c g) g).1.kind] ∧ W.grownBy w' (some z) := by
  have hf := firstI_le a b c g
  have HF := Lib.hid (fun w => segmentOf_any w a b c g)
  obtain ⟨f, hff⟩ : ∃ f, firstI a b c g = f := ⟨_, rfl⟩
  rw [hff] at HF hf ⊢
  have HH := Lib.hid (fun w (h : Below W.heap.size W w) => gaheadS_any σ τ ρ w (hC.below h) (hU.below h) (hQ.below h) (hM.below h) a b c g f A bs k (hb.below h) hbc hm hf)
  have HP := Lib.hid (And.intro hp (And.intro hq (And.intro hx hz)))
  have HN := Lib.hid (And.intro hpz (And.intro hqz hxz))
  clear hC hU hQ hM hb hbc hm hff hf hp hq hx hz hpz hqz hxz
  go_enter Tryz.func45, Tryz.ntmps45
  go_wp2_with fail
  refine Ssa.wp_region_opsP (AcI W a b c g f A bs k z) (fun ch w => (∃ n v, ch = [{ v := gfaultV n v, recovered := false }] ∧ GErr ρ (headOf bs f g).2 v) ∧ BlockIs w z 26 #[.int .i64 (headOf bs f g).1.idx, .int .i64 (headOf bs f g).1.term, .int .i64 (headOf bs f g).1.kind] ∧ W.grownBy w (some z)) (by kernel_rfl) (by kernel_rfl) (by kernel_rfl) (by kernel_rfl) (fun V => ⟨grown_below (Below.refl _ _).drew _, fun _ => (Below.refl _ _).drew, fun h => (by cases h), fun _ => HP.out.2.2.2, fun h => (by cases h), fun h => (by cases h), fun h => (by cases h), fun h => (by cases h), fun h => (by cases h), fun h => (by cases h), fun h => (by cases h)⟩) ?_ ?_ ?_
  · intro hd
    refine Ssa.OpsInv.cons (Ssa.opInv rfl fun D V w hi hall K => ?_) ?_
    · exact Ssa.ov_val (Ssa.exec_load rfl (Ssa.evT rfl rfl) (shape_load (HP.out.1.kept K.gr (fun e => HN.out.1 (Option.some.inj e))))) { K with v0 := fun _ => rfl }
    refine Ssa.OpsInv.cons (Ssa.opInv rfl fun D V w hi hall K => ?_) ?_
    · exact Ssa.ov_val (Ssa.exec_load rfl (Ssa.evT rfl rfl) (num_load (HP.out.2.1.kept K.gr (fun e => HN.out.2.1 (Option.some.inj e))))) { K with v1 := fun _ => rfl }
    refine Ssa.OpsInv.cons (Ssa.opInv rfl fun D V w hi hall K => ?_) ?_
    · have d0 : D 0 = true := Ssa.dep hall 0 rfl rfl
      have d1 : D 1 = true := Ssa.dep hall 1 rfl rfl
      refine Ssa.ov_call (Ssa.exec_call rfl rfl (Ssa.evs_cons ((Ssa.evM hd 0 rfl rfl).trans (K.v0 d0)) (Ssa.evs_cons ((Ssa.evM hd 1 rfl rfl).trans (K.v1 d1)) Ssa.evs_nil)) Tryz.func40 (by kernel_rfl) rfl) ((HF.out w).mono ?_)
      rintro r w' ⟨rfl, hb⟩
      exact ⟨_, rfl, { K.world hb with v2 := fun _ => rfl }⟩
    refine Ssa.OpsInv.cons (Ssa.opInv rfl fun D V w hi hall K => ?_) ?_
    · exact Ssa.ov_val (Ssa.exec_load rfl (Ssa.evT rfl rfl) (bytes_load (HP.out.2.2.1.kept K.gr (fun e => HN.out.2.2 (Option.some.inj e))))) { K with v3 := fun _ => rfl }
    refine Ssa.OpsInv.cons (Ssa.opInv rfl fun D V w hi hall K => ?_) ?_
    · have d2 : D 2 = true := Ssa.dep hall 0 rfl rfl
      have d3 : D 3 = true := Ssa.dep hall 1 rfl rfl
      have d5 : D 5 = false := by
        cases h : D 5 with
        | false => rfl
        | true => rw [K.s54 h] at hi; cases hi
      refine Ssa.ov_callP (Ssa.exec_call rfl rfl (Ssa.evs_cons ((Ssa.evM hd 2 rfl rfl).trans (K.v2 d2)) (Ssa.evs_cons ((Ssa.evM hd 3 rfl rfl).trans (K.v3 d3)) Ssa.evs_nil)) Tryz.func46 (by kernel_rfl) rfl) ((HH.out w (K.bl d5)).mono ?_)
      rintro r w' ⟨⟨h0, rfl⟩ | ⟨n, v, rfl, hv⟩, hb⟩
      · exact .inl ⟨_, rfl, { K.world hb with s54 := fun _ => rfl, v4 := fun _ _ => ⟨h0, rfl⟩ }⟩
      · have hne : (headOf bs f g).2 ≠ 0 := hv.ne
        refine .inr ⟨_, rfl, ⟨n, v, rfl, hv⟩, ?_, K.gr.trans (grown_below hb _)⟩
        rw [headOf_none hne]
        exact (K.z0 d5).below hb (K.z0 d5).lt
    refine Ssa.OpsInv.cons (Ssa.opInv rfl fun D V w hi hall K => ?_) ?_
    · have d4 : D 4 = true := Ssa.dep hall 0 rfl rfl
      obtain ⟨h0, e1⟩ := K.v4 d4 hi
      have hB := K.z0 hi
      obtain ⟨hZ, hg⟩ := BlockIs.put3 hB (.int .i64 (headOf bs f g).1.idx) (.int .i64 (headOf bs f g).1.term) (.int .i64 (headOf bs f g).1.kind)
      exact Ssa.ov_skip (Ssa.exec_store rfl (Ssa.evT rfl rfl) ((Ssa.evM hd 4 rfl rfl).trans e1) (ident_store8 hB)) { K with gr := K.gr.trans hg, bl := fun h => (by cases h), s54 := fun _ => d4, z0 := fun h => (by cases h), z1 := fun _ => hZ, nz := fun _ => h0, v4 := fun _ h => (by cases h) }
    exact Ssa.OpsInv.nil
  · intro D V w5 hall K
    have e2 := K.z1 (hall 5 (by decide))
    have e3 := K.nz (hall 5 (by decide))
    have HK := Lib.hid (And.intro e3 (And.intro e2 K.gr))
    clear K e2 e3 hall
    simp only [Ssa.mixV, Ssa.putV, List.setIfInBounds_toArray, List.set_cons_zero, List.set_cons_succ, Nat.zero_add, Nat.reduceAdd]
    go_wp2_with fail
    go_end0
    exact ⟨.inl ⟨HK.out.1, rfl⟩, HK.out.2.1, HK.out.2.2⟩
  · rintro ch ac w5 hds ⟨⟨n, v, rfl, hv⟩, hu, hg⟩
    exact ⟨hds, .inr ⟨n, v, rfl, hv⟩, hu, hg⟩
set_option maxRecDepth 100000 in
set_option maxHeartbeats 4000000 in
/-- seg.Ahead of anything. -/
theorem gsegAhead_any (σ : Sen) (τ : SenU) (ρ : SenQ) (W : World) (hC : GlAt σ W) (hU : GlU τ W) (hQ : GlQ ρ W) (hM : GlM ρ W) (a b c g : Int) (A : Option Addr) (bs : List Int) (k : Nat) (hb : BytesAt W A bs) (hbc : bs.length ≤ k) (hm : k ≤ 9223372036854775807) :
    Calls Tryz.prog 12 #[.slice A bs.length k, .agg #[.int .i64 a, .int .i64 b, .int .i64 c], .int .i64 g] W fun r w' => r = .returned (.tuple #[(headOf bs (firstI a b c g) g).1.val, .int .i64 (headOf bs (firstI a b c g) g).2]) ∧ Below W.heap.size W w' := by
  have hmf : ∀ (fn : Fn) (first cap : Array Value) (w : World), (Instr.makeFunc fn first cap).run Tryz.prog w = .ok (.func fn first cap) w := fun _ _ _ _ => rfl
  have hbw := boxes_below [(27, #[.slice A bs.length k]), (23, #[.int .i64 a, .int .i64 b, .int .i64 c]), (3, #[.int .i64 g]), (26, #[.int .i64 0, .int .i64 0, .int .i64 0]), (26, #[.int .i64 0, .int .i64 0, .int .i64 0])] W
  have hs := boxes_size [(27, #[.slice A bs.length k]), (23, #[.int .i64 a, .int .i64 b, .int .i64 c]), (3, #[.int .i64 g]), (26, #[.int .i64 0, .int .i64 0, .int .i64 0]), (26, #[.int .i64 0, .int .i64 0, .int .i64 0])] W
  have h0 := boxes_at [(27, #[.slice A bs.length k]), (23, #[.int .i64 a, .int .i64 b, .int .i64 c]), (3, #[.int .i64 g]), (26, #[.int .i64 0, .int .i64 0, .int .i64 0]), (26, #[.int .i64 0, .int .i64 0, .int .i64 0])] W 0 _ _ rfl
  have h1 := boxes_at [(27, #[.slice A bs.length k]), (23, #[.int .i64 a, .int .i64 b, .int .i64 c]), (3, #[.int .i64 g]), (26, #[.int .i64 0, .int .i64 0, .int .i64 0]), (26, #[.int .i64 0, .int .i64 0, .int .i64 0])] W 1 _ _ rfl
  have h2 := boxes_at [(27, #[.slice A bs.length k]), (23, #[.int .i64 a, .int .i64 b, .int .i64 c]), (3, #[.int .i64 g]), (26, #[.int .i64 0, .int .i64 0, .int .i64 0]), (26, #[.int .i64 0, .int .i64 0, .int .i64 0])] W 2 _ _ rfl
  have h3 := boxes_at [(27, #[.slice A bs.length k]), (23, #[.int .i64 a, .int .i64 b, .int .i64 c]), (3, #[.int .i64 g]), (26, #[.int .i64 0, .int .i64 0, .int .i64 0]), (26, #[.int .i64 0, .int .i64 0, .int .i64 0])] W 3 _ _ rfl
  have h4 := boxes_at [(27, #[.slice A bs.length k]), (23, #[.int .i64 a, .int .i64 b, .int .i64 c]), (3, #[.int .i64 g]), (26, #[.int .i64 0, .int .i64 0, .int .i64 0]), (26, #[.int .i64 0, .int .i64 0, .int .i64 0])] W 4 _ _ rfl
  obtain ⟨w4, hw4⟩ : ∃ w4, boxes W [(27, #[.slice A bs.length k]), (23, #[.int .i64 a, .int .i64 b, .int .i64 c]), (3, #[.int .i64 g]), (26, #[.int .i64 0, .int .i64 0, .int .i64 0]), (26, #[.int .i64 0, .int .i64 0, .int .i64 0])] = w4 := ⟨_, rfl⟩
  rw [hw4] at hbw hs h0 h1 h2 h3 h4
  simp only [boxes] at hw4
  simp only [List.length_cons, List.length_nil] at hs
  have HB := Lib.hid (And.intro hbw (And.intro hs (And.intro h3 h4)))
  have Hw4 := Lib.hid hw4
  have HT := Lib.hid (tried_any ρ w4 45 #[.pointer (some ⟨W.heap.size + 1, 0, none⟩), .pointer (some ⟨W.heap.size + 1 + 1, 0, none⟩), .pointer (some ⟨W.heap.size, 0, none⟩), .pointer (some ⟨W.heap.size + 1 + 1 + 1 + 1, 0, none⟩)] (fun _ => by simp [go_sem]) (some (W.heap.size + 4)) (fun b x => by have := Option.some.inj x; omega) (fun n w2 => n = (headOf bs (firstI a b c g) g).2 ∧ BlockIs w2 (W.heap.size + 4) 26 #[.int .i64 (headOf bs (firstI a b c g) g).1.idx, .int .i64 (headOf bs (firstI a b c g) g).1.term, .int .i64 (headOf bs (firstI a b c g) g).1.kind]) (fun w1 b1 l1 => (gahead1_any σ τ ρ w1 (hC.below (hbw.trans (b1.mono hbw.size))) (hU.below (hbw.trans (b1.mono hbw.size))) (hQ.below (hbw.trans (b1.mono hbw.size))) (hM.below (hbw.trans (b1.mono hbw.size))) a b c g A bs k (hb.below (hbw.trans (b1.mono hbw.size))) hbc hm (W.heap.size + 1) (W.heap.size + 1 + 1) W.heap.size (W.heap.size + 4) (h1.below b1 h1.lt) (h2.below b1 h2.lt) (h0.below b1 h0.lt) (h4.below b1 h4.lt) (by omega) (by omega) (by omega)).mono (by
      rintro r w2 ⟨hr, hu, hg⟩
      have bw := hbw.trans (b1.mono hbw.size)
      exact ⟨_, hr, hg, hQ.below (below_grown bw hg bw.size (by omega)), rfl, hu⟩)))
  obtain ⟨rr, hrr⟩ : ∃ rr, headOf bs (firstI a b c g) g = rr := ⟨_, rfl⟩
  rw [hrr] at HT ⊢
  obtain ⟨⟨ix, it, ik⟩, rc⟩ := rr
  simp only at HT ⊢
  clear hbw hs h0 h1 h2 h3 h4 hw4 hC hU hQ hM hb hbc hm hrr
  unfold IdentI.val
  go_enter Tryz.func12, Tryz.ntmps12
  go_wp2_with fail
  rw [Hw4.out]
  refine HT.out.mono ?_
  rintro r w6 ⟨n, w5, rfl, ⟨rfl, hu⟩, g5, g6, l5⟩
  have HS := Lib.hid HB.out.2.1
  have ha4 : Hid (Below W.heap.size W w5) := Lib.hid (HB.out.1.trans ⟨g5.os, g5.tape, g5.output, by have := g5.size; have := HS.out; omega, fun k hk => g5.block k (by have := HS.out; omega) (fun x => by have := Option.some.inj x; omega)⟩)
  have hb6 := Lib.hid (below_grown ha4.out g6 ha4.out.size (by have := HS.out; omega))
  have k1 := (show BlockIs w5 (W.heap.size + 1 + 1 + 1 + 1) 26 #[.int .i64 ix, .int .i64 it, .int .i64 ik] from hu).kept g6 (fun x => by have := Option.some.inj x; have := HS.out; omega)
  have r5 := (show BlockIs w4 (W.heap.size + 1 + 1 + 1) 26 #[.int .i64 0, .int .i64 0, .int .i64 0] from HB.out.2.2.1).kept g5 (fun x => by have := Option.some.inj x; omega)
  have r6 := r5.kept g6 (fun x => by have := Option.some.inj x; have := HS.out; omega)
  have u0 := k1.cell 0
  have u1 := k1.cell 1
  have u2 := k1.cell 2
  obtain ⟨c0, c1, c2, f0, f1, f2⟩ := r6.three
  have Z := Lib.hid (r6.put3 (.int .i64 ix) (.int .i64 it) (.int .i64 ik))
  clear k1 r5 r6 hu g5 g6 l5 ha4
  go_wp2_with fail
  clear u0 u1 u2 c0 c1 c2 f0 f1 f2
  obtain ⟨z0, z1, z2, _⟩ := Z.out.1.three
  refine bodyPost_ret (v := .tuple #[.agg #[.int .i64 ix, .int .i64 it, .int .i64 ik], .int .i64 n]) (by simp [results, Tryz.results12, go_sem, z0, z1, z2]) rfl ⟨rfl, below_grown hb6.out Z.out.2 hb6.out.size (by omega)⟩
end Go.Proofs.YtpdfmpegcejmkaaGreatDoor
