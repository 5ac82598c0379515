/- seg: whether a foot is that of blocks. -/
/- seg.Shut, of anything. -/
import Derived.Test.YtpdfmpegcejmkaaGreatDoorSegFootA
import Derived.Test.YtpdfmpegcejmkaaGreatDoorKitStr
namespace Go.Proofs.YtpdfmpegcejmkaaGreatDoor
open Go.RowKit
theorem shutR_foot {bs : List Int} {f g : Int} {n : Nat} {rows : List (List Int)} (h : (footR f g n rows).2 ≠ 0) : shutR bs f g n rows = (footR f g n rows).2 := by unfold shutR; rw [if_pos h]
theorem shutR_as {bs : List Int} {f g : Int} {n : Nat} {rows : List (List Int)} (h : (footR f g n rows).2 = 0) (h2 : (asB bs 6 g).2 ≠ 0) : shutR bs f g n rows = (asB bs 6 g).2 := by unfold shutR; rw [if_neg (fun x => x h), if_pos h2]
theorem shutR_body {bs : List Int} {f g : Int} {n : Nat} {rows : List (List Int)} (h : (footR f g n rows).2 = 0) (h2 : (asB bs 6 g).2 = 0) : shutR bs f g n rows = if (asB bs 6 g).1 = (footR f g n rows).1.body then 0 else 5 := by
  unfold shutR
  rw [if_neg (fun x => x h), if_neg (fun x => x h2)]
  by_cases h3 : (asB bs 6 g).1 = (footR f g n rows).1.body
  · rw [if_pos h3, if_neg (fun x => x h3)]
  · rw [if_neg h3, if_pos h3]
set_option maxRecDepth 100000 in
set_option maxHeartbeats 4000000 in
theorem gshut_any (σ : Sen) (τ : SenU) (ρ : SenQ) (W : World) (hC : GlAt σ W) (hU : GlU τ W) (hQ : GlQ ρ W) (hM : GlM ρ W) (a b c g f : Int) (B : Option Addr) (bs : List Int) (kb : Nat) (hbs : BytesAt W B bs) (hbc : bs.length ≤ kb) (hm : kb ≤ 9223372036854775807) (A : Option Addr) (ps : List Part) (k : Nat) (hp : PartsAt W A ps) (hf2 : f ≤ 1099511627776 * 64) (hb : 0 ≤ f → 1 ≤ b ∧ b ≤ 32) :
    Calls Tryz.prog 56 #[.agg (segC a b c g f), .slice B bs.length kb, .slice A ps.length k] W fun r w' => ((shutR bs f g b.toNat (rowsP ps) = 0 ∧ r = .returned (.tuple #[])) ∨ Faults ρ (shutR bs f g b.toNat (rowsP ps)) r) ∧ Below W.heap.size W w' := by
  have hb1 := below_new W (.cells (segC a b c g f) 73)
  have hB := BlockIs.made W 73 (segC a b c g f)
  have HFt := Lib.hid (fun w (h : Below W.heap.size W w) => gfoot_any σ τ ρ w (hC.below h) (hU.below h) (hQ.below h) (hM.below h) a b c g f A ps k (hp.below h) hf2 hb)
  have HOb := Lib.hid (fun w (h : Below W.heap.size W w) he => gopened_bad σ τ ρ w (hC.below h) (hU.below h) B bs kb (hbs.below h) hbc hm 6 g he)
  have HOg := Lib.hid (fun w (h : Below W.heap.size W w) he => gopened_good σ τ w (hC.below h) (hU.below h) B bs kb (hbs.below h) hbc hm 6 g he)
  have HMu := Lib.hid (fun n w => gmust_err ρ n _ _ (GlQ.err_ft hQ) w)
  have HE := Lib.hid (GlQ.err_ft hQ)
  have HFg := Lib.hid (fun w (h : Below W.heap.size W w) => (hQ.below h).ft)
  have HAb := Lib.hid (fun k n => asB_len hbs.1 (k := k) (n := n))
  obtain ⟨w1, hw1⟩ : ∃ w1, W.alloc (.cells (segC a b c g f) 73) = w1 := ⟨_, rfl⟩
  rw [hw1] at hb1 hB
  have H1 := Lib.hid (And.intro hb1 hB)
  have Hw1 := Lib.hid hw1
  clear hC hU hQ hM hbs hbc hm hp hf2 hb hb1 hB hw1
  obtain ⟨c0, c1, c2, c3, c4⟩ := cells_five8 H1.out.2
  go_enter Tryz.func56, Tryz.ntmps56
  go_wp2_with fail
  rw [Hw1.out]
  refine (HFt.out _ H1.out.1).mono ?_
  rintro r w2 ⟨⟨h0, v, rfl, ho⟩ | ⟨n, v, rfl, hv⟩, b2⟩
  · obtain ⟨X, cap, rfl, _, _⟩ := own_slice ho
    have hb3 := below_new w2 (.cells #[.int .i64 6, .int .i64 g, .slice X 11 cap] 34)
    have Q3 := BlockIs.made w2 34 #[.int .i64 6, .int .i64 g, .slice X 11 cap]
    have S3 := (H1.out.2.below b2 H1.out.2.lt).below hb3 (Nat.lt_of_lt_of_le H1.out.2.lt b2.size)
    have B3 := H1.out.1.trans ((b2.trans (hb3.mono b2.size)).mono H1.out.1.size)
    obtain ⟨s1, s2, s3, s4⟩ := footR_some h0
    have R3 := own_reads (ownsRow_below ho hb3) s4
    have hL1 := H1.out.2.lt
    obtain ⟨w3, hw3⟩ : ∃ w3, w2.alloc (.cells #[.int .i64 6, .int .i64 g, .slice X 11 cap] 34) = w3 := ⟨_, rfl⟩
    rw [hw3] at Q3 S3 B3 R3
    have Hw3 := Lib.hid hw3
    have HB3 := Lib.hid (And.intro Q3 (And.intro S3 (And.intro B3 R3)))
    have H0 := Lib.hid (And.intro h0 s3)
    have Hon := Lib.hid (fun w4 (b4 : Below w3.drew.heap.size w3.drew w4) => (show BlockIs w4 w2.heap.size 34 #[.int .i64 6, .int .i64 g, .slice X 11 cap] ∧ BlockIs w4 W.heap.size 73 (segC a b c g f) ∧ Below W.heap.size W w4 ∧ BytesAt w4 X (footR f g b.toNat (rowsP ps)).1.body from
      ⟨Q3.below ((Below.refl w3.heap.size w3).drew.trans b4) Q3.lt, S3.below ((Below.refl w3.heap.size w3).drew.trans b4) S3.lt, B3.trans (((Below.refl w3.heap.size w3).drew.trans b4).mono B3.size), R3.below ((Below.refl w3.heap.size w3).drew.trans b4)⟩))
    clear h0 ho b2 hb3 Q3 S3 B3 R3 hw3 c0 c1 c2 c3 c4 s1 s2 s3 s4 HFt
    obtain ⟨d0, d1, d2, _⟩ := HB3.out.1.three
    obtain ⟨c0, c1, c2, c3, c4⟩ := cells_five8 HB3.out.2.1
    by_cases he : (asB bs 6 g).2 = 0
    · have hOg := Lib.hid (HOg.out w3.drew (HB3.out.2.2.1.drew) he)
      have hAb := Lib.hid (HAb.out 6 g)
      have hSb := Lib.hid (shutR_body (bs := bs) H0.out.1 he)
      obtain ⟨xs, hxs⟩ : ∃ xs, (asB bs 6 g).1 = xs := ⟨_, rfl⟩
      rw [hxs] at hOg hAb hSb
      have hEq := Lib.hid (fun w Y cy (hy : w.ownsRow w3.drew.heap.size 5 1 (.slice Y xs.length cy) xs.length (u8s xs)) (hx : BytesAt w X (footR f g b.toNat (rowsP ps)).1.body) => bytesEqual_any w Y X xs (footR f g b.toNat (rowsP ps)).1.body cy cap (own_reads hy hAb.out.2) hx)
      rw [H0.out.2] at hEq
      have hfd : ∀ (p : Option Addr) (Y : Option Addr) (n c : Nat) (w : World), (Instr.field 122 (.agg #[.pointer p, .slice Y n c]) 1).run Tryz.prog w = .ok (.slice Y n c) w := fun _ _ _ _ _ => by kernel_rfl
      clear hxs he HOb HOg HAb
      obtain ⟨dq, hdq⟩ : ∃ dq, decide (xs = (footR f g b.toNat (rowsP ps)).1.body) = dq := ⟨_, rfl⟩
      rw [hdq] at hEq
      have Hdq := Lib.hid hdq
      clear hdq
      go_wp2_with fail
      rw [Hw3.out]
      go_region_held3 (fun w' => w'.cell? ⟨W.heap.size, 3, none⟩ = some (.int .i64 g) ∧ w'.cell? ⟨w2.heap.size, 2, none⟩ = some (.slice X 11 cap)) (first | exact ⟨c3, d2⟩ | exact ⟨e3, e2⟩) (first
        | (go_at_call 81; refine hOg.out.mono ?_; rintro r w4 ⟨gr, Y, cy, rfl, hg1, hrd, ho4, hY, b4⟩; have s4 := Hon.out _ b4; obtain ⟨_, _, e2, _⟩ := s4.1.three; obtain ⟨_, _, _, e3, _⟩ := cells_five8 s4.2.1; have hEq4 := hEq.out w4 Y cy ho4 s4.2.2.2)
        | (go_at_call 90; refine hEq4.mono ?_; rintro r w5 ⟨rfl, rfl⟩))
      rename_i hHeld
      have S4 := Lib.hid s4
      clear hHeld s4 c0 c1 c2 c3 c4 d0 d1 d2 e2 e3 hrd ho4 hY b4 hg1 hEq4
      cases dq with
      | true =>
        have hz : shutR bs f g b.toNat (rowsP ps) = 0 := by
          rw [hSb.out, if_pos (of_decide_eq_true Hdq.out)]
        have Hz := Lib.hid hz
        clear hz
        go_wp2_with fail
        go_end0
        exact ⟨.inl ⟨Hz.out, rfl⟩, S4.out.2.2.1⟩
      | false =>
        have hz : shutR bs f g b.toNat (rowsP ps) = 5 := by
          rw [hSb.out, if_neg (of_decide_eq_false Hdq.out)]
        have Hz := Lib.hid hz
        have ft := HFg.out _ S4.out.2.2.1
        obtain ⟨c0, c1, c2, c3, c4⟩ := cells_five8 S4.out.2.1
        clear hz
        go_wp2_with fail
        refine (HMu.out _ _).mono ?_
        rintro r w6 ⟨rfl, rfl⟩
        exact ⟨rfl, .inr (by rw [Hz.out]; exact ⟨_, _, rfl, HE.out⟩), S4.out.2.2.1⟩
    · have hOb := Lib.hid (HOb.out w3.drew (HB3.out.2.2.1.drew) he)
      go_wp2_with fail
      rw [Hw3.out]
      go_region_with ((go_at_call 81; refine hOb.out.mono ?_; rintro r w4 ⟨⟨n', v', rfl, hv⟩, b4⟩; have hb4 := (Hon.out _ b4).2.2.1; refine have _hx : wpAny Tryz.prog .any #[] (fun _ _ _ => True) 0 #[] { tmps := #[], defers := [] } W := ?_; ⟨rfl, .inr (by rw [shutR_as H0.out.1 he]; exact ⟨n', v', rfl, hv⟩), hb4⟩))
      all_goals trivial
  · refine ⟨rfl, .inr ?_, H1.out.1.trans (b2.mono H1.out.1.size)⟩
    rw [shutR_foot hv.ne]
    exact ⟨n, v, rfl, hv⟩
end Go.Proofs.YtpdfmpegcejmkaaGreatDoor
namespace Go.Proofs.YtpdfmpegcejmkaaGreatDoor
open Go.RowKit
theorem blk_load {w : World} {p : Nat} {A : Option Addr} {n k : Nat} (h : BlockIs w p 27 #[.slice A n k]) : (Instr.loadAt 27 (.pointer (some ⟨p, 0, none⟩))).run Tryz.prog w = .ok (.slice A n k) w := by
  have d0 := h.cell 0
  go_simp
/-- Amid the closure of Shut. -/
structure ScI (W : World) (a b c g f : Int) (B : Option Addr) (bn bk : Nat) (A : Option Addr) (n k : Nat) (z : Int) (D : Nat → Bool) (V : Nat → Value) (w : World) : Prop where
  bl : Below W.heap.size W w
  v0 : D 0 = true → V 0 = .agg #[.int .i64 a, .int .i64 b, .int .i64 c]
  v1 : D 1 = true → V 1 = .int .i64 g
  v2 : D 2 = true → V 2 = .agg (segC a b c g f)
  v3 : D 3 = true → V 3 = .slice B bn bk
  v4 : D 4 = true → V 4 = .slice A n k
  v5 : D 5 = true → z = 0
set_option maxRecDepth 100000 in
set_option maxHeartbeats 4000000 in
theorem gshut1_any (σ : Sen) (τ : SenU) (ρ : SenQ) (W : World) (hC : GlAt σ W) (hU : GlU τ W) (hQ : GlQ ρ W) (hM : GlM ρ W) (a b c g : Int) (B : Option Addr) (bs : List Int) (kb : Nat) (hbs : BytesAt W B bs) (hbc : bs.length ≤ kb) (hm : kb ≤ 9223372036854775807) (A : Option Addr) (ps : List Part) (k : Nat) (hps : PartsAt W A ps) (p q x y : Nat)
    (hp : BlockIs W p 23 #[.int .i64 a, .int .i64 b, .int .i64 c]) (hq : BlockIs W q 3 #[.int .i64 g]) (hx : BlockIs W x 27 #[.slice B bs.length kb]) (hy : BlockIs W y 28 #[.slice A ps.length k]) :
    Calls Tryz.prog 55 #[.pointer (some ⟨p, 0, none⟩), .pointer (some ⟨q, 0, none⟩), .pointer (some ⟨x, 0, none⟩), .pointer (some ⟨y, 0, none⟩)] W fun r w' => ((shutR bs (firstI a b c g) g b.toNat (rowsP ps) = 0 ∧ r = .returned (.tuple #[])) ∨ Faults ρ (shutR bs (firstI a b c g) g b.toNat (rowsP ps)) r) ∧ Below W.heap.size W w' := by
  have HF := Lib.hid (fun w => segmentOf_any w a b c g)
  have hf := firstI_le a b c g
  have hfb := firstI_shape a b c g
  obtain ⟨f, hff⟩ : ∃ f, firstI a b c g = f := ⟨_, rfl⟩
  rw [hff] at HF hf hfb ⊢
  have HH := Lib.hid (fun w (h : Below W.heap.size W w) => gshut_any σ τ ρ w (hC.below h) (hU.below h) (hQ.below h) (hM.below h) a b c g f B bs kb (hbs.below h) hbc hm A ps k (hps.below h) hf hfb)
  have HP := Lib.hid (And.intro hp (And.intro hq (And.intro hx hy)))
  obtain ⟨z, hz⟩ : ∃ z, shutR bs f g b.toNat (rowsP ps) = z := ⟨_, rfl⟩
  rw [hz] at HH ⊢
  clear hC hU hQ hM hff hf hfb hps hp hq hx hy hbs hbc hm hz
  go_enter Tryz.func55, Tryz.ntmps55
  go_wp2_with fail
  refine Ssa.wp_region_opsP (ScI W a b c g f B bs.length kb A ps.length k z) (fun ch w => (∃ n v, ch = [{ v := gfaultV n v, recovered := false }] ∧ GErr ρ z v) ∧ Below W.heap.size W w) (by kernel_rfl) (by kernel_rfl) (by kernel_rfl) (by kernel_rfl) (fun V => ⟨(Below.refl _ _).drew, fun h => (by cases h), fun h => (by cases h), fun h => (by cases h), fun h => (by cases h), fun h => (by cases h), fun h => (by cases h)⟩) ?_ ?_ ?_
  · intro hd
    refine Ssa.OpsInv.cons (Ssa.opInv rfl fun D V w hi hall K => ?_) ?_
    · exact Ssa.ov_val (Ssa.exec_load rfl (Ssa.evT rfl rfl) (shape_load (HP.out.1.below K.bl HP.out.1.lt))) { K with v0 := fun _ => rfl }
    refine Ssa.OpsInv.cons (Ssa.opInv rfl fun D V w hi hall K => ?_) ?_
    · exact Ssa.ov_val (Ssa.exec_load rfl (Ssa.evT rfl rfl) (num_load (HP.out.2.1.below K.bl HP.out.2.1.lt))) { K with v1 := fun _ => rfl }
    refine Ssa.OpsInv.cons (Ssa.opInv rfl fun D V w hi hall K => ?_) ?_
    · have d0 : D 0 = true := Ssa.dep hall 0 rfl rfl
      have d1 : D 1 = true := Ssa.dep hall 1 rfl rfl
      refine Ssa.ov_call (Ssa.exec_call rfl rfl (Ssa.evs_cons ((Ssa.evM hd 0 rfl rfl).trans (K.v0 d0)) (Ssa.evs_cons ((Ssa.evM hd 1 rfl rfl).trans (K.v1 d1)) Ssa.evs_nil)) Tryz.func40 (by kernel_rfl) rfl) ((HF.out w).mono ?_)
      rintro r w' ⟨rfl, hb⟩
      exact ⟨_, rfl, { K with bl := K.bl.trans (hb.mono K.bl.size), v2 := fun _ => rfl }⟩
    refine Ssa.OpsInv.cons (Ssa.opInv rfl fun D V w hi hall K => ?_) ?_
    · exact Ssa.ov_val (Ssa.exec_load rfl (Ssa.evT rfl rfl) (blk_load (HP.out.2.2.1.below K.bl HP.out.2.2.1.lt))) { K with v3 := fun _ => rfl }
    refine Ssa.OpsInv.cons (Ssa.opInv rfl fun D V w hi hall K => ?_) ?_
    · exact Ssa.ov_val (Ssa.exec_load rfl (Ssa.evT rfl rfl) (rows_load (HP.out.2.2.2.below K.bl HP.out.2.2.2.lt))) { K with v4 := fun _ => rfl }
    refine Ssa.OpsInv.cons (Ssa.opInv rfl fun D V w hi hall K => ?_) ?_
    · have d2 : D 2 = true := Ssa.dep hall 0 rfl rfl
      have d3 : D 3 = true := Ssa.dep hall 1 rfl rfl
      have d4 : D 4 = true := Ssa.dep hall 2 rfl rfl
      refine Ssa.ov_callP (Ssa.exec_call rfl rfl (Ssa.evs_cons ((Ssa.evM hd 2 rfl rfl).trans (K.v2 d2)) (Ssa.evs_cons ((Ssa.evM hd 3 rfl rfl).trans (K.v3 d3)) (Ssa.evs_cons ((Ssa.evM hd 4 rfl rfl).trans (K.v4 d4)) Ssa.evs_nil))) Tryz.func56 (by kernel_rfl) rfl) ((HH.out w K.bl).mono ?_)
      rintro r w' ⟨⟨h0, rfl⟩ | ⟨n, v, rfl, hv⟩, hb⟩
      · exact .inl ⟨_, rfl, { K with bl := K.bl.trans (hb.mono K.bl.size), v5 := fun _ => h0 }⟩
      · exact .inr ⟨_, rfl, ⟨n, v, rfl, hv⟩, K.bl.trans (hb.mono K.bl.size)⟩
    exact Ssa.OpsInv.nil
  · intro D V w5 hall K
    have e2 := K.v5 (hall 5 (by decide))
    have HK := Lib.hid (And.intro e2 K.bl)
    clear K e2 hall
    simp only [Ssa.mixV, Ssa.putV, List.setIfInBounds_toArray, List.set_cons_zero, List.set_cons_succ, Nat.zero_add, Nat.reduceAdd]
    go_wp2_with fail
    go_end0
    exact ⟨.inl ⟨HK.out.1, rfl⟩, HK.out.2⟩
  · rintro ch ac w5 hds ⟨⟨n, v, rfl, hv⟩, hb⟩
    exact ⟨hds, .inr ⟨n, v, rfl, hv⟩, hb⟩
set_option maxRecDepth 100000 in
set_option maxHeartbeats 4000000 in
/-- seg.Shut of anything. -/
theorem gsegShut_any (σ : Sen) (τ : SenU) (ρ : SenQ) (W : World) (hC : GlAt σ W) (hU : GlU τ W) (hQ : GlQ ρ W) (hM : GlM ρ W) (a b c g : Int) (B : Option Addr) (bs : List Int) (kb : Nat) (hbs : BytesAt W B bs) (hbc : bs.length ≤ kb) (hm : kb ≤ 9223372036854775807) (A : Option Addr) (ps : List Part) (k : Nat) (hps : PartsAt W A ps) :
    Calls Tryz.prog 17 #[.slice B bs.length kb, .agg #[.int .i64 a, .int .i64 b, .int .i64 c], .int .i64 g, .slice A ps.length k] W fun r w' => r = .returned (.int .i64 (shutR bs (firstI a b c g) g b.toNat (rowsP ps))) ∧ Below W.heap.size W w' := by
  have hmf : ∀ (fn : Fn) (first cap : Array Value) (w : World), (Instr.makeFunc fn first cap).run Tryz.prog w = .ok (.func fn first cap) w := fun _ _ _ _ => rfl
  obtain ⟨L, hL⟩ : ∃ L : List (TypeId × Array Value), L = [(27, #[.slice B bs.length kb]), (23, #[.int .i64 a, .int .i64 b, .int .i64 c]), (3, #[.int .i64 g]), (28, #[.slice A ps.length k])] := ⟨_, rfl⟩
  have hb := boxes_below L W
  have hs := boxes_size L W
  have h0 := boxes_at L W 0 27 #[.slice B bs.length kb] (by rw [hL]; rfl)
  have h1 := boxes_at L W 1 23 #[.int .i64 a, .int .i64 b, .int .i64 c] (by rw [hL]; rfl)
  have h2 := boxes_at L W 2 3 #[.int .i64 g] (by rw [hL]; rfl)
  have h3 := boxes_at L W 3 28 #[.slice A ps.length k] (by rw [hL]; rfl)
  obtain ⟨w4, hw4⟩ : ∃ w4, boxes W L = w4 := ⟨_, rfl⟩
  rw [hw4] at hb hs h0 h1 h2 h3
  subst hL
  simp only [boxes] at hw4
  simp only [List.length_cons, List.length_nil] at hs
  have HB := Lib.hid (And.intro hb hs)
  have Hw4 := Lib.hid hw4
  have HT := Lib.hid (tried_any ρ w4 55 #[.pointer (some ⟨W.heap.size + 1, 0, none⟩), .pointer (some ⟨W.heap.size + 1 + 1, 0, none⟩), .pointer (some ⟨W.heap.size, 0, none⟩), .pointer (some ⟨W.heap.size + 1 + 1 + 1, 0, none⟩)] (fun _ => by simp [go_sem]) none (fun b x => by cases x) (fun k' _ => k' = shutR bs (firstI a b c g) g b.toNat (rowsP ps)) (fun w1 b1 l1 => (gshut1_any σ τ ρ w1 (hC.below (hb.trans (b1.mono hb.size))) (hU.below (hb.trans (b1.mono hb.size))) (hQ.below (hb.trans (b1.mono hb.size))) (hM.below (hb.trans (b1.mono hb.size))) a b c g B bs kb (hbs.below (hb.trans (b1.mono hb.size))) hbc hm A ps k (hps.below (hb.trans (b1.mono hb.size))) (W.heap.size + 1) (W.heap.size + 1 + 1) W.heap.size (W.heap.size + 1 + 1 + 1) (h1.below b1 h1.lt) (h2.below b1 h2.lt) (h0.below b1 h0.lt) (h3.below b1 h3.lt)).mono (by
      rintro r w2 ⟨hr, hg⟩
      have bw := hb.trans (b1.mono hb.size)
      exact ⟨_, hr, grown_below hg _, hQ.below (bw.trans (hg.mono bw.size)), rfl⟩)))
  obtain ⟨z, hz⟩ : ∃ z, shutR bs (firstI a b c g) g b.toNat (rowsP ps) = z := ⟨_, rfl⟩
  rw [hz] at HT ⊢
  clear hb hs h0 h1 h2 h3 hw4 hC hU hQ hM hbs hbc hm hps hz
  go_enter Tryz.func17, Tryz.ntmps17
  go_wp2_with fail
  rw [Hw4.out]
  refine HT.out.mono ?_
  rintro r w6 ⟨k', w5, rfl, rfl, g5, g6, l5⟩
  have B6 := Lib.hid (show Below W.heap.size W w6 from by
    have h1 := HB.out.1
    have h2 := h1.grown g5 h1.size (fun k e => by cases e)
    exact below_grown h2 g6 h2.size (by have := HB.out.2; omega))
  clear g5 g6 l5 HT
  go_wp2_with fail
  go_ret
  exact ⟨rfl, B6.out⟩
end Go.Proofs.YtpdfmpegcejmkaaGreatDoor
