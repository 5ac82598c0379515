/- seg.Head, of anything. -/
import Derived.Test.YtpdfmpegcejmkaaGreatDoorSegHead
namespace Go.Proofs.YtpdfmpegcejmkaaGreatDoor
open Go.RowKit
theorem ghead_any (σ : SenQ) (W : World) (hG : GlQ σ W) (hM : GlM σ W) (a b c g f : Int) (i : IdentI) (hf : f ≤ 1099511627776 * 64) :
    Calls Tryz.prog 41 #[.agg (segC a b c g f), i.val] W fun r w' => (((headR f g i).2 = 0 ∧ ∃ v, r = .returned (.agg #[.int .i64 4, .int .i64 g, v]) ∧ w'.ownsRow W.heap.size 5 1 v 13 (u8s (headBody i))) ∨ Faults σ (headR f g i).2 r) ∧ Below W.heap.size W w' := by
  by_cases h0 : f < 0
  · refine (ghead_none σ W hG hM a b c g f i h0).mono ?_
    rintro r w' ⟨h, hb⟩
    refine ⟨.inr ?_, hb⟩
    rw [show (headR f g i).2 = 2 by unfold headR; rw [if_pos h0]]
    exact h
  · refine (ghead_some σ W hG hM a b c g f i (by omega) hf).mono ?_
    rintro r w' ⟨⟨ha, h⟩ | ⟨ha, v, rfl, ho⟩, hb⟩
    · refine ⟨.inr ?_, hb⟩
      rw [show (headR f g i).2 = 12 by unfold headR; rw [if_neg h0, if_pos ha]]
      exact h
    · refine ⟨.inl ⟨by unfold headR; rw [if_neg h0, if_neg (fun x => x ha)], v, rfl, own_lift ho (fun b x => by have := (ho.lt b x).1; omega)⟩, hb⟩
theorem headR_none {f g : Int} {i : IdentI} (h : (headR f g i).2 ≠ 0) : (headR f g i).1 = noUnit := by
  unfold headR at *
  split
  · rfl
  · next h1 =>
    rw [if_neg h1] at h
    split
    · rfl
    · next h2 => rw [if_neg h2] at h; exact absurd rfl h
theorem headR_some {f g : Int} {i : IdentI} (h : (headR f g i).2 = 0) : (headR f g i).1 = headU g i := by
  unfold headR at *
  split at h
  · cases h
  · next h1 =>
    rw [if_neg h1]
    split at h
    · cases h
    · next h2 => rw [if_neg h2]
/-- Amid the closure of Head. -/
structure HcI (W : World) (σ : SenQ) (a b c g f : Int) (i : IdentI) (z : Nat) (D : Nat → Bool) (V : Nat → Value) (w : World) : Prop where
  gr : W.grownBy w (some z)
  bl : D 5 = false → Below W.heap.size W w
  s54 : D 5 = true → D 4 = true
  z0 : D 5 = false → BlockIs w z 34 #[.int .i64 0, .int .i64 0, .slice none 0 0]
  z1 : D 5 = true → UnBox W.heap.size w z (headU g i)
  nz : D 5 = true → (headR f g i).2 = 0
  v0 : D 0 = true → V 0 = .agg #[.int .i64 a, .int .i64 b, .int .i64 c]
  v1 : D 1 = true → V 1 = .int .i64 g
  v2 : D 2 = true → V 2 = .agg (segC a b c g f)
  v3 : D 3 = true → V 3 = i.val
  v4 : D 4 = true → D 5 = false → (headR f g i).2 = 0 ∧ ∃ v, V 4 = .agg #[.int .i64 4, .int .i64 g, v] ∧ w.ownsRow W.heap.size 5 1 v 13 (u8s (headBody i))
theorem HcI.world {W w w' : World} {σ : SenQ} {a b c g f : Int} {i : IdentI} {z : Nat} {D : Nat → Bool} {V : Nat → Value} (k : HcI W σ a b c g f i z D V w) (hb : Below w.heap.size w w') : HcI W σ a b c g f i z D V w' :=
  { k with gr := k.gr.trans (grown_below hb _), bl := fun h => (k.bl h).trans (hb.mono (k.bl h).size), z0 := fun h => (k.z0 h).below hb (k.z0 h).lt, z1 := fun h => (by
      obtain ⟨v, h1, h2⟩ := (k.z1 h).ex
      exact ⟨v, h1.below hb h1.lt, ownsRow_below h2 hb⟩), v4 := fun h h' => (by
      obtain ⟨h0, v, h1, h2⟩ := k.v4 h h'
      exact ⟨h0, v, h1, ownsRow_below h2 hb⟩) }
theorem ident_load {w : World} {p : Nat} {i : IdentI} (h : BlockIs w p 26 #[.int .i64 i.idx, .int .i64 i.term, .int .i64 i.kind]) : (Instr.loadAt 26 (.pointer (some ⟨p, 0, none⟩))).run Tryz.prog w = .ok i.val w := by
  have d0 := h.cell 0
  have d1 := h.cell 1
  have d2 := h.cell 2
  unfold IdentI.val
  go_simp
theorem num_load {w : World} {p : Nat} {n : Int} (h : BlockIs w p 3 #[.int .i64 n]) : (Instr.loadAt 3 (.pointer (some ⟨p, 0, none⟩))).run Tryz.prog w = .ok (.int .i64 n) w := by
  have d0 := h.cell 0
  go_simp
theorem unit_store {w : World} {p : Nat} {x y : Int} {A : Option Addr} {n c : Nat} (h : BlockIs w p 34 #[.int .i64 0, .int .i64 0, .slice none 0 0]) : (Instr.storeAt 34 (.pointer (some ⟨p, 0, none⟩)) (.agg #[.int .i64 x, .int .i64 y, .slice A n c])).run Tryz.prog w = .ok () (((w.setCell ⟨p, 0, none⟩ (.int .i64 x)).setCell ⟨p, 1, none⟩ (.int .i64 y)).setCell ⟨p, 2, none⟩ (.slice A n c)) := by
  obtain ⟨h0, h1, h2, f0, f1, f2⟩ := h.three
  go_simp
set_option maxRecDepth 100000 in
set_option maxHeartbeats 4000000 in
theorem ghead1_any (σ : SenQ) (W : World) (hG : GlQ σ W) (hM : GlM σ W) (a b c g : Int) (i : IdentI) (hf : firstI a b c g ≤ 1099511627776 * 64) (p q x z : Nat)
    (hp : BlockIs W p 23 #[.int .i64 a, .int .i64 b, .int .i64 c]) (hq : BlockIs W q 3 #[.int .i64 g]) (hx : BlockIs W x 26 #[.int .i64 i.idx, .int .i64 i.term, .int .i64 i.kind]) (hz : BlockIs W z 34 #[.int .i64 0, .int .i64 0, .slice none 0 0]) (hpz : p ≠ z) (hqz : q ≠ z) (hxz : x ≠ z) :
    Calls Tryz.prog 39 #[.pointer (some ⟨p, 0, none⟩), .pointer (some ⟨q, 0, none⟩), .pointer (some ⟨x, 0, none⟩), .pointer (some ⟨z, 0, none⟩)] W fun r w' => (((headR (firstI a b c g) g i).2 = 0 ∧ r = .returned (.tuple #[])) ∨ Faults σ (headR (firstI a b c g) g i).2 r) ∧ UnBox W.heap.size w' z (headR (firstI a b c g) g i).1 ∧ W.grownBy w' (some z) := by
  have HF := Lib.hid (fun w => segmentOf_any w a b c g)
  obtain ⟨f, hff⟩ : ∃ f, firstI a b c g = f := ⟨_, rfl⟩
  rw [hff] at HF hf ⊢
  have HH := Lib.hid (fun w (h : Below W.heap.size W w) => ghead_any σ w (hG.below h) (hM.below h) a b c g f i hf)
  have HP := Lib.hid (And.intro hp (And.intro hq (And.intro hx hz)))
  have HN := Lib.hid (And.intro hpz (And.intro hqz hxz))
  clear hG hM hff hf hp hq hx hz hpz hqz hxz
  go_enter Tryz.func39, Tryz.ntmps39
  go_wp2_with fail
  refine Ssa.wp_region_opsP (HcI W σ a b c g f i z) (fun ch w => (∃ n v, ch = [{ v := gfaultV n v, recovered := false }] ∧ GErr σ (headR f g i).2 v) ∧ UnBox W.heap.size w z (headR f g i).1 ∧ W.grownBy w (some z)) (by kernel_rfl) (by kernel_rfl) (by kernel_rfl) (by kernel_rfl) (fun V => ⟨grown_below (Below.refl _ _).drew _, fun _ => (Below.refl _ _).drew, fun h => (by cases h), fun _ => HP.out.2.2.2, fun h => (by cases h), fun h => (by cases h), fun h => (by cases h), fun h => (by cases h), fun h => (by cases h), fun h => (by cases h), fun h => (by cases h)⟩) ?_ ?_ ?_
  · intro hd
    refine Ssa.OpsInv.cons (Ssa.opInv rfl fun D V w hi hall K => ?_) ?_
    · exact Ssa.ov_val (Ssa.exec_load rfl (Ssa.evT rfl rfl) (shape_load (HP.out.1.kept K.gr (fun e => HN.out.1 (Option.some.inj e))))) { K with v0 := fun _ => rfl }
    refine Ssa.OpsInv.cons (Ssa.opInv rfl fun D V w hi hall K => ?_) ?_
    · exact Ssa.ov_val (Ssa.exec_load rfl (Ssa.evT rfl rfl) (num_load (HP.out.2.1.kept K.gr (fun e => HN.out.2.1 (Option.some.inj e))))) { K with v1 := fun _ => rfl }
    refine Ssa.OpsInv.cons (Ssa.opInv rfl fun D V w hi hall K => ?_) ?_
    · have d0 : D 0 = true := Ssa.dep hall 0 rfl rfl
      have d1 : D 1 = true := Ssa.dep hall 1 rfl rfl
      refine Ssa.ov_call (Ssa.exec_call rfl rfl (Ssa.evs_cons ((Ssa.evM hd 0 rfl rfl).trans (K.v0 d0)) (Ssa.evs_cons ((Ssa.evM hd 1 rfl rfl).trans (K.v1 d1)) Ssa.evs_nil)) Tryz.func40 (by kernel_rfl) rfl) ((HF.out w).mono ?_)
      rintro r w' ⟨rfl, hb⟩
      exact ⟨_, rfl, { K.world hb with v2 := fun _ => rfl }⟩
    refine Ssa.OpsInv.cons (Ssa.opInv rfl fun D V w hi hall K => ?_) ?_
    · exact Ssa.ov_val (Ssa.exec_load rfl (Ssa.evT rfl rfl) (ident_load (HP.out.2.2.1.kept K.gr (fun e => HN.out.2.2 (Option.some.inj e))))) { K with v3 := fun _ => rfl }
    refine Ssa.OpsInv.cons (Ssa.opInv rfl fun D V w hi hall K => ?_) ?_
    · have d2 : D 2 = true := Ssa.dep hall 0 rfl rfl
      have d3 : D 3 = true := Ssa.dep hall 1 rfl rfl
      have d5 : D 5 = false := by
        cases h : D 5 with
        | false => rfl
        | true => rw [K.s54 h] at hi; cases hi
      refine Ssa.ov_callP (Ssa.exec_call rfl rfl (Ssa.evs_cons ((Ssa.evM hd 2 rfl rfl).trans (K.v2 d2)) (Ssa.evs_cons ((Ssa.evM hd 3 rfl rfl).trans (K.v3 d3)) Ssa.evs_nil)) Tryz.func41 (by kernel_rfl) rfl) ((HH.out w (K.bl d5)).mono ?_)
      rintro r w' ⟨⟨h0, v, rfl, ho⟩ | ⟨n, v, rfl, hv⟩, hb⟩
      · exact .inl ⟨_, rfl, { K.world hb with s54 := fun _ => rfl, v4 := fun _ _ => ⟨h0, v, rfl, own_lift ho (fun b x => by have := (ho.lt b x).1; have := (K.bl d5).size; omega)⟩ }⟩
      · have hne : (headR f g i).2 ≠ 0 := hv.ne
        refine .inr ⟨_, rfl, ⟨n, v, rfl, hv⟩, ⟨.slice none 0 0, ?_⟩, K.gr.trans (grown_below hb _)⟩
        rw [headR_none hne]
        exact ⟨(K.z0 d5).below hb (K.z0 d5).lt, World.ownsRow_nil _ _ _ _⟩
    refine Ssa.OpsInv.cons (Ssa.opInv rfl fun D V w hi hall K => ?_) ?_
    · have d4 : D 4 = true := Ssa.dep hall 0 rfl rfl
      obtain ⟨h0, v, e1, ho⟩ := K.v4 d4 hi
      obtain ⟨X, cx, rfl, _, _⟩ := own_slice ho
      have hB := K.z0 hi
      have hzl : z < W.heap.size := HP.out.2.2.2.lt
      obtain ⟨hZ, hg⟩ := BlockIs.put3 hB (.int .i64 4) (.int .i64 g) (.slice X 13 cx)
      refine Ssa.ov_skip (Ssa.exec_store rfl (Ssa.evT rfl rfl) ((Ssa.evM hd 4 rfl rfl).trans e1) (unit_store hB)) { K with gr := K.gr.trans hg, bl := fun h => (by cases h), s54 := fun _ => d4, z0 := fun h => (by cases h), z1 := fun _ => ⟨.slice X 13 cx, hZ, ?_⟩, nz := fun _ => h0, v4 := fun _ h => (by cases h) }
      rw [show (headU g i).body = headBody i from rfl, headBody_len]
      exact ho.kept hg (.inr (fun x => by have := (ho.lt _ x).1; omega))
    exact Ssa.OpsInv.nil
  · intro D V w5 hall K
    have e2 := K.z1 (hall 5 (by decide))
    have e3 := K.nz (hall 5 (by decide))
    have HK := Lib.hid (And.intro e3 (And.intro e2 K.gr))
    clear K e2 e3 hall
    simp only [Ssa.mixV, Ssa.putV, List.setIfInBounds_toArray, List.set_cons_zero, List.set_cons_succ, Nat.zero_add, Nat.reduceAdd]
    go_wp2_with fail
    go_end0
    exact ⟨.inl ⟨HK.out.1, rfl⟩, by rw [headR_some HK.out.1]; exact HK.out.2.1, HK.out.2.2⟩
  · rintro ch ac w5 hds ⟨⟨n, v, rfl, hv⟩, hu, hg⟩
    exact ⟨hds, .inr ⟨n, v, rfl, hv⟩, hu, hg⟩
theorem firstI_le (a b c g : Int) : firstI a b c g ≤ 1099511627776 * 64 := by
  unfold firstI
  by_cases h : shapeB a b c = true ∧ 0 ≤ g ∧ g ≤ 1099511627776
  · rw [if_pos h]
    obtain ⟨S, R, P, rfl, rfl, rfl, hr⟩ := right_shape h.1
    have h1 := hr.r1
    have h2 : g * (R : Int) ≤ 1099511627776 * 32 := Int.mul_le_mul h.2.2 (by omega) (by omega) (by omega)
    omega
  · rw [if_neg h]
    decide
set_option maxRecDepth 100000 in
set_option maxHeartbeats 4000000 in
/-- seg.Head of anything. -/
theorem gsegHead_any (σ : SenQ) (W : World) (hG : GlQ σ W) (hM : GlM σ W) (a b c g : Int) (i : IdentI) :
    Calls Tryz.prog 10 #[.agg #[.int .i64 a, .int .i64 b, .int .i64 c], .int .i64 g, i.val] W fun r w' => ∃ v, r = .returned (.tuple #[.agg #[.int .i64 (headR (firstI a b c g) g i).1.kind, .int .i64 (headR (firstI a b c g) g i).1.num, v], .int .i64 (headR (firstI a b c g) g i).2]) ∧ w'.ownsRow W.heap.size 5 1 v (headR (firstI a b c g) g i).1.body.length (u8s (headR (firstI a b c g) g i).1.body) ∧ Below W.heap.size W w' := by
  have hmf : ∀ (fn : Fn) (first cap : Array Value) (w : World), (Instr.makeFunc fn first cap).run Tryz.prog w = .ok (.func fn first cap) w := fun _ _ _ _ => rfl
  have hb := boxes_below [(23, #[.int .i64 a, .int .i64 b, .int .i64 c]), (3, #[.int .i64 g]), (26, #[.int .i64 i.idx, .int .i64 i.term, .int .i64 i.kind]), (34, #[.int .i64 0, .int .i64 0, .slice none 0 0]), (34, #[.int .i64 0, .int .i64 0, .slice none 0 0])] W
  have hs := boxes_size [(23, #[.int .i64 a, .int .i64 b, .int .i64 c]), (3, #[.int .i64 g]), (26, #[.int .i64 i.idx, .int .i64 i.term, .int .i64 i.kind]), (34, #[.int .i64 0, .int .i64 0, .slice none 0 0]), (34, #[.int .i64 0, .int .i64 0, .slice none 0 0])] W
  have h0 := boxes_at [(23, #[.int .i64 a, .int .i64 b, .int .i64 c]), (3, #[.int .i64 g]), (26, #[.int .i64 i.idx, .int .i64 i.term, .int .i64 i.kind]), (34, #[.int .i64 0, .int .i64 0, .slice none 0 0]), (34, #[.int .i64 0, .int .i64 0, .slice none 0 0])] W 0 _ _ rfl
  have h1 := boxes_at [(23, #[.int .i64 a, .int .i64 b, .int .i64 c]), (3, #[.int .i64 g]), (26, #[.int .i64 i.idx, .int .i64 i.term, .int .i64 i.kind]), (34, #[.int .i64 0, .int .i64 0, .slice none 0 0]), (34, #[.int .i64 0, .int .i64 0, .slice none 0 0])] W 1 _ _ rfl
  have h2 := boxes_at [(23, #[.int .i64 a, .int .i64 b, .int .i64 c]), (3, #[.int .i64 g]), (26, #[.int .i64 i.idx, .int .i64 i.term, .int .i64 i.kind]), (34, #[.int .i64 0, .int .i64 0, .slice none 0 0]), (34, #[.int .i64 0, .int .i64 0, .slice none 0 0])] W 2 _ _ rfl
  have h3 := boxes_at [(23, #[.int .i64 a, .int .i64 b, .int .i64 c]), (3, #[.int .i64 g]), (26, #[.int .i64 i.idx, .int .i64 i.term, .int .i64 i.kind]), (34, #[.int .i64 0, .int .i64 0, .slice none 0 0]), (34, #[.int .i64 0, .int .i64 0, .slice none 0 0])] W 3 _ _ rfl
  have h4 := boxes_at [(23, #[.int .i64 a, .int .i64 b, .int .i64 c]), (3, #[.int .i64 g]), (26, #[.int .i64 i.idx, .int .i64 i.term, .int .i64 i.kind]), (34, #[.int .i64 0, .int .i64 0, .slice none 0 0]), (34, #[.int .i64 0, .int .i64 0, .slice none 0 0])] W 4 _ _ rfl
  obtain ⟨w4, hw4⟩ : ∃ w4, boxes W [(23, #[.int .i64 a, .int .i64 b, .int .i64 c]), (3, #[.int .i64 g]), (26, #[.int .i64 i.idx, .int .i64 i.term, .int .i64 i.kind]), (34, #[.int .i64 0, .int .i64 0, .slice none 0 0]), (34, #[.int .i64 0, .int .i64 0, .slice none 0 0])] = w4 := ⟨_, rfl⟩
  rw [hw4] at hb hs h0 h1 h2 h3 h4
  simp only [boxes] at hw4
  simp only [List.length_cons, List.length_nil] at hs
  have HB := Lib.hid (And.intro hb (And.intro hs (And.intro h3 h4)))
  have Hw4 := Lib.hid hw4
  have HT := Lib.hid (tried_any σ w4 39 #[.pointer (some ⟨W.heap.size, 0, none⟩), .pointer (some ⟨W.heap.size + 1, 0, none⟩), .pointer (some ⟨W.heap.size + 1 + 1, 0, none⟩), .pointer (some ⟨W.heap.size + 1 + 1 + 1 + 1, 0, none⟩)] (fun _ => by simp [go_sem]) (some (W.heap.size + 4)) (fun b x => by have := Option.some.inj x; omega) (fun k w2 => k = (headR (firstI a b c g) g i).2 ∧ UnBox (w4.heap.size + 1) w2 (W.heap.size + 4) (headR (firstI a b c g) g i).1) (fun w1 b1 l1 => (ghead1_any σ w1 (hG.below (hb.trans (b1.mono hb.size))) (hM.below (hb.trans (b1.mono hb.size))) a b c g i (firstI_le a b c g) W.heap.size (W.heap.size + 1) (W.heap.size + 1 + 1) (W.heap.size + 4) (h0.below b1 h0.lt) (h1.below b1 h1.lt) (h2.below b1 h2.lt) (h4.below b1 h4.lt) (by omega) (by omega) (by omega)).mono (by
      rintro r w2 ⟨hr, hu, hg⟩
      have bw := hb.trans (b1.mono hb.size)
      exact ⟨_, hr, hg, hG.below (below_grown bw hg bw.size (by omega)), rfl, hu.mono (by omega)⟩)))
  obtain ⟨rr, hrr⟩ : ∃ rr, headR (firstI a b c g) g i = rr := ⟨_, rfl⟩
  rw [hrr] at HT ⊢
  obtain ⟨⟨uk, un, ub⟩, rc⟩ := rr
  simp only at HT ⊢
  clear hb hs h0 h1 h2 h3 h4 hw4 hG hM hrr
  unfold IdentI.val
  go_enter Tryz.func10, Tryz.ntmps10
  go_wp2_with fail
  rw [Hw4.out]
  refine HT.out.mono ?_
  rintro r w6 ⟨k, w5, rfl, ⟨rfl, hu⟩, g5, g6, l5⟩
  have HS := Lib.hid HB.out.2.1
  have ha4 : Hid (Below W.heap.size W w5) := Lib.hid (HB.out.1.trans ⟨g5.os, g5.tape, g5.output, by have := g5.size; have := HS.out; omega, fun k hk => g5.block k (by have := HS.out; omega) (fun x => by have := Option.some.inj x; omega)⟩)
  have hb6 := Lib.hid (below_grown ha4.out g6 ha4.out.size (by have := HS.out; omega))
  have hu6 := (show UnBox (w4.heap.size + 1) w5 (W.heap.size + 1 + 1 + 1 + 1) ⟨uk, un, ub⟩ from hu).kept g6 (by have := HS.out; omega) (by omega)
  have r5 := (show BlockIs w4 (W.heap.size + 1 + 1 + 1) 34 #[.int .i64 0, .int .i64 0, .slice none 0 0] from HB.out.2.2.1).kept g5 (fun x => by have := Option.some.inj x; omega)
  have r6 := r5.kept g6 (fun x => by have := Option.some.inj x; have := HS.out; omega)
  obtain ⟨v, k1, k2⟩ := hu6.ex
  obtain ⟨X, cap, rfl, _, _⟩ := own_slice k2
  simp only at k1 k2 ⊢
  have HK := Lib.hid (And.intro k1 k2)
  have HR6 := Lib.hid r6
  have u0 := k1.cell 0
  have u1 := k1.cell 1
  have u2 := k1.cell 2
  obtain ⟨c0, c1, c2, f0, f1, f2⟩ := r6.three
  have Z := Lib.hid (r6.put3 (.int .i64 uk) (.int .i64 un) (.slice X ub.length cap))
  clear k1 k2 r5 r6 hu hu6 g5 g6 l5 ha4
  go_wp2_with fail
  clear u0 u1 u2 c0 c1 c2 f0 f1 f2
  obtain ⟨z0, z1, z2, _⟩ := Z.out.1.three
  refine bodyPost_ret (v := .tuple #[.agg #[.int .i64 uk, .int .i64 un, .slice X ub.length cap], .int .i64 k]) (by simp [results, Tryz.results10, go_sem, z0, z1, z2]) rfl ⟨_, rfl, ?_, below_grown hb6.out Z.out.2 hb6.out.size (by omega)⟩
  have h := HK.out.2.kept Z.out.2 (.inr (fun x => by have := (HK.out.2.lt _ x).1; have := HS.out; omega))
  exact own_lift h (fun b x => by have := (HK.out.2.lt _ x).1; have := HS.out; omega)
end Go.Proofs.YtpdfmpegcejmkaaGreatDoor
