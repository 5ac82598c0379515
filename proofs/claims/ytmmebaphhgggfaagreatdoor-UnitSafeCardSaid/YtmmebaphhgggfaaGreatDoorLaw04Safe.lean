/- UnitSafe: the law's walk. -/
import Derived.Test.YtmmebaphhgggfaaGreatDoorLaw04Tear
import Derived.Test.YtmmebaphhgggfaaGreatDoorKitPick
namespace Go.Proofs.YtmmebaphhgggfaaGreatDoor
open Go.RowKit
theorem box_cells {w w' : World} {u : UnitV} {A : Option Addr} {c : Nat} (hb : Below (w.alloc (.cells #[.int .i64 u.kind, .int .i64 u.num, .slice A u.body.length c] 25)).heap.size (w.alloc (.cells #[.int .i64 u.kind, .int .i64 u.num, .slice A u.body.length c] 25)) w') :
    w'.cell? ⟨w.heap.size, 0, none⟩ = some (.int .i64 u.kind) ∧ w'.cell? ⟨w.heap.size, 1, none⟩ = some (.int .i64 u.num) ∧ w'.cell? ⟨w.heap.size, 2, none⟩ = some (.slice A u.body.length c) := by
  obtain ⟨c0, c1, c2⟩ := row3_cells w (.int .i64 u.kind) (.int .i64 u.num) (.slice A u.body.length c) 25
  exact ⟨cell_below c0 hb, cell_below c1 hb, cell_below c2 hb⟩
set_option maxRecDepth 100000 in
set_option maxHeartbeats 16000000 in
theorem unitSafe_any (σ : Sen) (τ : SenU) (δ : SenD) (w : World) (hC : GlAt σ w) (hU : GlU τ w) (hD : GlD δ w) (hS : GlS δ w) (u : UnitV) (A : Option Addr) (c : Nat) (hb : BytesAt w A u.body) (hc : u.body.length ≤ c) (hm : c ≤ 140737488351232) (bit : Int) (mask : Nat) (hmask : mask < 4294967296) :
    Calls Tryz.prog 6 #[u.val A c, .int .i64 bit, .int .u32 (mask : Int)] w fun e w' => e = .returned (.bool true) ∧ Below w.heap.size w w' := by
  have hbn := below_new w (.cells #[.int .i64 u.kind, .int .i64 u.num, .slice A u.body.length c] 25)
  have HA := Lib.hid (awake_any σ τ _ (hC.below hbn) (hU.below hbn))
  have HG := Lib.hid (show GlAt σ w ∧ GlU τ w ∧ GlD δ w ∧ GlS δ w ∧ BytesAt w A u.body from ⟨hC, hU, hD, hS, hb⟩)
  have Hbn := Lib.hid hbn
  have Hc := Lib.hid (And.intro hc hm)
  have HBx := Lib.hid (fun (w' : World) hb' => box_cells (w := w) (w' := w') (u := u) (A := A) (c := c) hb')
  obtain ⟨w1, hw1⟩ : ∃ w1, w.alloc (.cells #[.int .i64 u.kind, .int .i64 u.num, .slice A u.body.length c] 25) = w1 := ⟨_, rfl⟩
  rw [hw1] at HA Hbn HBx
  have Hw1 := Lib.hid hw1
  unfold UnitV.val
  clear hC hU hD hS hb hbn hc hm hw1
  go_enter Tryz.func6, Tryz.ntmps6
  go_wp2_with fail
  rw [Hw1.out]
  refine HA.out.mono ?_
  rintro e w2 ⟨rfl, hb2⟩
  have B2 := Lib.hid hb2
  obtain ⟨c0, c1, c2⟩ := HBx.out w2 hb2
  have HR := Lib.hid (uright_any w2 u A c)
  unfold UnitV.val at HR
  clear hb2 HA
  by_cases hu : u.right
  · rw [decide_eq_true hu] at HR
    have Hu := Lib.hid hu
    clear hu
    go_wp2_with fail
    refine HR.out.mono ?_
    rintro e w3 ⟨rfl, hb3⟩
    have B3 := Lib.hid (B2.out.trans (hb3.mono B2.out.size))
    have W3 := Lib.hid (Hbn.out.trans (B3.out.mono Hbn.out.size))
    have HW := Lib.hid (written_any δ w3 (HG.out.2.2.1.below W3.out) u A c Hu.out (HG.out.2.2.2.2.below W3.out) Hc.out.1 (by have := Hc.out.2; omega))
    unfold UnitV.val at HW
    clear c0 c1 c2 hb3 HR
    obtain ⟨c0, c1, c2⟩ := HBx.out w3 B3.out
    go_wp2_with fail
    refine HW.out.mono ?_
    rintro e w4 ⟨h, g, cap, T, D, rfl, hK, hcap, hcm⟩
    have K4 := Lib.hid hK
    have W4 := Lib.hid (W3.out.trans (hK.own.below.mono W3.out.size))
    have HO := uopen_any σ τ w4 (HG.out.1.below W4.out) (HG.out.2.1.below W4.out) (some ⟨g, 0, none⟩) (sealB u) cap hK.bytes (by rw [seal_len Hu.out.2.2]; exact hcap) hcm
    rw [open_seal Hu.out, seal_len Hu.out.2.2] at HO
    have HOp := Lib.hid HO
    unfold UnitV.val at HOp
    clear c0 c1 c2 hK HO HW
    go_wp2_with fail
    refine HOp.out.mono ?_
    rintro e w5 ⟨X, k, rfl, ho5, hb5⟩
    have hb6 := below_new w5 (.cells #[.int .i64 u.kind, .int .i64 u.num, .slice X u.body.length k] 25)
    have P6 := Lib.hid (BlockIs.made w5 25 #[.int .i64 u.kind, .int .i64 u.num, .slice X u.body.length k])
    have X6 := Lib.hid ((own_reads ho5 HG.out.2.2.2.2.1).below hb6)
    obtain ⟨w6, hw6⟩ : ∃ w6, w5.alloc (.cells #[.int .i64 u.kind, .int .i64 u.num, .slice X u.body.length k] 25) = w6 := ⟨_, rfl⟩
    rw [hw6] at hb6 P6 X6
    have b46 := hb5.trans (hb6.mono hb5.size)
    have K6 := Lib.hid (K4.out.on b46)
    have B4 := Lib.hid (B3.out.trans (K4.out.own.below.mono B3.out.size))
    have B6 := Lib.hid (B4.out.trans (b46.mono B4.out.size))
    have W6 := Lib.hid (W4.out.trans (b46.mono W4.out.size))
    have HSa := Lib.hid (sameUnit_any w6 u u A X c k (HG.out.2.2.2.2.below W6.out) X6.out (by have := Hu.out.2.2; omega))
    rw [sameU_self] at HSa
    unfold UnitV.val at HSa
    have Hw6 := Lib.hid hw6
    obtain ⟨c0, c1, c2⟩ := HBx.out w6 B6.out
    obtain ⟨q0, q1, q2, _, _, _⟩ := unit_cells P6.out
    clear hb5 ho5 hb6 hw6 b46 HOp
    rw [← Hw6.out] at c0 c1 c2 q0 q1 q2
    go_wp2_with fail
    rw [Hw6.out]
    refine HSa.out.mono ?_
    rintro e w7 ⟨rfl, hb7⟩
    have K7 := Lib.hid (K6.out.on hb7)
    have B7 := Lib.hid (B6.out.trans (hb7.mono B6.out.size))
    have W7 := Lib.hid (W6.out.trans (hb7.mono W6.out.size))
    have hmod : 0 ≤ bit % 2048 ∧ bit % 2048 < 2048 := ⟨Int.emod_nonneg _ (by decide), Int.emod_lt_of_pos _ (by decide)⟩
    have HRt := Lib.hid (rot_disk (HG.out.2.2.1.below W3.out) (HG.out.2.2.2.1.below W3.out) K7.out (bit % 2048) hmod mask hmask)
    have Hmod := Lib.hid hmod
    clear c0 c1 c2 q0 q1 q2 hb7 HSa hmod
    go_wp2_with fail
    refine (pick_any bit 2048 w7 (by decide) (by decide)).mono ?_
    rintro e w' ⟨rfl, rfl⟩
    go_wp2_with fail
    refine HRt.out.mono ?_
    rintro e w8 ⟨rc, rfl, hrc, k8⟩
    obtain ⟨fb, hfb⟩ : ∃ fb, flipK (sealB u) (bit % 2048).toNat mask (min 32 (2048 - (bit % 2048).toNat)) = fb := ⟨_, rfl⟩
    rw [hfb] at k8 hrc
    have HR2 := Lib.hid hrc
    have K8 := Lib.hid k8
    have W8 := Lib.hid (W3.out.trans (k8.below.mono W3.out.size))
    have B8 := Lib.hid (B3.out.trans (k8.below.mono B3.out.size))
    have Hfb := Lib.hid (show fb.length = 256 by rw [← hfb, flipK_len, seal_len Hu.out.2.2])
    have Hbu : Hid ((openB fb).2 = 0 → fb = sealB u) := Lib.hid (fun h0 => by
      rw [← hfb] at h0 ⊢
      exact open_burst Hu.out HG.out.2.2.2.2.1 _ _ _ (by omega) (by have := Hmod.out; omega) h0)
    have HSt := Lib.hid (k8.stored Hfb.out)
    clear k8 hrc hfb HRt
    go_wp2_with fail
    refine HSt.out.mono ?_
    rintro e w9 ⟨A9, rfl, hz9, hb9, k9⟩
    have W9 := Lib.hid (W8.out.trans (hb9.mono W8.out.size))
    have B9 := Lib.hid (B8.out.trans (hb9.mono B8.out.size))
    have HO := uopen_any σ τ w9 (HG.out.1.below W9.out) (HG.out.2.1.below W9.out) A9 fb 256 hz9 (by rw [Hfb.out]; decide) (by decide)
    rw [Hfb.out] at HO
    obtain ⟨r, hop⟩ : ∃ r, openB fb = r := ⟨_, rfl⟩
    rw [hop] at HO Hbu
    obtain ⟨u9, code⟩ := r
    have HOp := Lib.hid HO
    unfold UnitV.val at HOp
    have Hop := Lib.hid hop
    clear HO hop hz9 hb9 k9 HSt
    go_wp2_with fail
    refine HOp.out.mono ?_
    rintro e w10 ⟨X10, k10, rfl, _, hb10⟩
    have hb11 := below_new w10 (.cells #[.int .i64 u9.kind, .int .i64 u9.num, .slice X10 u9.body.length k10] 25)
    have b911 := hb10.trans (hb11.mono hb10.size)
    obtain ⟨w11, hw11⟩ : ∃ w11, w10.alloc (.cells #[.int .i64 u9.kind, .int .i64 u9.num, .slice X10 u9.body.length k10] 25) = w11 := ⟨_, rfl⟩
    rw [hw11] at b911
    have W11 := Lib.hid (W9.out.trans (b911.mono W9.out.size))
    have B11 := Lib.hid (B9.out.trans (b911.mono B9.out.size))
    have Hw11 := Lib.hid hw11
    have HW := Lib.hid (written_any δ w11 (HG.out.2.2.1.below W11.out) u A c Hu.out (HG.out.2.2.2.2.below W11.out) Hc.out.1 (by have := Hc.out.2; omega))
    unfold UnitV.val at HW
    obtain ⟨c0, c1, c2⟩ := HBx.out w11 B11.out
    have hcase : (rc == 0) = !(code == 0) := by
      by_cases h0 : rc = 0
      · have hne := HR2.out.1 h0
        have hcd : code ≠ 0 := fun e => hne (Hbu.out e)
        rw [h0, beq_eq_false_iff_ne.2 hcd]; rfl
      · have heq : fb = sealB u := Decidable.byContradiction fun hne => h0 (HR2.out.2 hne)
        have hcd : code = 0 := by
          have h2 := Hop.out
          rw [heq, open_seal Hu.out] at h2
          exact (congrArg Prod.snd h2).symm
        rw [hcd, beq_eq_false_iff_ne.2 h0]; rfl
    have HCs := Lib.hid hcase
    have HNe := Lib.hid (seal_some Hu.out)
    clear hcase hb10 hb11 b911 hw11 HOp
    obtain ⟨x, hx⟩ : ∃ x, (code == 0) = x := ⟨_, rfl⟩
    have hcs := HCs.out
    rw [hx] at hcs
    clear HCs
    cases x with
    | true =>
      have hcs : (rc == 0) = false := hcs
      rw [← Hw11.out] at c0 c1 c2
      go_wp2_with fail
      rw [Hw11.out]
      refine HW.out.mono ?_
      rintro e w12 ⟨h12, g12, cap12, T12, D12, rfl, hK12, _, _⟩
      have K12 := Lib.hid hK12
      have W12 := Lib.hid (W11.out.trans (hK12.own.below.mono W11.out.size))
      have HWi := Lib.hid (wipe_disk (HG.out.2.2.1.below W11.out) (HG.out.2.2.2.1.below W11.out) hK12 HNe.out)
      clear hK12 HW c0 c1 c2
      go_wp2_with fail
      refine HWi.out.mono ?_
      rintro e w13 ⟨rfl, k13⟩
      have W13 := Lib.hid (W11.out.trans (k13.below.mono W11.out.size))
      have HSt2 := Lib.hid (k13.stored List.length_replicate)
      clear k13 HWi
      go_wp2_with fail
      refine HSt2.out.mono ?_
      rintro e w14 ⟨A14, rfl, hz14, hb14, _⟩
      have W14 := Lib.hid (W13.out.trans (hb14.mono W13.out.size))
      have HO := uopen_any σ τ w14 (HG.out.1.below W14.out) (HG.out.2.1.below W14.out) A14 (List.replicate 256 0) 256 hz14 (by rw [List.length_replicate]; decide) (by decide)
      rw [open_noughts, List.length_replicate] at HO
      have HOp := Lib.hid HO
      unfold UnitV.val at HOp
      clear HO hz14 hb14 HSt2
      go_wp2_with fail
      refine HOp.out.mono ?_
      rintro e w15 ⟨X15, k15, rfl, _, hb15⟩
      have W15 := Lib.hid (W14.out.trans (hb15.mono W14.out.size))
      have hb16 := below_new w15 (.cells #[.int .i64 noUnit.kind, .int .i64 noUnit.num, .slice X15 noUnit.body.length k15] 25)
      have W16 := Lib.hid (W15.out.trans (hb16.mono W15.out.size))
      clear hb15 hb16 HOp
      go_wp2_with fail
      go_ret
      exact ⟨rfl, W16.out⟩
    | false =>
      have hcs : (rc == 0) = true := hcs
      rw [← Hw11.out] at c0 c1 c2
      go_wp2_with fail
      rw [Hw11.out]
      refine HW.out.mono ?_
      rintro e w12 ⟨h12, g12, cap12, T12, D12, rfl, hK12, _, _⟩
      have K12 := Lib.hid hK12
      have W12 := Lib.hid (W11.out.trans (hK12.own.below.mono W11.out.size))
      have HWi := Lib.hid (wipe_disk (HG.out.2.2.1.below W11.out) (HG.out.2.2.2.1.below W11.out) hK12 HNe.out)
      clear hK12 HW c0 c1 c2
      go_wp2_with fail
      refine HWi.out.mono ?_
      rintro e w13 ⟨rfl, k13⟩
      have W13 := Lib.hid (W11.out.trans (k13.below.mono W11.out.size))
      have HSt2 := Lib.hid (k13.stored List.length_replicate)
      clear k13 HWi
      go_wp2_with fail
      refine HSt2.out.mono ?_
      rintro e w14 ⟨A14, rfl, hz14, hb14, _⟩
      have W14 := Lib.hid (W13.out.trans (hb14.mono W13.out.size))
      have HO := uopen_any σ τ w14 (HG.out.1.below W14.out) (HG.out.2.1.below W14.out) A14 (List.replicate 256 0) 256 hz14 (by rw [List.length_replicate]; decide) (by decide)
      rw [open_noughts, List.length_replicate] at HO
      have HOp := Lib.hid HO
      unfold UnitV.val at HOp
      clear HO hz14 hb14 HSt2
      go_wp2_with fail
      refine HOp.out.mono ?_
      rintro e w15 ⟨X15, k15, rfl, _, hb15⟩
      have W15 := Lib.hid (W14.out.trans (hb15.mono W14.out.size))
      have hb16 := below_new w15 (.cells #[.int .i64 noUnit.kind, .int .i64 noUnit.num, .slice X15 noUnit.body.length k15] 25)
      have W16 := Lib.hid (W15.out.trans (hb16.mono W15.out.size))
      clear hb15 hb16 HOp
      go_wp2_with fail
      go_ret
      exact ⟨rfl, W16.out⟩
  · rw [decide_eq_false hu] at HR
    clear hu
    go_wp2_with fail
    refine HR.out.mono ?_
    rintro e w3 ⟨rfl, hb3⟩
    have B3 := Lib.hid (B2.out.trans (hb3.mono B2.out.size))
    clear hb3 HR c0 c1 c2
    go_wp2_with fail
    go_ret
    exact ⟨rfl, Hbn.out.trans (B3.out.mono Hbn.out.size)⟩
end Go.Proofs.YtmmebaphhgggfaaGreatDoor
