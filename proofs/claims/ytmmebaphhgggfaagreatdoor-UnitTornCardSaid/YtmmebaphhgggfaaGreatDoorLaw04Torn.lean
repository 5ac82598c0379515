/- UnitTorn: the law's walk. -/
import Derived.Test.YtmmebaphhgggfaaGreatDoorLaw04Tear
import Derived.Test.YtmmebaphhgggfaaGreatDoorUnitSmall
namespace Go.Proofs.YtmmebaphhgggfaaGreatDoor
open Go.RowKit
theorem DiskU.other {w0 w w2 : World} {T : Nat → Prop} {h n g g2 : Nat} {D : DM} {b z z2 : List Int} {hurt : Bool} (k : DiskU w0 w T h D b hurt n g z) (hb : Below w.heap.size w w2) (hz : BytesAt w2 (some ⟨g2, 0, none⟩) z2) (hg : w.heap.size ≤ g2) (hl : g2 < w2.heap.size) : DiskE w0 w2 h b n g2 z2 :=
  ⟨T, D, hurt, k.own.on hb, k.one, k.few, hz, fun ht => by have := k.own.at_.foot _ ht; omega, hl⟩
theorem box2_cells {w w' : World} {u v : UnitV} {A B : Option Addr} {c d : Nat} (hb : Below ((w.alloc (.cells #[.int .i64 u.kind, .int .i64 u.num, .slice A u.body.length c] 25)).alloc (.cells #[.int .i64 v.kind, .int .i64 v.num, .slice B v.body.length d] 25)).heap.size ((w.alloc (.cells #[.int .i64 u.kind, .int .i64 u.num, .slice A u.body.length c] 25)).alloc (.cells #[.int .i64 v.kind, .int .i64 v.num, .slice B v.body.length d] 25)) w') :
    (w'.cell? ⟨w.heap.size, 0, none⟩ = some (.int .i64 u.kind) ∧ w'.cell? ⟨w.heap.size, 1, none⟩ = some (.int .i64 u.num) ∧ w'.cell? ⟨w.heap.size, 2, none⟩ = some (.slice A u.body.length c)) ∧ (w'.cell? ⟨w.heap.size + 1, 0, none⟩ = some (.int .i64 v.kind) ∧ w'.cell? ⟨w.heap.size + 1, 1, none⟩ = some (.int .i64 v.num) ∧ w'.cell? ⟨w.heap.size + 1, 2, none⟩ = some (.slice B v.body.length d)) := by
  obtain ⟨c0, c1, c2⟩ := row3_cells w (.int .i64 u.kind) (.int .i64 u.num) (.slice A u.body.length c) 25
  have hb1 := below_new (w.alloc (.cells #[.int .i64 u.kind, .int .i64 u.num, .slice A u.body.length c] 25)) (.cells #[.int .i64 v.kind, .int .i64 v.num, .slice B v.body.length d] 25)
  obtain ⟨d0, d1, d2⟩ := row3_cells (w.alloc (.cells #[.int .i64 u.kind, .int .i64 u.num, .slice A u.body.length c] 25)) (.int .i64 v.kind) (.int .i64 v.num) (.slice B v.body.length d) 25
  rw [show (w.alloc (.cells #[.int .i64 u.kind, .int .i64 u.num, .slice A u.body.length c] 25)).heap.size = w.heap.size + 1 by simp] at d0 d1 d2
  exact ⟨⟨cell_below (cell_below c0 hb1) hb, cell_below (cell_below c1 hb1) hb, cell_below (cell_below c2 hb1) hb⟩, cell_below d0 hb, cell_below d1 hb, cell_below d2 hb⟩
theorem which_bd {u v : UnitV} {t : Nat} (hu : ∀ z ∈ u.body, 0 ≤ z ∧ z < 256) (hv : ∀ z ∈ v.body, 0 ≤ z ∧ z < 256) : ∀ z ∈ (if t = 0 then u else v).body, 0 ≤ z ∧ z < 256 := by
  split
  · exact hu
  · exact hv
set_option maxRecDepth 100000 in
set_option maxHeartbeats 16000000 in
theorem unitTorn_any (σ : Sen) (τ : SenU) (δ : SenD) (w : World) (hC : GlAt σ w) (hU : GlU τ w) (hD : GlD δ w) (u : UnitV) (A : Option Addr) (c : Nat) (hb : BytesAt w A u.body) (hc : u.body.length ≤ c) (hm : c ≤ 140737488351232) (v : UnitV) (B : Option Addr) (d : Nat) (hvb : BytesAt w B v.body) (hvc : v.body.length ≤ d) (hvm : d ≤ 140737488351232) (s : Int) :
    Calls Tryz.prog 7 #[u.val A c, v.val B d, .int .i64 s] w fun e w' => e = .returned (.bool true) ∧ Below w.heap.size w w' := by
  have hb1 := below_new w (.cells #[.int .i64 u.kind, .int .i64 u.num, .slice A u.body.length c] 25)
  have hbn := hb1.alloc hb1.size (.cells #[.int .i64 v.kind, .int .i64 v.num, .slice B v.body.length d] 25)
  have HA := Lib.hid (awake_any σ τ _ (hC.below hbn) (hU.below hbn))
  have HG := Lib.hid (show GlAt σ w ∧ GlU τ w ∧ GlD δ w ∧ BytesAt w A u.body ∧ BytesAt w B v.body from ⟨hC, hU, hD, hb, hvb⟩)
  have Hbn := Lib.hid hbn
  have Hc := Lib.hid (show u.body.length ≤ c ∧ c ≤ 140737488351232 ∧ v.body.length ≤ d ∧ d ≤ 140737488351232 from ⟨hc, hm, hvc, hvm⟩)
  have HBx := Lib.hid (fun (w' : World) hb' => box2_cells (w := w) (w' := w') (u := u) (v := v) (A := A) (B := B) (c := c) (d := d) hb')
  obtain ⟨w1, hw1⟩ : ∃ w1, (w.alloc (.cells #[.int .i64 u.kind, .int .i64 u.num, .slice A u.body.length c] 25)).alloc (.cells #[.int .i64 v.kind, .int .i64 v.num, .slice B v.body.length d] 25) = w1 := ⟨_, rfl⟩
  rw [hw1] at HA Hbn HBx
  have Hw1 := Lib.hid hw1
  unfold UnitV.val
  clear hC hU hD hb hvb hvc hvm hbn hc hm hw1 hb1
  go_enter Tryz.func7, Tryz.ntmps7
  go_wp2_with fail
  rw [Hw1.out]
  refine HA.out.mono ?_
  rintro e w2 ⟨rfl, hb2⟩
  have B2 := Lib.hid hb2
  obtain ⟨⟨c0, c1, c2⟩, d0, d1, d2⟩ := HBx.out w2 hb2
  have HR := Lib.hid (usmall_any w2 u A c)
  unfold UnitV.val at HR
  clear hb2 HA
  by_cases hu : u.small
  · rw [decide_eq_true hu] at HR
    have Hu := Lib.hid hu
    clear hu
    go_wp2_with fail
    refine HR.out.mono ?_
    rintro e w3 ⟨rfl, hb3⟩
    have B3 := Lib.hid (B2.out.trans (hb3.mono B2.out.size))
    have HQ := Lib.hid (usmall_any w3 v B d)
    unfold UnitV.val at HQ
    clear c0 c1 c2 d0 d1 d2 hb3 HR
    obtain ⟨⟨c0, c1, c2⟩, d0, d1, d2⟩ := HBx.out w3 B3.out
    by_cases hv : v.small
    · rw [decide_eq_true hv] at HQ
      have Hv := Lib.hid hv
      clear hv
      go_wp2_with fail
      refine HQ.out.mono ?_
      rintro e w4 ⟨rfl, hb4⟩
      have B4 := Lib.hid (B3.out.trans (hb4.mono B3.out.size))
      have W4 := Lib.hid (Hbn.out.trans (B4.out.mono Hbn.out.size))
      have HW := Lib.hid (written_any δ w4 (HG.out.2.2.1.below W4.out) u A c Hu.out.1 (HG.out.2.2.2.1.below W4.out) Hc.out.1 (by have := Hc.out.2; omega))
      unfold UnitV.val at HW
      clear c0 c1 c2 d0 d1 d2 hb4 HQ
      obtain ⟨⟨c0, c1, c2⟩, d0, d1, d2⟩ := HBx.out w4 B4.out
      go_wp2_with fail
      refine HW.out.mono ?_
      rintro e w5 ⟨h, g, cap, T, D, rfl, hK, hcap, hcm⟩
      have K5 := Lib.hid hK
      have B5 := Lib.hid (B4.out.trans (hK.own.below.mono B4.out.size))
      have W5 := Lib.hid (W4.out.trans (hK.own.below.mono W4.out.size))
      have hS := useal_any w5 v B d (HG.out.2.2.2.2.below W5.out) Hc.out.2.2.1 (by have := Hc.out.2; omega)
      rw [show sealR v = (sealB v, 0) by unfold sealR; rw [if_pos Hv.out.1]] at hS
      simp only at hS
      rw [seal_len Hv.out.1.2.2] at hS
      have HS := Lib.hid hS
      unfold UnitV.val at HS
      have Hok := Lib.hid (seal_ok Hv.out.1 HG.out.2.2.2.2.1)
      have Htn := Lib.hid (fun t => small_torn (u := u) (v := v) Hu.out.2 Hv.out.2 t)
      obtain ⟨bv, hbv⟩ : ∃ bv, sealB v = bv := ⟨_, rfl⟩
      rw [hbv] at HS Hok
      have Hbv := Lib.hid hbv
      clear c0 c1 c2 d0 d1 d2 hK HW hS hbv
      obtain ⟨⟨c0, c1, c2⟩, d0, d1, d2⟩ := HBx.out w5 B5.out
      go_wp2_with fail
      refine HS.out.mono ?_
      rintro e w6 ⟨x, rfl, ho, hb6⟩
      obtain ⟨g6, cap6, rfl, hcap6, hcm6, hg6, hgl6, hz6⟩ := own_at ho (by decide) Hok.out.2
      have K6 := Lib.hid (K5.out.other hb6 hz6 hg6 hgl6)
      have B6 := Lib.hid (B5.out.trans (hb6.mono B5.out.size))
      have W6 := Lib.hid (W5.out.trans (hb6.mono W5.out.size))
      have HTA := Lib.hid (tearA (cap := cap6) (HG.out.2.2.1.below W4.out) K6.out Hok.out (by decide))
      clear c0 c1 c2 d0 d1 d2 ho hb6 hz6 hg6 hgl6 HS
      go_wp2_with fail
      refine HTA.out.mono ?_
      rintro e w7 ⟨rfl, k7⟩
      have HTB := Lib.hid (tearB (HG.out.2.2.1.below W4.out) k7 Hok.out (by decide))
      clear k7 HTA
      go_wp2_with fail
      refine HTB.out.mono ?_
      rintro e w8 ⟨rfl, k8⟩
      have HTC := Lib.hid (tearC k8 Hok.out (by decide) s)
      clear k8 HTB
      go_wp2_with fail
      refine HTC.out.mono ?_
      rintro e w9 ⟨rfl, k9⟩
      rw [← Hbv.out, Htn.out] at k9
      have Hxr : Hid ((if (s % 9).toNat = 0 then u else v).right) := Lib.hid (by
        split
        · exact Hu.out.1
        · exact Hv.out.1)
      have Hxb := Lib.hid (which_bd (t := (s % 9).toNat) HG.out.2.2.2.1.1 HG.out.2.2.2.2.1)
      have Hxo : Hid ((if (s % 9).toNat = 0 then u else v) = u ∨ (if (s % 9).toNat = 0 then u else v) = v) := Lib.hid (by
        split
        · exact .inl rfl
        · exact .inr rfl)
      rw [show (if (s % 9).toNat = 0 then sealB u else sealB v) = sealB (if (s % 9).toNat = 0 then u else v) by split <;> rfl] at k9
      generalize (if (s % 9).toNat = 0 then u else v) = x at k9 Hxr Hxb Hxo
      have B9 := Lib.hid (B4.out.trans (k9.below.mono B4.out.size))
      have W9 := Lib.hid (W4.out.trans (k9.below.mono W4.out.size))
      have HSt := Lib.hid (k9.stored (seal_len Hxr.out.2.2))
      clear k9 HTC
      go_wp2_with fail
      refine HSt.out.mono ?_
      rintro e w10 ⟨A10, rfl, hz10, hb10, _⟩
      have B10 := Lib.hid (B9.out.trans (hb10.mono B9.out.size))
      have W10 := Lib.hid (W9.out.trans (hb10.mono W9.out.size))
      have HO := uopen_any σ τ w10 (HG.out.1.below W10.out) (HG.out.2.1.below W10.out) A10 (sealB x) 256 hz10 (by rw [seal_len Hxr.out.2.2]; decide) (by decide)
      rw [open_seal Hxr.out, seal_len Hxr.out.2.2] at HO
      have HOp := Lib.hid HO
      unfold UnitV.val at HOp
      clear HO hz10 hb10 HSt
      go_wp2_with fail
      refine HOp.out.mono ?_
      rintro e w11 ⟨X, k, rfl, ho11, hb11⟩
      have hb12 := below_new w11 (.cells #[.int .i64 x.kind, .int .i64 x.num, .slice X x.body.length k] 25)
      have P12 := Lib.hid (BlockIs.made w11 25 #[.int .i64 x.kind, .int .i64 x.num, .slice X x.body.length k])
      have X12 := Lib.hid ((own_reads ho11 Hxb.out).below hb12)
      obtain ⟨w12, hw12⟩ : ∃ w12, w11.alloc (.cells #[.int .i64 x.kind, .int .i64 x.num, .slice X x.body.length k] 25) = w12 := ⟨_, rfl⟩
      rw [hw12] at hb12 P12 X12
      have b1012 := hb11.trans (hb12.mono hb11.size)
      have B12 := Lib.hid (B10.out.trans (b1012.mono B10.out.size))
      have W12 := Lib.hid (W10.out.trans (b1012.mono W10.out.size))
      have Hxl := Lib.hid (show x.body.length ≤ 9223372036854775807 by have := Hxr.out.2.2; omega)
      have HSa := Lib.hid (sameUnit_any w12 x u X A k c X12.out (HG.out.2.2.2.1.below W12.out) Hxl.out)
      unfold UnitV.val at HSa
      have Hw12 := Lib.hid hw12
      obtain ⟨⟨c0, c1, c2⟩, d0, d1, d2⟩ := HBx.out w12 B12.out
      obtain ⟨q0, q1, q2, _, _, _⟩ := unit_cells P12.out
      clear hb11 ho11 hb12 hw12 b1012 HOp
      obtain ⟨r, hr⟩ : ∃ r, sameU x u = r := ⟨_, rfl⟩
      rw [hr] at HSa
      cases r with
      | true =>
        rw [← Hw12.out] at c0 c1 c2 d0 d1 d2 q0 q1 q2
        go_wp2_with fail
        rw [Hw12.out]
        refine HSa.out.mono ?_
        rintro e w13 ⟨rfl, hb13⟩
        have B13 := Lib.hid (W12.out.trans (hb13.mono W12.out.size))
        clear hb13
        go_wp2_with fail
        go_ret
        exact ⟨rfl, B13.out⟩
      | false =>
        have Hxv : Hid (x = v) := Lib.hid (by
          rcases Hxo.out with h1 | h1
          · rw [h1, sameU_self] at hr; cases hr
          · exact h1)
        clear hr
        rw [← Hw12.out] at c0 c1 c2 d0 d1 d2 q0 q1 q2
        go_wp2_with fail
        rw [Hw12.out]
        refine HSa.out.mono ?_
        rintro e w13 ⟨rfl, hb13⟩
        have B13 := Lib.hid (B12.out.trans (hb13.mono B12.out.size))
        have W13 := Lib.hid (W12.out.trans (hb13.mono W12.out.size))
        have P13 := Lib.hid (P12.out.below hb13 P12.out.lt)
        have HSb := Lib.hid (sameUnit_any w13 x v X B k d (X12.out.below hb13) (HG.out.2.2.2.2.below W13.out) Hxl.out)
        rw [show sameU x v = true from sameU_iff.2 Hxv.out] at HSb
        unfold UnitV.val at HSb
        clear c0 c1 c2 d0 d1 d2 q0 q1 q2 hb13
        obtain ⟨⟨c0, c1, c2⟩, d0, d1, d2⟩ := HBx.out w13 B13.out
        obtain ⟨q0, q1, q2, _, _, _⟩ := unit_cells P13.out
        go_wp2_with fail
        refine HSb.out.mono ?_
        rintro e w14 ⟨rfl, hb14⟩
        have W14 := Lib.hid (W13.out.trans (hb14.mono W13.out.size))
        clear hb14
        go_wp2_with fail
        go_ret
        exact ⟨rfl, W14.out⟩
    · rw [decide_eq_false hv] at HQ
      clear hv
      go_wp2_with fail
      refine HQ.out.mono ?_
      rintro e w4 ⟨rfl, hb4⟩
      have B4 := Lib.hid (B3.out.trans (hb4.mono B3.out.size))
      clear hb4 HQ c0 c1 c2 d0 d1 d2
      go_wp2_with fail
      go_ret
      exact ⟨rfl, Hbn.out.trans (B4.out.mono Hbn.out.size)⟩
  · rw [decide_eq_false hu] at HR
    clear hu
    go_wp2_with fail
    refine HR.out.mono ?_
    rintro e w3 ⟨rfl, hb3⟩
    have B3 := Lib.hid (B2.out.trans (hb3.mono B2.out.size))
    clear hb3 HR c0 c1 c2 d0 d1 d2
    go_wp2_with fail
    go_ret
    exact ⟨rfl, Hbn.out.trans (B3.out.mono Hbn.out.size)⟩
end Go.Proofs.YtmmebaphhgggfaaGreatDoor
