/- DevHurts: the walk: a block is hurt once at most till it is stored anew. -/
import Derived.Test.YtgjdoiblgbdebaaDoorLaw03Hold
import Derived.Test.YtgjdoiblgbdebaaDoorLaw03Awake
import Derived.Test.YtgjdoiblgbdebaaDoorLaw03HurtMath
import Derived.Deep.RegionHeld3
namespace Go.Proofs.YtgjdoiblgbdebaaDoor
open Go.RowKit
theorem few_ds {B m : Nat} {x : List Int × Bool} {t : Nat} (ht : t ≤ 1000) : (DS B m x t).Few 1000000 := ⟨by show t ≤ _; omega, by show 0 ≤ _; omega, by show 0 ≤ _; omega⟩
theorem few_w {B m : Nat} {x : List Int × Bool} {t : Nat} {b : List Int} (ht : t ≤ 1000) : DM.Few ⟨(DS B m x t).cells, [(m, b)], 0, t + 1, 0, false⟩ 1000000 := ⟨by show t + 1 ≤ _; omega, by show 0 ≤ _; omega, by show 1 ≤ _; omega⟩
section
variable {σ : SenD} {w0 w : World} {T : Nat → Prop} {h : Nat} {B m : Nat} {x : List Int × Bool} {t : Nat}
/-- A write, and a sync of it. -/
theorem OwnT.writeD (hG : GlD σ w0) (k : OwnT w0 w T h (DS B m x t)) (ht : t ≤ 1000) (hm : m < B) (A : Option Addr) (bs : List Int) (c : Nat) (hz : BytesAt w A bs) (hA : bs ≠ [] → ∀ a, A = some a → ¬ T a.block) (hl : bs.length ≤ 256) :
    Calls Tryd.prog 16 #[.pointer (some ⟨h, 0, none⟩), .int .i64 (m : Int), .slice A bs.length c] w fun e w2 => e = .returned (.int .i64 0) ∧ OwnT w0 w2 (grow T w w2) h ⟨(DS B m x t).cells, [(m, padB bs)], 0, t + 1, 0, false⟩ ∧ Chg T w w2 := by
  have := OwnT.write hG k (few_ds ht) (m : Int) A bs c hz hA (by omega)
  rw [ds_write hm hl] at this
  exact this
theorem OwnT.syncD (hG : GlD σ w0) {b : List Int} (k : OwnT w0 w T h ⟨(DS B m x t).cells, [(m, b)], 0, t + 1, 0, false⟩) (ht : t ≤ 1000) (hm : m < B) (hx : BlkOk x.1) (hb : BlkOk b) :
    Calls Tryd.prog 18 #[.pointer (some ⟨h, 0, none⟩)] w fun e w2 => e = .returned (.int .i64 0) ∧ OwnT w0 w2 (grow T w w2) h (DS B m (b, false) (t + 2)) ∧ Chg T w w2 := by
  have := OwnT.sync hG k (few_w ht)
  rw [ds_sync hm hx hb] at this
  exact this
theorem OwnT.storedD (k : OwnT w0 w T h (DS B m x t)) (hm : m < B) :
    Calls Tryd.prog 20 #[.pointer (some ⟨h, 0, none⟩), .int .i64 (m : Int)] w fun e w2 => ∃ v, e = .returned v ∧ Held w2 T v x.1 ∧ Below w.heap.size w w2 ∧ OwnT w0 w2 T h (DS B m x t) := by
  have := OwnT.stored k (m : Int)
  rw [ds_storedI hm] at this
  exact this
end
theorem ds_statV {B m : Nat} {x : List Int × Bool} {t : Nat} (hm : m < B) : (DS B m x t).statV = .agg #[.int .i64 (B : Int), .int .i64 0, .int .i64 (((if x.2 then 1 else 0 : Nat)) : Int), .int .i64 (t : Int), .int .i64 0, .bool false] := by
  unfold DM.statV
  rw [ds_hurts hm, ds_len]; rfl
theorem made256 (w : World) : (Instr.makeSlice 33 (.int .i64 256) (.int .i64 256)).run Tryd.prog w = .ok (.slice (some ⟨w.heap.size, 0, none⟩) 256 256) (w.alloc (.cells (u8s zero256).toArray 5)) := by
  obtain ⟨i0, hi, hz0, hz1, hz2⟩ := info_parts infoByte
  have := run_make (P := Tryd.prog) w 33 5 i0 (.int .u8 0) Tryd.underlying33 hi hz0 .i64 .i64 256 256 (by decide) (by decide) (by rw [hz2]; decide) (by decide)
  rw [this]
  have h : madeCells (Value.int .u8 0).cells ((256 : Int).toNat * i0.size) = (u8s zero256).toArray := by rw [hz1]; kernel_rfl
  rw [h]; rfl
theorem statField (a b c d e f : Value) (w : World) : (Instr.field 44 (.agg #[a, b, c, d, e, f]) 2).run Tryd.prog w = .ok c w := by kernel_rfl
theorem zero256_ok : ∀ z ∈ zero256, 0 ≤ z ∧ z < 256 := nought_ok.2
/-- Compared with new noughts. -/
theorem Held.sameZ {w : World} {T : Nat → Prop} {v : Value} {xs : List Int} (hx : Held w T v xs) (hl : xs.length ≤ 9223372036854775807) {g : Nat} (hz : BytesAt w (some ⟨g, 0, none⟩) zero256) :
    Calls Tryd.prog 24 #[v, .slice (some ⟨g, 0, none⟩) 256 256] w fun e w2 => e = .returned (.bool (sameB xs zero256)) ∧ ∃ n, w2 = w.drewN n := by
  obtain ⟨A, rfl, h1, _⟩ := hx
  have := sameBytes_any xs zero256 A (some ⟨g, 0, none⟩) xs.length 256 w h1 hz hl
  rw [zero256_len] at this
  exact this
theorem Chg.bytes {w w2 : World} {T : Nat → Prop} {A : Option Addr} {bs : List Int} (hc : Chg T w w2) (h : BytesAt w A bs) (hA : ∀ a, A = some a → ¬ T a.block ∧ a.block < w.heap.size) : BytesAt w2 A bs := h.hold (fun a e => hc.block _ (hA a e).2 (hA a e).1)
set_option maxRecDepth 100000 in
set_option maxHeartbeats 8000000 in
theorem devHurts_any (σ : SenD) (w : World) (hG : GlD σ w) (hS : GlS σ w) (blocks n bit : Int) (mask : Nat) (hmask : mask < 4294967296) (A : Option Addr) (bs : List Int) (c : Nat) (hb : BytesAt w A bs) (hbl : bs.length ≤ 140737488351232) :
    Calls Tryd.prog 6 #[.int .i64 blocks, .int .i64 n, .int .i64 bit, .int .u32 (mask : Int), .slice A bs.length c] w fun e w' => e = .returned (.bool true) ∧ Below w.heap.size w w' := by
  have HA := Lib.hid (awake_any σ w hG)
  have HG := Lib.hid (And.intro hG hS)
  have Hb := Lib.hid hb
  clear hG hS hb
  by_cases h1 : blocks < 1
  · go_enter Tryd.func6, Tryd.ntmps6
    go_wp2_with fail
    refine HA.out.mono ?_
    rintro e w1 ⟨rfl, hb1⟩
    have HB1 := Lib.hid hb1
    clear hb1
    go_wp2_with fail
    go_ret
    exact ⟨rfl, HB1.out⟩
  · by_cases h2 : 40 < blocks
    · have h1' : ¬ blocks < 1 := h1
      go_enter Tryd.func6, Tryd.ntmps6
      go_wp2_with fail
      refine HA.out.mono ?_
      rintro e w1 ⟨rfl, hb1⟩
      have HB1 := Lib.hid hb1
      clear hb1
      go_wp2_with fail
      go_ret
      exact ⟨rfl, HB1.out⟩
    · by_cases h3 : 256 < bs.length
      · have h3' : (256 : Int) < (bs.length : Int) := by omega
        go_enter Tryd.func6, Tryd.ntmps6
        go_wp2_with fail
        refine HA.out.mono ?_
        rintro e w1 ⟨rfl, hb1⟩
        have HB1 := Lib.hid hb1
        clear hb1
        go_wp2_with fail
        go_ret
        exact ⟨rfl, HB1.out⟩
      · have h3' : ¬ (256 : Int) < (bs.length : Int) := by omega
        obtain ⟨B, rfl⟩ := Int.eq_ofNat_of_zero_le (show (0 : Int) ≤ blocks by omega)
        obtain ⟨m, hm⟩ := Int.eq_ofNat_of_zero_le (Int.emod_nonneg n (show (B : Int) ≠ 0 by omega))
        have hmB := Int.emod_lt_of_pos n (show (0 : Int) < (B : Int) by omega)
        rw [hm] at hmB
        have hmB' : m < B := by omega
        have HM := Lib.hid hmB'
        have HP := Lib.hid (padB_ok (bs := bs) (by omega) Hb.out.1)
        have hbits : (B : Int) ≤ 9223372036854775807 := by omega
        go_enter Tryd.func6, Tryd.ntmps6
        go_wp2_with fail
        refine HA.out.mono ?_
        rintro e w1 ⟨rfl, hb1⟩
        have HB1 := Lib.hid hb1
        clear hb1
        go_wp2_with fail
        refine (OwnT.new HB1.out B (by omega) (by omega)).mono ?_
        rintro e w2 ⟨h, rfl, k2, hb2⟩
        rw [ds_new B m] at k2
        have K2 := Lib.hid (And.intro k2 hb2)
        clear k2 hb2
        go_wp2_with fail
        refine (pick_any n (B : Int) _ (by omega) hbits).mono ?_
        rintro e w' ⟨rfl, rfl⟩
        rw [hm]
        go_wp2_with fail
        have hbA : BytesAt w2 A bs := Hb.out.below (HB1.out.trans (K2.out.2.mono HB1.out.size))
        have hnA : bs ≠ [] → ∀ a, A = some a → ¬ (w1.heap.size ≤ a.block ∧ a.block < w2.heap.size) := fun hne a e => by
          obtain ⟨b, off, e', hc⟩ := Hb.out.2 hne
          rw [e] at e'
          obtain rfl : a = ⟨b, off, none⟩ := Option.some.inj e'
          have h1 := World.block_lt_of_cell? w _ (hc 0 (List.length_pos_iff.2 hne))
          have h2 := HB1.out.size
          have h3 : b < w.heap.size := h1
          show ¬ (w1.heap.size ≤ b ∧ _)
          omega
        have HW := Lib.hid (OwnT.writeD HG.out.1 K2.out.1 (by decide) HM.out A bs c hbA hnA (by omega))
        clear hbA hnA
        obtain ⟨S, hS⟩ : ∃ S, padB bs = S := ⟨_, rfl⟩
        rw [hS] at HP HW
        clear hS
        have HSl : Hid (S.length = 256) := Lib.hid HP.out.1
        refine HW.out.mono ?_
        rintro e w3 ⟨rfl, k3, _⟩
        have K3 := Lib.hid k3
        clear k3 HW
        go_wp2_with fail
        refine (OwnT.syncD HG.out.1 K3.out (by decide) HM.out nought_ok HP.out).mono ?_
        rintro e w4 ⟨rfl, k4, _⟩
        have K4 := Lib.hid k4
        clear k4
        go_wp2_with fail
        refine (OwnT.storedD K4.out HM.out).mono ?_
        rintro e w5 ⟨v1, rfl, hv1, hb5, k5⟩
        have K5 : Hid (∃ T5, OwnT w w5 T5 h (DS B m (S, false) 2) ∧ Held w5 T5 v1 S) := Lib.hid ⟨_, k5, hv1⟩
        clear hv1 hb5 k5 K4 K3
        obtain ⟨T5, hk5⟩ := K5.out
        have K5' := Lib.hid hk5
        clear hk5 K5
        go_wp2_with fail
        have HR := Lib.hid (OwnT.rot HG.out.1 HG.out.2 K5'.out.1 (m : Int) bit mask hmask)
        rw [ds_rot HM.out] at HR
        obtain ⟨R, hRe⟩ : ∃ R, rotB S bit mask = R := ⟨_, rfl⟩
        have HRok : Hid (BlkOk R) := Lib.hid (hRe ▸ rotB_ok HP.out bit mask)
        have HRR : Hid (rotB R bit mask = S) := Lib.hid (by rw [← hRe]; exact rot_twice HP.out bit mask)
        rw [show ((S, false) : List Int × Bool).1 = S from rfl, hRe, show ((S, false) : List Int × Bool).2 = false from rfl] at HR
        by_cases hRS : R = S
        · rw [if_pos hRS] at HR
          have HRS := Lib.hid hRS
          clear hRS hRe
          refine HR.out.mono ?_
          rintro e w6 ⟨rfl, k6, hc6⟩
          have K6 : Hid (∃ T6, OwnT w w6 T6 h (DS B m (S, false) 2) ∧ Held w6 T6 v1 S) := Lib.hid ⟨_, k6, K5'.out.2.step hc6⟩
          clear k6 hc6 HR
          obtain ⟨T6, hk6⟩ := K6.out
          have K6' := Lib.hid hk6
          clear hk6 K6
          go_wp2_with fail
          refine (OwnT.storedD K6'.out.1 HM.out).mono ?_
          rintro e w7 ⟨v2, rfl, hv2, hb7, k7⟩
          have K7 := Lib.hid (And.intro k7 (And.intro (K6'.out.2.on hb7) hv2))
          clear hv2 hb7 k7 K6'
          go_wp2_with fail
          refine (K7.out.2.1.same K7.out.2.2 (by rw [HSl.out]; decide)).mono ?_
          rintro e w8 ⟨rfl, n8, hw8⟩
          have K8 : Hid (OwnT w w8 T6 h (DS B m (S, false) 2) ∧ Held w8 T6 v1 S) := Lib.hid (by rw [hw8]; exact ⟨K7.out.1.drewN n8, K7.out.2.1⟩)
          have hsb : sameB S (S, false).1 = true := decide_eq_true rfl
          rw [hsb]
          clear hw8 hsb K7
          go_wp2_with fail
          have hfd := statField
          refine (OwnT.stat K8.out.1).mono ?_
          rintro e w11 ⟨rfl, hb11, k11⟩
          rw [ds_statV HM.out]
          have K11 := Lib.hid (And.intro k11 (K8.out.2.on hb11))
          clear hb11 k11 K8
          go_wp2_with fail
          obtain ⟨A1, hv1, hA1, hn1⟩ := K11.out.2
          subst hv1
          have HA1 := Lib.hid (And.intro hA1 hn1)
          clear hA1 hn1
          refine (OwnT.writeD HG.out.1 K11.out.1 (by decide) HM.out A1 S S.length HA1.out.1 (fun _ a e => (HA1.out.2 a e).1) (by rw [HSl.out]; decide)).mono ?_
          rintro e w12 ⟨rfl, k12, hc12⟩
          rw [pad_full HSl.out] at k12
          have K12 := Lib.hid (And.intro k12 (K11.out.2.step hc12))
          clear k12 hc12 K11 HA1
          go_wp2_with fail
          refine (OwnT.syncD HG.out.1 K12.out.1 (by decide) HM.out HP.out HP.out).mono ?_
          rintro e w13 ⟨rfl, k13, hc13⟩
          have K13 : Hid (∃ T13, OwnT w w13 T13 h (DS B m (S, false) 4) ∧ Held w13 T13 (.slice A1 S.length S.length) S) := Lib.hid ⟨_, k13, K12.out.2.step hc13⟩
          clear k13 hc13 K12
          obtain ⟨T13, hk13⟩ := K13.out
          have K13' := Lib.hid hk13
          clear hk13 K13
          go_wp2_with fail
          refine (OwnT.stat K13'.out.1).mono ?_
          rintro e w14 ⟨rfl, hb14, k14⟩
          rw [ds_statV HM.out]
          have K14 := Lib.hid (And.intro k14 (K13'.out.2.on hb14))
          clear hb14 k14 K13'
          go_wp2_with fail
          refine (OwnT.storedD K14.out.1 HM.out).mono ?_
          rintro e w15 ⟨v3, rfl, hv3, hb15, k15⟩
          have K15 := Lib.hid (And.intro k15 (And.intro (K14.out.2.on hb15) hv3))
          clear hv3 hb15 k15 K14
          go_wp2_with fail
          refine (K15.out.2.2.same K15.out.2.1 (by rw [HSl.out]; decide)).mono ?_
          rintro e w16 ⟨rfl, n16, hw16⟩
          rw [show sameB ((S, false) : List Int × Bool).1 S = true from decide_eq_true rfl]
          have K16 : Hid (OwnT w w16 T13 h (DS B m (S, false) 4) ∧ Held w16 T13 (.slice A1 S.length S.length) S) := Lib.hid (by rw [hw16]; exact ⟨K15.out.1.drewN n16, K15.out.2.1⟩)
          clear hw16 K15
          go_wp2_with fail
          have HWp := Lib.hid (OwnT.wipe HG.out.1 HG.out.2 K16.out.1 (m : Int))
          rw [ds_wipe HM.out, show ((S, false) : List Int × Bool).1 = S from rfl, show ((S, false) : List Int × Bool).2 = false from rfl] at HWp
          have hmk := made256
          by_cases hZ : zero256 = S
          · rw [if_pos hZ] at HWp
            have HZ := Lib.hid hZ
            clear hZ
            refine HWp.out.mono ?_
            rintro e w17 ⟨rfl, k17, hc17⟩
            have K17 : Hid (∃ T17, OwnT w w17 T17 h (DS B m (S, false) 4) ∧ Held w17 T17 (.slice A1 S.length S.length) S) := Lib.hid ⟨_, k17, K16.out.2.step hc17⟩
            clear k17 hc17 K16 HWp
            obtain ⟨T17, hk17⟩ := K17.out
            have K17' := Lib.hid hk17
            clear hk17 K17
            go_wp2_with fail
            refine ((K17'.out.2.on (below_new w17 _)).sameZ (by rw [HSl.out]; decide) (bytesAt_lit w17 zero256 zero256_ok)).mono ?_
            rintro e w18 ⟨rfl, n18, hw18⟩
            rw [show sameB S zero256 = true from decide_eq_true HZ.out.symm]
            have K18 : Hid (OwnT w w18 T17 h (DS B m (S, false) 4)) := Lib.hid (by rw [hw18]; exact (K17'.out.1.on (below_new w17 _)).drewN n18)
            clear hw18 K17'
            go_wp2_with fail
            have hyl : ((S, false) : List Int × Bool).1.length ≤ 9223372036854775807 := by show (S : List Int).length ≤ _; rw [HSl.out]; decide
            have hy : sameB ((S, false) : List Int × Bool).1 zero256 = true := decide_eq_true HZ.out.symm
            have Hst : Hid (∀ w', Below w18.heap.size w18 w' → Calls Tryd.prog 20 #[.pointer (some ⟨h, 0, none⟩), .int .i64 (m : Int)] w' fun e w2 => ∃ v, e = .returned v ∧ Held w2 T17 v ((S, false) : List Int × Bool).1 ∧ Below w'.heap.size w' w2 ∧ OwnT w w2 T17 h (DS B m (S, false) 4)) := Lib.hid (fun w' hb => OwnT.storedD (K18.out.on hb) HM.out)
            have b1 : Hid (Below w18.heap.size w18 w18.drew) := Lib.hid (Below.refl _ _).drew
            have b2 : Hid (Below w18.heap.size w18 (w18.drew.alloc (.cells (u8s zero256).toArray 5))) := Lib.hid ((Below.refl _ _).drew.trans (below_new w18.drew _))
            refine wp_region_held_drew (S := fun _ => True) (by kernel_rfl) trivial (fun _ => ?_)
            refine wpAnyH_take (i := 0) (v := ?_) rfl (by kernel_rfl) (by kernel_rfl) (by kernel_rfl) (fun _ _ _ h => h) (Or.inl ⟨by rfl, ?_⟩) trivial ?_
            rotate_left
            · (intro w' _; go_simp); try with_reducible rfl
            simp only [Act.put, List.getElem_toArray, List.getElem_cons_zero, List.setIfInBounds_toArray, List.set_cons_zero, List.set_cons_succ]
            refine wpAnyH_take (i := 1) (v := ?_) rfl (by kernel_rfl) (by kernel_rfl) (by kernel_rfl) (fun _ _ _ h => h) (Or.inl ⟨by rfl, ?_⟩) trivial ?_
            rotate_left
            · (intro w' _; go_simp); try with_reducible rfl
            simp only [Act.put, List.getElem_toArray, List.getElem_cons_zero, List.getElem_cons_succ, List.setIfInBounds_toArray, List.set_cons_zero, List.set_cons_succ]
            refine wpAnyH_take (i := 2) (v := ?_) rfl (by kernel_rfl) (by kernel_rfl) (by kernel_rfl) (fun _ _ _ h => h) (Or.inl ⟨by rfl, ?_⟩) trivial ?_
            rotate_left
            · (intro w' _; go_simp); try with_reducible rfl
            simp only [Act.put, List.getElem_toArray, List.getElem_cons_zero, List.getElem_cons_succ, List.setIfInBounds_toArray, List.set_cons_zero, List.set_cons_succ]
            refine wpAnyH_take (i := 3) (v := ?_) rfl (by kernel_rfl) (by kernel_rfl) (by kernel_rfl) (fun _ _ _ h => h) (Or.inl ⟨by rfl, ?_⟩) trivial ?_
            rotate_left
            · (intro w' _; go_simp); try with_reducible rfl
            simp only [Act.put, List.getElem_toArray, List.getElem_cons_zero, List.getElem_cons_succ, List.setIfInBounds_toArray, List.set_cons_zero, List.set_cons_succ]
            refine wpAnyH_take (i := 4) (v := ?_) rfl (by kernel_rfl) (by kernel_rfl) (by kernel_rfl) (fun _ _ _ h => h) (Or.inl ⟨by rfl, ?_⟩) trivial ?_
            rotate_left
            · (intro w' _; go_simp); try with_reducible rfl
            simp only [Act.put, List.getElem_toArray, List.getElem_cons_zero, List.getElem_cons_succ, List.setIfInBounds_toArray, List.set_cons_zero, List.set_cons_succ]
            refine wpAnyH_take (i := 5) (v := ?_) rfl (by kernel_rfl) (by kernel_rfl) (by kernel_rfl) (fun _ _ _ h => h) (Or.inl ⟨by rfl, ?_⟩) trivial ?_
            rotate_left
            · (intro w' _; go_simp); try with_reducible rfl
            simp only [Act.put, List.getElem_toArray, List.getElem_cons_zero, List.getElem_cons_succ, List.setIfInBounds_toArray, List.set_cons_zero, List.set_cons_succ]
            refine wpAnyH_take (i := 6) (v := ?_) rfl (by kernel_rfl) (by kernel_rfl) (by kernel_rfl) (fun _ _ _ h => h) (Or.inl ⟨by rfl, ?_⟩) trivial ?_
            rotate_left
            · (intro w' _; go_simp); try with_reducible rfl
            simp only [Act.put, List.getElem_toArray, List.getElem_cons_zero, List.getElem_cons_succ, List.setIfInBounds_toArray, List.set_cons_zero, List.set_cons_succ]
            refine wpAnyH_ready (rs := [7, 8]) (by kernel_rfl) (by simp) ?_
            refine AllReadyH.cons rfl (fun K hK => ?_) (AllReadyH.cons rfl (fun K hK => ?_) AllReadyH.nil)
            · go_simp
              go_wp2_with (first | (go_at_call 20; refine (Hst.out _ b1.out).mono ?_; rintro e w19 ⟨v4, rfl, hv4, hb19, k19⟩; have HV4 := Lib.hid (And.intro hv4 (And.intro hb19 k19)); clear hv4 hb19 k19))
              refine hK.out _ _ trivial (fun _ => ?_)
              clear hK K
              refine wpAnyH_ready (rs := [8]) (by kernel_rfl) (by simp) ?_
              refine AllReadyH.cons rfl (fun K hK => ?_) AllReadyH.nil
              go_simp
              refine hK.out _ _ trivial (fun _ => ?_)
              clear hK K
              refine wpAnyH_ready (rs := [9]) (by kernel_rfl) (by simp) ?_
              refine AllReadyH.cons rfl (fun K hK => ?_) AllReadyH.nil
              go_simp
              go_wp2_with (first | (go_at_call 24; refine ((HV4.out.1.on (below_new w19 _)).sameZ hyl (bytesAt_lit w19 zero256 zero256_ok)).mono ?_; rintro e w20 ⟨rfl, n20, hw20⟩; rw [hy]; have K20 : Hid (OwnT w w20 T17 h (DS B m (S, false) 4)) := Lib.hid (by rw [hw20]; exact (HV4.out.2.2.on (below_new w19 _)).drewN n20); clear hw20))
              refine hK.out _ _ trivial (fun _ => ?_)
              clear hK K
              refine wpAnyH_take (i := 10) (v := ?_) rfl (by kernel_rfl) (by kernel_rfl) (by kernel_rfl) (fun _ _ _ h => h) (Or.inl ⟨by rfl, ?_⟩) trivial ?_
              rotate_left
              · (intro w' _; go_simp); try with_reducible rfl
              simp only [Act.put, List.getElem_toArray, List.getElem_cons_zero, List.getElem_cons_succ, List.setIfInBounds_toArray, List.set_cons_zero, List.set_cons_succ]
              refine wpAnyH_take (i := 11) (v := ?_) rfl (by kernel_rfl) (by kernel_rfl) (by kernel_rfl) (fun _ _ _ h => h) (Or.inl ⟨by rfl, ?_⟩) trivial ?_
              rotate_left
              · (intro w' _; go_simp); try with_reducible rfl
              simp only [Act.put, List.getElem_toArray, List.getElem_cons_zero, List.getElem_cons_succ, List.setIfInBounds_toArray, List.set_cons_zero, List.set_cons_succ]
              refine wpAnyH_take (i := 12) (v := ?_) rfl (by kernel_rfl) (by kernel_rfl) (by kernel_rfl) (fun _ _ _ h => h) (Or.inl ⟨by rfl, ?_⟩) trivial ?_
              rotate_left
              · (intro w' _; go_simp); try with_reducible rfl
              simp only [Act.put, List.getElem_toArray, List.getElem_cons_zero, List.getElem_cons_succ, List.setIfInBounds_toArray, List.set_cons_zero, List.set_cons_succ]
              refine wpAnyH_take (i := 13) (v := ?_) rfl (by kernel_rfl) (by kernel_rfl) (by kernel_rfl) (fun _ _ _ h => h) (Or.inl ⟨by rfl, ?_⟩) trivial ?_
              rotate_left
              · (intro w' _; go_simp); try with_reducible rfl
              simp only [Act.put, List.getElem_toArray, List.getElem_cons_zero, List.getElem_cons_succ, List.setIfInBounds_toArray, List.set_cons_zero, List.set_cons_succ]
              refine wpAnyH_take (i := 14) rfl (by kernel_rfl) (by kernel_rfl) (by kernel_rfl) (fun _ _ _ h => h) (Or.inr ⟨by rfl, rfl⟩) trivial ?_
              simp only [Act.put, List.getElem_toArray, List.getElem_cons_zero, List.getElem_cons_succ, List.setIfInBounds_toArray, List.set_cons_zero, List.set_cons_succ]
              refine wpAnyH_take (i := 15) rfl (by kernel_rfl) (by kernel_rfl) (by kernel_rfl) (fun _ _ _ h => h) (Or.inr ⟨by rfl, rfl⟩) trivial ?_
              simp only [Act.put, List.getElem_toArray, List.getElem_cons_zero, List.getElem_cons_succ, List.setIfInBounds_toArray, List.set_cons_zero, List.set_cons_succ]
              refine wpAnyH_ready (rs := [16]) (by kernel_rfl) (by simp) ?_
              refine AllReadyH.cons rfl (fun K hK => ?_) AllReadyH.nil
              rw [if_neg (by rw [show Region.wanted _ _ = false from rfl]; exact Bool.false_ne_true)]
              refine hK.out _ _ trivial (fun _ => ?_)
              clear hK K
              simp only [Act.put, List.getElem_toArray, List.getElem_cons_zero, List.getElem_cons_succ, List.setIfInBounds_toArray, List.set_cons_zero, List.set_cons_succ]
              refine wpAnyH_take (i := 17) rfl (by kernel_rfl) (by kernel_rfl) (by kernel_rfl) (fun _ _ _ h => h) (Or.inr ⟨by rfl, rfl⟩) trivial ?_
              simp only [Act.put, List.getElem_toArray, List.getElem_cons_zero, List.getElem_cons_succ, List.setIfInBounds_toArray, List.set_cons_zero, List.set_cons_succ]
              refine wpAnyH_take (i := 18) rfl (by kernel_rfl) (by kernel_rfl) (by kernel_rfl) (fun _ _ _ h => h) (Or.inr ⟨by rfl, rfl⟩) trivial ?_
              simp only [Act.put, List.getElem_toArray, List.getElem_cons_zero, List.getElem_cons_succ, List.setIfInBounds_toArray, List.set_cons_zero, List.set_cons_succ]
              refine wpAnyH_take (i := 19) rfl (by kernel_rfl) (by kernel_rfl) (by kernel_rfl) (fun _ _ _ h => h) (Or.inr ⟨by rfl, rfl⟩) trivial ?_
              simp only [Act.put, List.getElem_toArray, List.getElem_cons_zero, List.getElem_cons_succ, List.setIfInBounds_toArray, List.set_cons_zero, List.set_cons_succ]
              refine wpAnyH_take (i := 20) rfl (by kernel_rfl) (by kernel_rfl) (by kernel_rfl) (fun _ _ _ h => h) (Or.inr ⟨by rfl, rfl⟩) trivial ?_
              simp only [Act.put, List.getElem_toArray, List.getElem_cons_zero, List.getElem_cons_succ, List.setIfInBounds_toArray, List.set_cons_zero, List.set_cons_succ]
              refine wpAnyH_ready (rs := [21]) (by kernel_rfl) (by simp) ?_
              refine AllReadyH.cons rfl (fun K hK => ?_) AllReadyH.nil
              rw [if_neg (by rw [show Region.wanted _ _ = false from rfl]; exact Bool.false_ne_true)]
              refine hK.out _ _ trivial (fun _ => ?_)
              clear hK K
              simp only [Act.put, List.getElem_toArray, List.getElem_cons_zero, List.getElem_cons_succ, List.setIfInBounds_toArray, List.set_cons_zero, List.set_cons_succ]
              refine wpAnyH_take (i := 22) rfl (by kernel_rfl) (by kernel_rfl) (by kernel_rfl) (fun _ _ _ h => h) (Or.inr ⟨by rfl, rfl⟩) trivial ?_
              simp only [Act.put, List.getElem_toArray, List.getElem_cons_zero, List.getElem_cons_succ, List.setIfInBounds_toArray, List.set_cons_zero, List.set_cons_succ]
              refine wpAnyH_take (i := 23) rfl (by kernel_rfl) (by kernel_rfl) (by kernel_rfl) (fun _ _ _ h => h) (Or.inr ⟨by rfl, rfl⟩) trivial ?_
              simp only [Act.put, List.getElem_toArray, List.getElem_cons_zero, List.getElem_cons_succ, List.setIfInBounds_toArray, List.set_cons_zero, List.set_cons_succ]
              refine wpAnyH_take (i := 24) (v := ?_) rfl (by kernel_rfl) (by kernel_rfl) (by kernel_rfl) (fun _ _ _ h => h) (Or.inl ⟨by rfl, ?_⟩) trivial ?_
              rotate_left
              · (intro w' _; go_simp); try with_reducible rfl
              simp only [Act.put, List.getElem_toArray, List.getElem_cons_zero, List.getElem_cons_succ, List.setIfInBounds_toArray, List.set_cons_zero, List.set_cons_succ]
              refine wpAnyH_take (i := 25) (v := ?_) rfl (by kernel_rfl) (by kernel_rfl) (by kernel_rfl) (fun _ _ _ h => h) (Or.inl ⟨by rfl, ?_⟩) trivial ?_
              rotate_left
              · (intro w' _; go_simp); try with_reducible rfl
              simp only [Act.put, List.getElem_toArray, List.getElem_cons_zero, List.getElem_cons_succ, List.setIfInBounds_toArray, List.set_cons_zero, List.set_cons_succ]
              refine wpAnyH_take (i := 26) (v := ?_) rfl (by kernel_rfl) (by kernel_rfl) (by kernel_rfl) (fun _ _ _ h => h) (Or.inl ⟨by rfl, ?_⟩) trivial ?_
              rotate_left
              · (intro w' _; go_simp); try with_reducible rfl
              simp only [Act.put, List.getElem_toArray, List.getElem_cons_zero, List.getElem_cons_succ, List.setIfInBounds_toArray, List.set_cons_zero, List.set_cons_succ]
              refine wpAnyH_done (by kernel_rfl) ?_ _
              go_wp2_with fail
              go_ret
              exact ⟨rfl, K20.out.below⟩
            · go_simp
              refine hK.out _ _ trivial (fun _ => ?_)
              clear hK K
              refine wpAnyH_ready (rs := [7]) (by kernel_rfl) (by simp) ?_
              refine AllReadyH.cons rfl (fun K hK => ?_) AllReadyH.nil
              go_simp
              go_wp2_with (first | (go_at_call 20; refine (Hst.out _ b2.out).mono ?_; rintro e w19 ⟨v4, rfl, hv4, hb19, k19⟩; have HV4 := Lib.hid (And.intro hv4 (And.intro hb19 k19)); clear hv4 hb19 k19))
              refine hK.out _ _ trivial (fun _ => ?_)
              clear hK K
              refine wpAnyH_ready (rs := [9]) (by kernel_rfl) (by simp) ?_
              refine AllReadyH.cons rfl (fun K hK => ?_) AllReadyH.nil
              go_simp
              go_wp2_with (first | (go_at_call 24; refine (HV4.out.1.sameZ hyl ((bytesAt_lit w18.drew zero256 zero256_ok).below HV4.out.2.1)).mono ?_; rintro e w20 ⟨rfl, n20, hw20⟩; rw [hy]; have K20 : Hid (OwnT w w20 T17 h (DS B m (S, false) 4)) := Lib.hid (by rw [hw20]; exact HV4.out.2.2.drewN n20); clear hw20))
              refine hK.out _ _ trivial (fun _ => ?_)
              clear hK K
              refine wpAnyH_take (i := 10) (v := ?_) rfl (by kernel_rfl) (by kernel_rfl) (by kernel_rfl) (fun _ _ _ h => h) (Or.inl ⟨by rfl, ?_⟩) trivial ?_
              rotate_left
              · (intro w' _; go_simp); try with_reducible rfl
              simp only [Act.put, List.getElem_toArray, List.getElem_cons_zero, List.getElem_cons_succ, List.setIfInBounds_toArray, List.set_cons_zero, List.set_cons_succ]
              refine wpAnyH_take (i := 11) (v := ?_) rfl (by kernel_rfl) (by kernel_rfl) (by kernel_rfl) (fun _ _ _ h => h) (Or.inl ⟨by rfl, ?_⟩) trivial ?_
              rotate_left
              · (intro w' _; go_simp); try with_reducible rfl
              simp only [Act.put, List.getElem_toArray, List.getElem_cons_zero, List.getElem_cons_succ, List.setIfInBounds_toArray, List.set_cons_zero, List.set_cons_succ]
              refine wpAnyH_take (i := 12) (v := ?_) rfl (by kernel_rfl) (by kernel_rfl) (by kernel_rfl) (fun _ _ _ h => h) (Or.inl ⟨by rfl, ?_⟩) trivial ?_
              rotate_left
              · (intro w' _; go_simp); try with_reducible rfl
              simp only [Act.put, List.getElem_toArray, List.getElem_cons_zero, List.getElem_cons_succ, List.setIfInBounds_toArray, List.set_cons_zero, List.set_cons_succ]
              refine wpAnyH_take (i := 13) (v := ?_) rfl (by kernel_rfl) (by kernel_rfl) (by kernel_rfl) (fun _ _ _ h => h) (Or.inl ⟨by rfl, ?_⟩) trivial ?_
              rotate_left
              · (intro w' _; go_simp); try with_reducible rfl
              simp only [Act.put, List.getElem_toArray, List.getElem_cons_zero, List.getElem_cons_succ, List.setIfInBounds_toArray, List.set_cons_zero, List.set_cons_succ]
              refine wpAnyH_take (i := 14) rfl (by kernel_rfl) (by kernel_rfl) (by kernel_rfl) (fun _ _ _ h => h) (Or.inr ⟨by rfl, rfl⟩) trivial ?_
              simp only [Act.put, List.getElem_toArray, List.getElem_cons_zero, List.getElem_cons_succ, List.setIfInBounds_toArray, List.set_cons_zero, List.set_cons_succ]
              refine wpAnyH_take (i := 15) rfl (by kernel_rfl) (by kernel_rfl) (by kernel_rfl) (fun _ _ _ h => h) (Or.inr ⟨by rfl, rfl⟩) trivial ?_
              simp only [Act.put, List.getElem_toArray, List.getElem_cons_zero, List.getElem_cons_succ, List.setIfInBounds_toArray, List.set_cons_zero, List.set_cons_succ]
              refine wpAnyH_ready (rs := [16]) (by kernel_rfl) (by simp) ?_
              refine AllReadyH.cons rfl (fun K hK => ?_) AllReadyH.nil
              rw [if_neg (by rw [show Region.wanted _ _ = false from rfl]; exact Bool.false_ne_true)]
              refine hK.out _ _ trivial (fun _ => ?_)
              clear hK K
              simp only [Act.put, List.getElem_toArray, List.getElem_cons_zero, List.getElem_cons_succ, List.setIfInBounds_toArray, List.set_cons_zero, List.set_cons_succ]
              refine wpAnyH_take (i := 17) rfl (by kernel_rfl) (by kernel_rfl) (by kernel_rfl) (fun _ _ _ h => h) (Or.inr ⟨by rfl, rfl⟩) trivial ?_
              simp only [Act.put, List.getElem_toArray, List.getElem_cons_zero, List.getElem_cons_succ, List.setIfInBounds_toArray, List.set_cons_zero, List.set_cons_succ]
              refine wpAnyH_take (i := 18) rfl (by kernel_rfl) (by kernel_rfl) (by kernel_rfl) (fun _ _ _ h => h) (Or.inr ⟨by rfl, rfl⟩) trivial ?_
              simp only [Act.put, List.getElem_toArray, List.getElem_cons_zero, List.getElem_cons_succ, List.setIfInBounds_toArray, List.set_cons_zero, List.set_cons_succ]
              refine wpAnyH_take (i := 19) rfl (by kernel_rfl) (by kernel_rfl) (by kernel_rfl) (fun _ _ _ h => h) (Or.inr ⟨by rfl, rfl⟩) trivial ?_
              simp only [Act.put, List.getElem_toArray, List.getElem_cons_zero, List.getElem_cons_succ, List.setIfInBounds_toArray, List.set_cons_zero, List.set_cons_succ]
              refine wpAnyH_take (i := 20) rfl (by kernel_rfl) (by kernel_rfl) (by kernel_rfl) (fun _ _ _ h => h) (Or.inr ⟨by rfl, rfl⟩) trivial ?_
              simp only [Act.put, List.getElem_toArray, List.getElem_cons_zero, List.getElem_cons_succ, List.setIfInBounds_toArray, List.set_cons_zero, List.set_cons_succ]
              refine wpAnyH_ready (rs := [21]) (by kernel_rfl) (by simp) ?_
              refine AllReadyH.cons rfl (fun K hK => ?_) AllReadyH.nil
              rw [if_neg (by rw [show Region.wanted _ _ = false from rfl]; exact Bool.false_ne_true)]
              refine hK.out _ _ trivial (fun _ => ?_)
              clear hK K
              simp only [Act.put, List.getElem_toArray, List.getElem_cons_zero, List.getElem_cons_succ, List.setIfInBounds_toArray, List.set_cons_zero, List.set_cons_succ]
              refine wpAnyH_take (i := 22) rfl (by kernel_rfl) (by kernel_rfl) (by kernel_rfl) (fun _ _ _ h => h) (Or.inr ⟨by rfl, rfl⟩) trivial ?_
              simp only [Act.put, List.getElem_toArray, List.getElem_cons_zero, List.getElem_cons_succ, List.setIfInBounds_toArray, List.set_cons_zero, List.set_cons_succ]
              refine wpAnyH_take (i := 23) rfl (by kernel_rfl) (by kernel_rfl) (by kernel_rfl) (fun _ _ _ h => h) (Or.inr ⟨by rfl, rfl⟩) trivial ?_
              simp only [Act.put, List.getElem_toArray, List.getElem_cons_zero, List.getElem_cons_succ, List.setIfInBounds_toArray, List.set_cons_zero, List.set_cons_succ]
              refine wpAnyH_take (i := 24) (v := ?_) rfl (by kernel_rfl) (by kernel_rfl) (by kernel_rfl) (fun _ _ _ h => h) (Or.inl ⟨by rfl, ?_⟩) trivial ?_
              rotate_left
              · (intro w' _; go_simp); try with_reducible rfl
              simp only [Act.put, List.getElem_toArray, List.getElem_cons_zero, List.getElem_cons_succ, List.setIfInBounds_toArray, List.set_cons_zero, List.set_cons_succ]
              refine wpAnyH_take (i := 25) (v := ?_) rfl (by kernel_rfl) (by kernel_rfl) (by kernel_rfl) (fun _ _ _ h => h) (Or.inl ⟨by rfl, ?_⟩) trivial ?_
              rotate_left
              · (intro w' _; go_simp); try with_reducible rfl
              simp only [Act.put, List.getElem_toArray, List.getElem_cons_zero, List.getElem_cons_succ, List.setIfInBounds_toArray, List.set_cons_zero, List.set_cons_succ]
              refine wpAnyH_take (i := 26) (v := ?_) rfl (by kernel_rfl) (by kernel_rfl) (by kernel_rfl) (fun _ _ _ h => h) (Or.inl ⟨by rfl, ?_⟩) trivial ?_
              rotate_left
              · (intro w' _; go_simp); try with_reducible rfl
              simp only [Act.put, List.getElem_toArray, List.getElem_cons_zero, List.getElem_cons_succ, List.setIfInBounds_toArray, List.set_cons_zero, List.set_cons_succ]
              refine wpAnyH_done (by kernel_rfl) ?_ _
              go_wp2_with fail
              go_ret
              exact ⟨rfl, K20.out.below⟩
          · rw [if_neg hZ, if_neg Bool.false_ne_true] at HWp
            have HZ := Lib.hid hZ
            clear hZ
            refine HWp.out.mono ?_
            rintro e w17 ⟨rfl, k17, hc17⟩
            have K17 : Hid (∃ T17, OwnT w w17 T17 h (DS B m (zero256, true) 4) ∧ Held w17 T17 (.slice A1 S.length S.length) S) := Lib.hid ⟨_, k17, K16.out.2.step hc17⟩
            clear k17 hc17 K16 HWp
            obtain ⟨T17, hk17⟩ := K17.out
            have K17' := Lib.hid hk17
            clear hk17 K17
            go_wp2_with fail
            refine ((K17'.out.2.on (below_new w17 _)).sameZ (by rw [HSl.out]; decide) (bytesAt_lit w17 zero256 zero256_ok)).mono ?_
            rintro e w18 ⟨rfl, n18, hw18⟩
            rw [show sameB S zero256 = false from decide_eq_false (fun e => HZ.out e.symm)]
            have K18 : Hid (OwnT w w18 T17 h (DS B m (zero256, true) 4)) := Lib.hid (by rw [hw18]; exact (K17'.out.1.on (below_new w17 _)).drewN n18)
            clear hw18 K17'
            go_wp2_with fail
            have hyl : ((zero256, true) : List Int × Bool).1.length ≤ 9223372036854775807 := by show (zero256 : List Int).length ≤ _; rw [zero256_len]; decide
            have hy : sameB ((zero256, true) : List Int × Bool).1 zero256 = true := decide_eq_true rfl
            have Hst : Hid (∀ w', Below w18.heap.size w18 w' → Calls Tryd.prog 20 #[.pointer (some ⟨h, 0, none⟩), .int .i64 (m : Int)] w' fun e w2 => ∃ v, e = .returned v ∧ Held w2 T17 v ((zero256, true) : List Int × Bool).1 ∧ Below w'.heap.size w' w2 ∧ OwnT w w2 T17 h (DS B m (zero256, true) 4)) := Lib.hid (fun w' hb => OwnT.storedD (K18.out.on hb) HM.out)
            have b1 : Hid (Below w18.heap.size w18 w18.drew) := Lib.hid (Below.refl _ _).drew
            have b2 : Hid (Below w18.heap.size w18 (w18.drew.alloc (.cells (u8s zero256).toArray 5))) := Lib.hid ((Below.refl _ _).drew.trans (below_new w18.drew _))
            refine wp_region_held_drew (S := fun _ => True) (by kernel_rfl) trivial (fun _ => ?_)
            refine wpAnyH_take (i := 0) (v := ?_) rfl (by kernel_rfl) (by kernel_rfl) (by kernel_rfl) (fun _ _ _ h => h) (Or.inl ⟨by rfl, ?_⟩) trivial ?_
            rotate_left
            · (intro w' _; go_simp); try with_reducible rfl
            simp only [Act.put, List.getElem_toArray, List.getElem_cons_zero, List.setIfInBounds_toArray, List.set_cons_zero, List.set_cons_succ]
            refine wpAnyH_take (i := 1) (v := ?_) rfl (by kernel_rfl) (by kernel_rfl) (by kernel_rfl) (fun _ _ _ h => h) (Or.inl ⟨by rfl, ?_⟩) trivial ?_
            rotate_left
            · (intro w' _; go_simp); try with_reducible rfl
            simp only [Act.put, List.getElem_toArray, List.getElem_cons_zero, List.getElem_cons_succ, List.setIfInBounds_toArray, List.set_cons_zero, List.set_cons_succ]
            refine wpAnyH_take (i := 2) (v := ?_) rfl (by kernel_rfl) (by kernel_rfl) (by kernel_rfl) (fun _ _ _ h => h) (Or.inl ⟨by rfl, ?_⟩) trivial ?_
            rotate_left
            · (intro w' _; go_simp); try with_reducible rfl
            simp only [Act.put, List.getElem_toArray, List.getElem_cons_zero, List.getElem_cons_succ, List.setIfInBounds_toArray, List.set_cons_zero, List.set_cons_succ]
            refine wpAnyH_take (i := 3) (v := ?_) rfl (by kernel_rfl) (by kernel_rfl) (by kernel_rfl) (fun _ _ _ h => h) (Or.inl ⟨by rfl, ?_⟩) trivial ?_
            rotate_left
            · (intro w' _; go_simp); try with_reducible rfl
            simp only [Act.put, List.getElem_toArray, List.getElem_cons_zero, List.getElem_cons_succ, List.setIfInBounds_toArray, List.set_cons_zero, List.set_cons_succ]
            refine wpAnyH_take (i := 4) (v := ?_) rfl (by kernel_rfl) (by kernel_rfl) (by kernel_rfl) (fun _ _ _ h => h) (Or.inl ⟨by rfl, ?_⟩) trivial ?_
            rotate_left
            · (intro w' _; go_simp); try with_reducible rfl
            simp only [Act.put, List.getElem_toArray, List.getElem_cons_zero, List.getElem_cons_succ, List.setIfInBounds_toArray, List.set_cons_zero, List.set_cons_succ]
            refine wpAnyH_take (i := 5) (v := ?_) rfl (by kernel_rfl) (by kernel_rfl) (by kernel_rfl) (fun _ _ _ h => h) (Or.inl ⟨by rfl, ?_⟩) trivial ?_
            rotate_left
            · (intro w' _; go_simp); try with_reducible rfl
            simp only [Act.put, List.getElem_toArray, List.getElem_cons_zero, List.getElem_cons_succ, List.setIfInBounds_toArray, List.set_cons_zero, List.set_cons_succ]
            refine wpAnyH_take (i := 6) (v := ?_) rfl (by kernel_rfl) (by kernel_rfl) (by kernel_rfl) (fun _ _ _ h => h) (Or.inl ⟨by rfl, ?_⟩) trivial ?_
            rotate_left
            · (intro w' _; go_simp); try with_reducible rfl
            simp only [Act.put, List.getElem_toArray, List.getElem_cons_zero, List.getElem_cons_succ, List.setIfInBounds_toArray, List.set_cons_zero, List.set_cons_succ]
            refine wpAnyH_ready (rs := [7, 8]) (by kernel_rfl) (by simp) ?_
            refine AllReadyH.cons rfl (fun K hK => ?_) (AllReadyH.cons rfl (fun K hK => ?_) AllReadyH.nil)
            · go_simp
              go_wp2_with (first | (go_at_call 20; refine (Hst.out _ b1.out).mono ?_; rintro e w19 ⟨v4, rfl, hv4, hb19, k19⟩; have HV4 := Lib.hid (And.intro hv4 (And.intro hb19 k19)); clear hv4 hb19 k19))
              refine hK.out _ _ trivial (fun _ => ?_)
              clear hK K
              refine wpAnyH_ready (rs := [8]) (by kernel_rfl) (by simp) ?_
              refine AllReadyH.cons rfl (fun K hK => ?_) AllReadyH.nil
              go_simp
              refine hK.out _ _ trivial (fun _ => ?_)
              clear hK K
              refine wpAnyH_ready (rs := [9]) (by kernel_rfl) (by simp) ?_
              refine AllReadyH.cons rfl (fun K hK => ?_) AllReadyH.nil
              go_simp
              go_wp2_with (first | (go_at_call 24; refine ((HV4.out.1.on (below_new w19 _)).sameZ hyl (bytesAt_lit w19 zero256 zero256_ok)).mono ?_; rintro e w20 ⟨rfl, n20, hw20⟩; rw [hy]; have K20 : Hid (OwnT w w20 T17 h (DS B m (zero256, true) 4)) := Lib.hid (by rw [hw20]; exact (HV4.out.2.2.on (below_new w19 _)).drewN n20); clear hw20))
              refine hK.out _ _ trivial (fun _ => ?_)
              clear hK K
              refine wpAnyH_take (i := 10) (v := ?_) rfl (by kernel_rfl) (by kernel_rfl) (by kernel_rfl) (fun _ _ _ h => h) (Or.inl ⟨by rfl, ?_⟩) trivial ?_
              rotate_left
              · (intro w' _; go_simp); try with_reducible rfl
              simp only [Act.put, List.getElem_toArray, List.getElem_cons_zero, List.getElem_cons_succ, List.setIfInBounds_toArray, List.set_cons_zero, List.set_cons_succ]
              refine wpAnyH_take (i := 11) (v := ?_) rfl (by kernel_rfl) (by kernel_rfl) (by kernel_rfl) (fun _ _ _ h => h) (Or.inl ⟨by rfl, ?_⟩) trivial ?_
              rotate_left
              · (intro w' _; go_simp); try with_reducible rfl
              simp only [Act.put, List.getElem_toArray, List.getElem_cons_zero, List.getElem_cons_succ, List.setIfInBounds_toArray, List.set_cons_zero, List.set_cons_succ]
              refine wpAnyH_take (i := 12) (v := ?_) rfl (by kernel_rfl) (by kernel_rfl) (by kernel_rfl) (fun _ _ _ h => h) (Or.inl ⟨by rfl, ?_⟩) trivial ?_
              rotate_left
              · (intro w' _; go_simp); try with_reducible rfl
              simp only [Act.put, List.getElem_toArray, List.getElem_cons_zero, List.getElem_cons_succ, List.setIfInBounds_toArray, List.set_cons_zero, List.set_cons_succ]
              refine wpAnyH_take (i := 13) (v := ?_) rfl (by kernel_rfl) (by kernel_rfl) (by kernel_rfl) (fun _ _ _ h => h) (Or.inl ⟨by rfl, ?_⟩) trivial ?_
              rotate_left
              · (intro w' _; go_simp); try with_reducible rfl
              simp only [Act.put, List.getElem_toArray, List.getElem_cons_zero, List.getElem_cons_succ, List.setIfInBounds_toArray, List.set_cons_zero, List.set_cons_succ]
              refine wpAnyH_take (i := 14) (v := ?_) rfl (by kernel_rfl) (by kernel_rfl) (by kernel_rfl) (fun _ _ _ h => h) (Or.inl ⟨by rfl, ?_⟩) trivial ?_
              rotate_left
              · (intro w' _; go_simp); try with_reducible rfl
              simp only [Act.put, List.getElem_toArray, List.getElem_cons_zero, List.getElem_cons_succ, List.setIfInBounds_toArray, List.set_cons_zero, List.set_cons_succ]
              refine wpAnyH_take (i := 15) (v := ?_) rfl (by kernel_rfl) (by kernel_rfl) (by kernel_rfl) (fun _ _ _ h => h) (Or.inl ⟨by rfl, ?_⟩) trivial ?_
              rotate_left
              · (intro w' _; go_simp); try with_reducible rfl
              simp only [Act.put, List.getElem_toArray, List.getElem_cons_zero, List.getElem_cons_succ, List.setIfInBounds_toArray, List.set_cons_zero, List.set_cons_succ]
              refine wpAnyH_ready (rs := [16]) (by kernel_rfl) (by simp) ?_
              refine AllReadyH.cons rfl (fun K hK => ?_) AllReadyH.nil
              go_simp
              go_wp2_with (first | (go_at_call 28; refine (OwnT.wipe HG.out.1 HG.out.2 K20.out (m : Int)).mono ?_; rintro e w21 ⟨he, k21, hc21⟩; rw [ds_wipe HM.out, if_pos rfl] at he k21; subst he; have K21 := Lib.hid k21; clear k21 hc21))
              refine hK.out _ _ trivial (fun _ => ?_)
              clear hK K
              refine wpAnyH_take (i := 17) (v := ?_) rfl (by kernel_rfl) (by kernel_rfl) (by kernel_rfl) (fun _ _ _ h => h) (Or.inl ⟨by rfl, ?_⟩) trivial ?_
              rotate_left
              · (intro w' _; go_simp); try with_reducible rfl
              simp only [Act.put, List.getElem_toArray, List.getElem_cons_zero, List.getElem_cons_succ, List.setIfInBounds_toArray, List.set_cons_zero, List.set_cons_succ]
              refine wpAnyH_take (i := 18) (v := ?_) rfl (by kernel_rfl) (by kernel_rfl) (by kernel_rfl) (fun _ _ _ h => h) (Or.inl ⟨by rfl, ?_⟩) trivial ?_
              rotate_left
              · (intro w' _; go_simp); try with_reducible rfl
              simp only [Act.put, List.getElem_toArray, List.getElem_cons_zero, List.getElem_cons_succ, List.setIfInBounds_toArray, List.set_cons_zero, List.set_cons_succ]
              refine wpAnyH_take (i := 19) (v := ?_) rfl (by kernel_rfl) (by kernel_rfl) (by kernel_rfl) (fun _ _ _ h => h) (Or.inl ⟨by rfl, ?_⟩) trivial ?_
              rotate_left
              · (intro w' _; go_simp); try with_reducible rfl
              simp only [Act.put, List.getElem_toArray, List.getElem_cons_zero, List.getElem_cons_succ, List.setIfInBounds_toArray, List.set_cons_zero, List.set_cons_succ]
              refine wpAnyH_take (i := 20) (v := ?_) rfl (by kernel_rfl) (by kernel_rfl) (by kernel_rfl) (fun _ _ _ h => h) (Or.inl ⟨by rfl, ?_⟩) trivial ?_
              rotate_left
              · (intro w' _; go_simp); try with_reducible rfl
              simp only [Act.put, List.getElem_toArray, List.getElem_cons_zero, List.getElem_cons_succ, List.setIfInBounds_toArray, List.set_cons_zero, List.set_cons_succ]
              refine wpAnyH_ready (rs := [21]) (by kernel_rfl) (by simp) ?_
              refine AllReadyH.cons rfl (fun K hK => ?_) AllReadyH.nil
              go_simp
              go_wp2_with (first | (go_at_call 27; refine (OwnT.rot HG.out.1 HG.out.2 K21.out (m : Int) 9 1 (by decide)).mono ?_; rintro e w22 ⟨he, k22, hc22⟩; rw [ds_rot HM.out, show ((zero256, true) : List Int × Bool).1 = zero256 from rfl, if_neg (show ¬ rotB zero256 9 1 = zero256 from rot_one nought_ok 9 (by decide)), if_pos rfl] at he k22; subst he; have K22 := Lib.hid k22; clear k22 hc22))
              refine hK.out _ _ trivial (fun _ => ?_)
              clear hK K
              refine wpAnyH_take (i := 22) (v := ?_) rfl (by kernel_rfl) (by kernel_rfl) (by kernel_rfl) (fun _ _ _ h => h) (Or.inl ⟨by rfl, ?_⟩) trivial ?_
              rotate_left
              · (intro w' _; go_simp); try with_reducible rfl
              simp only [Act.put, List.getElem_toArray, List.getElem_cons_zero, List.getElem_cons_succ, List.setIfInBounds_toArray, List.set_cons_zero, List.set_cons_succ]
              refine wpAnyH_take (i := 23) (v := ?_) rfl (by kernel_rfl) (by kernel_rfl) (by kernel_rfl) (fun _ _ _ h => h) (Or.inl ⟨by rfl, ?_⟩) trivial ?_
              rotate_left
              · (intro w' _; go_simp); try with_reducible rfl
              simp only [Act.put, List.getElem_toArray, List.getElem_cons_zero, List.getElem_cons_succ, List.setIfInBounds_toArray, List.set_cons_zero, List.set_cons_succ]
              refine wpAnyH_take (i := 24) (v := ?_) rfl (by kernel_rfl) (by kernel_rfl) (by kernel_rfl) (fun _ _ _ h => h) (Or.inl ⟨by rfl, ?_⟩) trivial ?_
              rotate_left
              · (intro w' _; go_simp); try with_reducible rfl
              simp only [Act.put, List.getElem_toArray, List.getElem_cons_zero, List.getElem_cons_succ, List.setIfInBounds_toArray, List.set_cons_zero, List.set_cons_succ]
              refine wpAnyH_take (i := 25) (v := ?_) rfl (by kernel_rfl) (by kernel_rfl) (by kernel_rfl) (fun _ _ _ h => h) (Or.inl ⟨by rfl, ?_⟩) trivial ?_
              rotate_left
              · (intro w' _; go_simp); try with_reducible rfl
              simp only [Act.put, List.getElem_toArray, List.getElem_cons_zero, List.getElem_cons_succ, List.setIfInBounds_toArray, List.set_cons_zero, List.set_cons_succ]
              refine wpAnyH_take (i := 26) (v := ?_) rfl (by kernel_rfl) (by kernel_rfl) (by kernel_rfl) (fun _ _ _ h => h) (Or.inl ⟨by rfl, ?_⟩) trivial ?_
              rotate_left
              · (intro w' _; go_simp); try with_reducible rfl
              simp only [Act.put, List.getElem_toArray, List.getElem_cons_zero, List.getElem_cons_succ, List.setIfInBounds_toArray, List.set_cons_zero, List.set_cons_succ]
              refine wpAnyH_done (by kernel_rfl) ?_ _
              go_wp2_with fail
              go_ret
              exact ⟨rfl, K22.out.below⟩
            · go_simp
              refine hK.out _ _ trivial (fun _ => ?_)
              clear hK K
              refine wpAnyH_ready (rs := [7]) (by kernel_rfl) (by simp) ?_
              refine AllReadyH.cons rfl (fun K hK => ?_) AllReadyH.nil
              go_simp
              go_wp2_with (first | (go_at_call 20; refine (Hst.out _ b2.out).mono ?_; rintro e w19 ⟨v4, rfl, hv4, hb19, k19⟩; have HV4 := Lib.hid (And.intro hv4 (And.intro hb19 k19)); clear hv4 hb19 k19))
              refine hK.out _ _ trivial (fun _ => ?_)
              clear hK K
              refine wpAnyH_ready (rs := [9]) (by kernel_rfl) (by simp) ?_
              refine AllReadyH.cons rfl (fun K hK => ?_) AllReadyH.nil
              go_simp
              go_wp2_with (first | (go_at_call 24; refine (HV4.out.1.sameZ hyl ((bytesAt_lit w18.drew zero256 zero256_ok).below HV4.out.2.1)).mono ?_; rintro e w20 ⟨rfl, n20, hw20⟩; rw [hy]; have K20 : Hid (OwnT w w20 T17 h (DS B m (zero256, true) 4)) := Lib.hid (by rw [hw20]; exact HV4.out.2.2.drewN n20); clear hw20))
              refine hK.out _ _ trivial (fun _ => ?_)
              clear hK K
              refine wpAnyH_take (i := 10) (v := ?_) rfl (by kernel_rfl) (by kernel_rfl) (by kernel_rfl) (fun _ _ _ h => h) (Or.inl ⟨by rfl, ?_⟩) trivial ?_
              rotate_left
              · (intro w' _; go_simp); try with_reducible rfl
              simp only [Act.put, List.getElem_toArray, List.getElem_cons_zero, List.getElem_cons_succ, List.setIfInBounds_toArray, List.set_cons_zero, List.set_cons_succ]
              refine wpAnyH_take (i := 11) (v := ?_) rfl (by kernel_rfl) (by kernel_rfl) (by kernel_rfl) (fun _ _ _ h => h) (Or.inl ⟨by rfl, ?_⟩) trivial ?_
              rotate_left
              · (intro w' _; go_simp); try with_reducible rfl
              simp only [Act.put, List.getElem_toArray, List.getElem_cons_zero, List.getElem_cons_succ, List.setIfInBounds_toArray, List.set_cons_zero, List.set_cons_succ]
              refine wpAnyH_take (i := 12) (v := ?_) rfl (by kernel_rfl) (by kernel_rfl) (by kernel_rfl) (fun _ _ _ h => h) (Or.inl ⟨by rfl, ?_⟩) trivial ?_
              rotate_left
              · (intro w' _; go_simp); try with_reducible rfl
              simp only [Act.put, List.getElem_toArray, List.getElem_cons_zero, List.getElem_cons_succ, List.setIfInBounds_toArray, List.set_cons_zero, List.set_cons_succ]
              refine wpAnyH_take (i := 13) (v := ?_) rfl (by kernel_rfl) (by kernel_rfl) (by kernel_rfl) (fun _ _ _ h => h) (Or.inl ⟨by rfl, ?_⟩) trivial ?_
              rotate_left
              · (intro w' _; go_simp); try with_reducible rfl
              simp only [Act.put, List.getElem_toArray, List.getElem_cons_zero, List.getElem_cons_succ, List.setIfInBounds_toArray, List.set_cons_zero, List.set_cons_succ]
              refine wpAnyH_take (i := 14) (v := ?_) rfl (by kernel_rfl) (by kernel_rfl) (by kernel_rfl) (fun _ _ _ h => h) (Or.inl ⟨by rfl, ?_⟩) trivial ?_
              rotate_left
              · (intro w' _; go_simp); try with_reducible rfl
              simp only [Act.put, List.getElem_toArray, List.getElem_cons_zero, List.getElem_cons_succ, List.setIfInBounds_toArray, List.set_cons_zero, List.set_cons_succ]
              refine wpAnyH_take (i := 15) (v := ?_) rfl (by kernel_rfl) (by kernel_rfl) (by kernel_rfl) (fun _ _ _ h => h) (Or.inl ⟨by rfl, ?_⟩) trivial ?_
              rotate_left
              · (intro w' _; go_simp); try with_reducible rfl
              simp only [Act.put, List.getElem_toArray, List.getElem_cons_zero, List.getElem_cons_succ, List.setIfInBounds_toArray, List.set_cons_zero, List.set_cons_succ]
              refine wpAnyH_ready (rs := [16]) (by kernel_rfl) (by simp) ?_
              refine AllReadyH.cons rfl (fun K hK => ?_) AllReadyH.nil
              go_simp
              go_wp2_with (first | (go_at_call 28; refine (OwnT.wipe HG.out.1 HG.out.2 K20.out (m : Int)).mono ?_; rintro e w21 ⟨he, k21, hc21⟩; rw [ds_wipe HM.out, if_pos rfl] at he k21; subst he; have K21 := Lib.hid k21; clear k21 hc21))
              refine hK.out _ _ trivial (fun _ => ?_)
              clear hK K
              refine wpAnyH_take (i := 17) (v := ?_) rfl (by kernel_rfl) (by kernel_rfl) (by kernel_rfl) (fun _ _ _ h => h) (Or.inl ⟨by rfl, ?_⟩) trivial ?_
              rotate_left
              · (intro w' _; go_simp); try with_reducible rfl
              simp only [Act.put, List.getElem_toArray, List.getElem_cons_zero, List.getElem_cons_succ, List.setIfInBounds_toArray, List.set_cons_zero, List.set_cons_succ]
              refine wpAnyH_take (i := 18) (v := ?_) rfl (by kernel_rfl) (by kernel_rfl) (by kernel_rfl) (fun _ _ _ h => h) (Or.inl ⟨by rfl, ?_⟩) trivial ?_
              rotate_left
              · (intro w' _; go_simp); try with_reducible rfl
              simp only [Act.put, List.getElem_toArray, List.getElem_cons_zero, List.getElem_cons_succ, List.setIfInBounds_toArray, List.set_cons_zero, List.set_cons_succ]
              refine wpAnyH_take (i := 19) (v := ?_) rfl (by kernel_rfl) (by kernel_rfl) (by kernel_rfl) (fun _ _ _ h => h) (Or.inl ⟨by rfl, ?_⟩) trivial ?_
              rotate_left
              · (intro w' _; go_simp); try with_reducible rfl
              simp only [Act.put, List.getElem_toArray, List.getElem_cons_zero, List.getElem_cons_succ, List.setIfInBounds_toArray, List.set_cons_zero, List.set_cons_succ]
              refine wpAnyH_take (i := 20) (v := ?_) rfl (by kernel_rfl) (by kernel_rfl) (by kernel_rfl) (fun _ _ _ h => h) (Or.inl ⟨by rfl, ?_⟩) trivial ?_
              rotate_left
              · (intro w' _; go_simp); try with_reducible rfl
              simp only [Act.put, List.getElem_toArray, List.getElem_cons_zero, List.getElem_cons_succ, List.setIfInBounds_toArray, List.set_cons_zero, List.set_cons_succ]
              refine wpAnyH_ready (rs := [21]) (by kernel_rfl) (by simp) ?_
              refine AllReadyH.cons rfl (fun K hK => ?_) AllReadyH.nil
              go_simp
              go_wp2_with (first | (go_at_call 27; refine (OwnT.rot HG.out.1 HG.out.2 K21.out (m : Int) 9 1 (by decide)).mono ?_; rintro e w22 ⟨he, k22, hc22⟩; rw [ds_rot HM.out, show ((zero256, true) : List Int × Bool).1 = zero256 from rfl, if_neg (show ¬ rotB zero256 9 1 = zero256 from rot_one nought_ok 9 (by decide)), if_pos rfl] at he k22; subst he; have K22 := Lib.hid k22; clear k22 hc22))
              refine hK.out _ _ trivial (fun _ => ?_)
              clear hK K
              refine wpAnyH_take (i := 22) (v := ?_) rfl (by kernel_rfl) (by kernel_rfl) (by kernel_rfl) (fun _ _ _ h => h) (Or.inl ⟨by rfl, ?_⟩) trivial ?_
              rotate_left
              · (intro w' _; go_simp); try with_reducible rfl
              simp only [Act.put, List.getElem_toArray, List.getElem_cons_zero, List.getElem_cons_succ, List.setIfInBounds_toArray, List.set_cons_zero, List.set_cons_succ]
              refine wpAnyH_take (i := 23) (v := ?_) rfl (by kernel_rfl) (by kernel_rfl) (by kernel_rfl) (fun _ _ _ h => h) (Or.inl ⟨by rfl, ?_⟩) trivial ?_
              rotate_left
              · (intro w' _; go_simp); try with_reducible rfl
              simp only [Act.put, List.getElem_toArray, List.getElem_cons_zero, List.getElem_cons_succ, List.setIfInBounds_toArray, List.set_cons_zero, List.set_cons_succ]
              refine wpAnyH_take (i := 24) (v := ?_) rfl (by kernel_rfl) (by kernel_rfl) (by kernel_rfl) (fun _ _ _ h => h) (Or.inl ⟨by rfl, ?_⟩) trivial ?_
              rotate_left
              · (intro w' _; go_simp); try with_reducible rfl
              simp only [Act.put, List.getElem_toArray, List.getElem_cons_zero, List.getElem_cons_succ, List.setIfInBounds_toArray, List.set_cons_zero, List.set_cons_succ]
              refine wpAnyH_take (i := 25) (v := ?_) rfl (by kernel_rfl) (by kernel_rfl) (by kernel_rfl) (fun _ _ _ h => h) (Or.inl ⟨by rfl, ?_⟩) trivial ?_
              rotate_left
              · (intro w' _; go_simp); try with_reducible rfl
              simp only [Act.put, List.getElem_toArray, List.getElem_cons_zero, List.getElem_cons_succ, List.setIfInBounds_toArray, List.set_cons_zero, List.set_cons_succ]
              refine wpAnyH_take (i := 26) (v := ?_) rfl (by kernel_rfl) (by kernel_rfl) (by kernel_rfl) (fun _ _ _ h => h) (Or.inl ⟨by rfl, ?_⟩) trivial ?_
              rotate_left
              · (intro w' _; go_simp); try with_reducible rfl
              simp only [Act.put, List.getElem_toArray, List.getElem_cons_zero, List.getElem_cons_succ, List.setIfInBounds_toArray, List.set_cons_zero, List.set_cons_succ]
              refine wpAnyH_done (by kernel_rfl) ?_ _
              go_wp2_with fail
              go_ret
              exact ⟨rfl, K22.out.below⟩
        · rw [if_neg hRS, if_neg Bool.false_ne_true] at HR
          have HRS := Lib.hid hRS
          clear hRS hRe
          refine HR.out.mono ?_
          rintro e w6 ⟨rfl, k6, hc6⟩
          have K6 : Hid (∃ T6, OwnT w w6 T6 h (DS B m (R, true) 2) ∧ Held w6 T6 v1 S) := Lib.hid ⟨_, k6, K5'.out.2.step hc6⟩
          clear k6 hc6 HR
          obtain ⟨T6, hk6⟩ := K6.out
          have K6' := Lib.hid hk6
          clear hk6 K6
          go_wp2_with fail
          refine (OwnT.storedD K6'.out.1 HM.out).mono ?_
          rintro e w7 ⟨v2, rfl, hv2, hb7, k7⟩
          have K7 := Lib.hid (And.intro k7 (And.intro (K6'.out.2.on hb7) hv2))
          clear hv2 hb7 k7 K6'
          go_wp2_with fail
          refine (K7.out.2.1.same K7.out.2.2 (by rw [HSl.out]; decide)).mono ?_
          rintro e w8 ⟨rfl, n8, hw8⟩
          have K8 : Hid (OwnT w w8 T6 h (DS B m (R, true) 2) ∧ Held w8 T6 v1 S) := Lib.hid (by rw [hw8]; exact ⟨K7.out.1.drewN n8, K7.out.2.1⟩)
          have hsb : sameB S (R, true).1 = false := decide_eq_false (fun e => HRS.out e.symm)
          rw [hsb]
          clear hw8 hsb K7
          go_wp2_with fail
          refine (OwnT.rot HG.out.1 HG.out.2 K8.out.1 (m : Int) 0 1 (by decide)).mono ?_
          rintro e w9 ⟨he, k9, hc9⟩
          rw [ds_rot HM.out, show ((R, true) : List Int × Bool).1 = R from rfl, if_neg (show ¬ rotB R 0 1 = R from rot_one HRok.out 0 (by decide)), if_pos rfl] at he k9
          subst he
          have K9 : Hid (∃ T9, OwnT w w9 T9 h (DS B m (R, true) 2) ∧ Held w9 T9 v1 S) := Lib.hid ⟨_, k9, K8.out.2.step hc9⟩
          clear k9 hc9 K8
          obtain ⟨T9, hk9⟩ := K9.out
          have K9' := Lib.hid hk9
          clear hk9 K9
          go_wp2_with fail
          refine (OwnT.rot HG.out.1 HG.out.2 K9'.out.1 (m : Int) bit mask hmask).mono ?_
          rintro e w10 ⟨he, k10, hc10⟩
          rw [ds_rot HM.out, show ((R, true) : List Int × Bool).1 = R from rfl, HRR.out, if_neg (fun e => HRS.out e.symm), if_pos rfl] at he k10
          subst he
          have K10 : Hid (∃ T6, OwnT w w10 T6 h (DS B m (R, true) 2) ∧ Held w10 T6 v1 S) := Lib.hid ⟨_, k10, K9'.out.2.step hc10⟩
          clear k10 hc10 K9'
          obtain ⟨T10, hk10⟩ := K10.out
          have K8 := Lib.hid hk10
          clear hk10 K10
          go_wp2_with fail
          have hfd := statField
          refine (OwnT.stat K8.out.1).mono ?_
          rintro e w11 ⟨rfl, hb11, k11⟩
          rw [ds_statV HM.out]
          have K11 := Lib.hid (And.intro k11 (K8.out.2.on hb11))
          clear hb11 k11 K8
          go_wp2_with fail
          obtain ⟨A1, hv1, hA1, hn1⟩ := K11.out.2
          subst hv1
          have HA1 := Lib.hid (And.intro hA1 hn1)
          clear hA1 hn1
          refine (OwnT.writeD HG.out.1 K11.out.1 (by decide) HM.out A1 S S.length HA1.out.1 (fun _ a e => (HA1.out.2 a e).1) (by rw [HSl.out]; decide)).mono ?_
          rintro e w12 ⟨rfl, k12, hc12⟩
          rw [pad_full HSl.out] at k12
          have K12 := Lib.hid (And.intro k12 (K11.out.2.step hc12))
          clear k12 hc12 K11 HA1
          go_wp2_with fail
          refine (OwnT.syncD HG.out.1 K12.out.1 (by decide) HM.out HRok.out HP.out).mono ?_
          rintro e w13 ⟨rfl, k13, hc13⟩
          have K13 : Hid (∃ T13, OwnT w w13 T13 h (DS B m (S, false) 4) ∧ Held w13 T13 (.slice A1 S.length S.length) S) := Lib.hid ⟨_, k13, K12.out.2.step hc13⟩
          clear k13 hc13 K12
          obtain ⟨T13, hk13⟩ := K13.out
          have K13' := Lib.hid hk13
          clear hk13 K13
          go_wp2_with fail
          refine (OwnT.stat K13'.out.1).mono ?_
          rintro e w14 ⟨rfl, hb14, k14⟩
          rw [ds_statV HM.out]
          have K14 := Lib.hid (And.intro k14 (K13'.out.2.on hb14))
          clear hb14 k14 K13'
          go_wp2_with fail
          refine (OwnT.storedD K14.out.1 HM.out).mono ?_
          rintro e w15 ⟨v3, rfl, hv3, hb15, k15⟩
          have K15 := Lib.hid (And.intro k15 (And.intro (K14.out.2.on hb15) hv3))
          clear hv3 hb15 k15 K14
          go_wp2_with fail
          refine (K15.out.2.2.same K15.out.2.1 (by rw [HSl.out]; decide)).mono ?_
          rintro e w16 ⟨rfl, n16, hw16⟩
          rw [show sameB ((S, false) : List Int × Bool).1 S = true from decide_eq_true rfl]
          have K16 : Hid (OwnT w w16 T13 h (DS B m (S, false) 4) ∧ Held w16 T13 (.slice A1 S.length S.length) S) := Lib.hid (by rw [hw16]; exact ⟨K15.out.1.drewN n16, K15.out.2.1⟩)
          clear hw16 K15
          go_wp2_with fail
          have HWp := Lib.hid (OwnT.wipe HG.out.1 HG.out.2 K16.out.1 (m : Int))
          rw [ds_wipe HM.out, show ((S, false) : List Int × Bool).1 = S from rfl, show ((S, false) : List Int × Bool).2 = false from rfl] at HWp
          have hmk := made256
          by_cases hZ : zero256 = S
          · rw [if_pos hZ] at HWp
            have HZ := Lib.hid hZ
            clear hZ
            refine HWp.out.mono ?_
            rintro e w17 ⟨rfl, k17, hc17⟩
            have K17 : Hid (∃ T17, OwnT w w17 T17 h (DS B m (S, false) 4) ∧ Held w17 T17 (.slice A1 S.length S.length) S) := Lib.hid ⟨_, k17, K16.out.2.step hc17⟩
            clear k17 hc17 K16 HWp
            obtain ⟨T17, hk17⟩ := K17.out
            have K17' := Lib.hid hk17
            clear hk17 K17
            go_wp2_with fail
            refine ((K17'.out.2.on (below_new w17 _)).sameZ (by rw [HSl.out]; decide) (bytesAt_lit w17 zero256 zero256_ok)).mono ?_
            rintro e w18 ⟨rfl, n18, hw18⟩
            rw [show sameB S zero256 = true from decide_eq_true HZ.out.symm]
            have K18 : Hid (OwnT w w18 T17 h (DS B m (S, false) 4)) := Lib.hid (by rw [hw18]; exact (K17'.out.1.on (below_new w17 _)).drewN n18)
            clear hw18 K17'
            go_wp2_with fail
            have hyl : ((S, false) : List Int × Bool).1.length ≤ 9223372036854775807 := by show (S : List Int).length ≤ _; rw [HSl.out]; decide
            have hy : sameB ((S, false) : List Int × Bool).1 zero256 = true := decide_eq_true HZ.out.symm
            have Hst : Hid (∀ w', Below w18.heap.size w18 w' → Calls Tryd.prog 20 #[.pointer (some ⟨h, 0, none⟩), .int .i64 (m : Int)] w' fun e w2 => ∃ v, e = .returned v ∧ Held w2 T17 v ((S, false) : List Int × Bool).1 ∧ Below w'.heap.size w' w2 ∧ OwnT w w2 T17 h (DS B m (S, false) 4)) := Lib.hid (fun w' hb => OwnT.storedD (K18.out.on hb) HM.out)
            have b1 : Hid (Below w18.heap.size w18 w18.drew) := Lib.hid (Below.refl _ _).drew
            have b2 : Hid (Below w18.heap.size w18 (w18.drew.alloc (.cells (u8s zero256).toArray 5))) := Lib.hid ((Below.refl _ _).drew.trans (below_new w18.drew _))
            refine wp_region_held_drew (S := fun _ => True) (by kernel_rfl) trivial (fun _ => ?_)
            refine wpAnyH_take (i := 0) (v := ?_) rfl (by kernel_rfl) (by kernel_rfl) (by kernel_rfl) (fun _ _ _ h => h) (Or.inl ⟨by rfl, ?_⟩) trivial ?_
            rotate_left
            · (intro w' _; go_simp); try with_reducible rfl
            simp only [Act.put, List.getElem_toArray, List.getElem_cons_zero, List.setIfInBounds_toArray, List.set_cons_zero, List.set_cons_succ]
            refine wpAnyH_take (i := 1) (v := ?_) rfl (by kernel_rfl) (by kernel_rfl) (by kernel_rfl) (fun _ _ _ h => h) (Or.inl ⟨by rfl, ?_⟩) trivial ?_
            rotate_left
            · (intro w' _; go_simp); try with_reducible rfl
            simp only [Act.put, List.getElem_toArray, List.getElem_cons_zero, List.getElem_cons_succ, List.setIfInBounds_toArray, List.set_cons_zero, List.set_cons_succ]
            refine wpAnyH_take (i := 2) (v := ?_) rfl (by kernel_rfl) (by kernel_rfl) (by kernel_rfl) (fun _ _ _ h => h) (Or.inl ⟨by rfl, ?_⟩) trivial ?_
            rotate_left
            · (intro w' _; go_simp); try with_reducible rfl
            simp only [Act.put, List.getElem_toArray, List.getElem_cons_zero, List.getElem_cons_succ, List.setIfInBounds_toArray, List.set_cons_zero, List.set_cons_succ]
            refine wpAnyH_take (i := 3) (v := ?_) rfl (by kernel_rfl) (by kernel_rfl) (by kernel_rfl) (fun _ _ _ h => h) (Or.inl ⟨by rfl, ?_⟩) trivial ?_
            rotate_left
            · (intro w' _; go_simp); try with_reducible rfl
            simp only [Act.put, List.getElem_toArray, List.getElem_cons_zero, List.getElem_cons_succ, List.setIfInBounds_toArray, List.set_cons_zero, List.set_cons_succ]
            refine wpAnyH_take (i := 4) (v := ?_) rfl (by kernel_rfl) (by kernel_rfl) (by kernel_rfl) (fun _ _ _ h => h) (Or.inl ⟨by rfl, ?_⟩) trivial ?_
            rotate_left
            · (intro w' _; go_simp); try with_reducible rfl
            simp only [Act.put, List.getElem_toArray, List.getElem_cons_zero, List.getElem_cons_succ, List.setIfInBounds_toArray, List.set_cons_zero, List.set_cons_succ]
            refine wpAnyH_take (i := 5) (v := ?_) rfl (by kernel_rfl) (by kernel_rfl) (by kernel_rfl) (fun _ _ _ h => h) (Or.inl ⟨by rfl, ?_⟩) trivial ?_
            rotate_left
            · (intro w' _; go_simp); try with_reducible rfl
            simp only [Act.put, List.getElem_toArray, List.getElem_cons_zero, List.getElem_cons_succ, List.setIfInBounds_toArray, List.set_cons_zero, List.set_cons_succ]
            refine wpAnyH_take (i := 6) (v := ?_) rfl (by kernel_rfl) (by kernel_rfl) (by kernel_rfl) (fun _ _ _ h => h) (Or.inl ⟨by rfl, ?_⟩) trivial ?_
            rotate_left
            · (intro w' _; go_simp); try with_reducible rfl
            simp only [Act.put, List.getElem_toArray, List.getElem_cons_zero, List.getElem_cons_succ, List.setIfInBounds_toArray, List.set_cons_zero, List.set_cons_succ]
            refine wpAnyH_ready (rs := [7, 8]) (by kernel_rfl) (by simp) ?_
            refine AllReadyH.cons rfl (fun K hK => ?_) (AllReadyH.cons rfl (fun K hK => ?_) AllReadyH.nil)
            · go_simp
              go_wp2_with (first | (go_at_call 20; refine (Hst.out _ b1.out).mono ?_; rintro e w19 ⟨v4, rfl, hv4, hb19, k19⟩; have HV4 := Lib.hid (And.intro hv4 (And.intro hb19 k19)); clear hv4 hb19 k19))
              refine hK.out _ _ trivial (fun _ => ?_)
              clear hK K
              refine wpAnyH_ready (rs := [8]) (by kernel_rfl) (by simp) ?_
              refine AllReadyH.cons rfl (fun K hK => ?_) AllReadyH.nil
              go_simp
              refine hK.out _ _ trivial (fun _ => ?_)
              clear hK K
              refine wpAnyH_ready (rs := [9]) (by kernel_rfl) (by simp) ?_
              refine AllReadyH.cons rfl (fun K hK => ?_) AllReadyH.nil
              go_simp
              go_wp2_with (first | (go_at_call 24; refine ((HV4.out.1.on (below_new w19 _)).sameZ hyl (bytesAt_lit w19 zero256 zero256_ok)).mono ?_; rintro e w20 ⟨rfl, n20, hw20⟩; rw [hy]; have K20 : Hid (OwnT w w20 T17 h (DS B m (S, false) 4)) := Lib.hid (by rw [hw20]; exact (HV4.out.2.2.on (below_new w19 _)).drewN n20); clear hw20))
              refine hK.out _ _ trivial (fun _ => ?_)
              clear hK K
              refine wpAnyH_take (i := 10) (v := ?_) rfl (by kernel_rfl) (by kernel_rfl) (by kernel_rfl) (fun _ _ _ h => h) (Or.inl ⟨by rfl, ?_⟩) trivial ?_
              rotate_left
              · (intro w' _; go_simp); try with_reducible rfl
              simp only [Act.put, List.getElem_toArray, List.getElem_cons_zero, List.getElem_cons_succ, List.setIfInBounds_toArray, List.set_cons_zero, List.set_cons_succ]
              refine wpAnyH_take (i := 11) (v := ?_) rfl (by kernel_rfl) (by kernel_rfl) (by kernel_rfl) (fun _ _ _ h => h) (Or.inl ⟨by rfl, ?_⟩) trivial ?_
              rotate_left
              · (intro w' _; go_simp); try with_reducible rfl
              simp only [Act.put, List.getElem_toArray, List.getElem_cons_zero, List.getElem_cons_succ, List.setIfInBounds_toArray, List.set_cons_zero, List.set_cons_succ]
              refine wpAnyH_take (i := 12) (v := ?_) rfl (by kernel_rfl) (by kernel_rfl) (by kernel_rfl) (fun _ _ _ h => h) (Or.inl ⟨by rfl, ?_⟩) trivial ?_
              rotate_left
              · (intro w' _; go_simp); try with_reducible rfl
              simp only [Act.put, List.getElem_toArray, List.getElem_cons_zero, List.getElem_cons_succ, List.setIfInBounds_toArray, List.set_cons_zero, List.set_cons_succ]
              refine wpAnyH_take (i := 13) (v := ?_) rfl (by kernel_rfl) (by kernel_rfl) (by kernel_rfl) (fun _ _ _ h => h) (Or.inl ⟨by rfl, ?_⟩) trivial ?_
              rotate_left
              · (intro w' _; go_simp); try with_reducible rfl
              simp only [Act.put, List.getElem_toArray, List.getElem_cons_zero, List.getElem_cons_succ, List.setIfInBounds_toArray, List.set_cons_zero, List.set_cons_succ]
              refine wpAnyH_take (i := 14) rfl (by kernel_rfl) (by kernel_rfl) (by kernel_rfl) (fun _ _ _ h => h) (Or.inr ⟨by rfl, rfl⟩) trivial ?_
              simp only [Act.put, List.getElem_toArray, List.getElem_cons_zero, List.getElem_cons_succ, List.setIfInBounds_toArray, List.set_cons_zero, List.set_cons_succ]
              refine wpAnyH_take (i := 15) rfl (by kernel_rfl) (by kernel_rfl) (by kernel_rfl) (fun _ _ _ h => h) (Or.inr ⟨by rfl, rfl⟩) trivial ?_
              simp only [Act.put, List.getElem_toArray, List.getElem_cons_zero, List.getElem_cons_succ, List.setIfInBounds_toArray, List.set_cons_zero, List.set_cons_succ]
              refine wpAnyH_ready (rs := [16]) (by kernel_rfl) (by simp) ?_
              refine AllReadyH.cons rfl (fun K hK => ?_) AllReadyH.nil
              rw [if_neg (by rw [show Region.wanted _ _ = false from rfl]; exact Bool.false_ne_true)]
              refine hK.out _ _ trivial (fun _ => ?_)
              clear hK K
              simp only [Act.put, List.getElem_toArray, List.getElem_cons_zero, List.getElem_cons_succ, List.setIfInBounds_toArray, List.set_cons_zero, List.set_cons_succ]
              refine wpAnyH_take (i := 17) rfl (by kernel_rfl) (by kernel_rfl) (by kernel_rfl) (fun _ _ _ h => h) (Or.inr ⟨by rfl, rfl⟩) trivial ?_
              simp only [Act.put, List.getElem_toArray, List.getElem_cons_zero, List.getElem_cons_succ, List.setIfInBounds_toArray, List.set_cons_zero, List.set_cons_succ]
              refine wpAnyH_take (i := 18) rfl (by kernel_rfl) (by kernel_rfl) (by kernel_rfl) (fun _ _ _ h => h) (Or.inr ⟨by rfl, rfl⟩) trivial ?_
              simp only [Act.put, List.getElem_toArray, List.getElem_cons_zero, List.getElem_cons_succ, List.setIfInBounds_toArray, List.set_cons_zero, List.set_cons_succ]
              refine wpAnyH_take (i := 19) rfl (by kernel_rfl) (by kernel_rfl) (by kernel_rfl) (fun _ _ _ h => h) (Or.inr ⟨by rfl, rfl⟩) trivial ?_
              simp only [Act.put, List.getElem_toArray, List.getElem_cons_zero, List.getElem_cons_succ, List.setIfInBounds_toArray, List.set_cons_zero, List.set_cons_succ]
              refine wpAnyH_take (i := 20) rfl (by kernel_rfl) (by kernel_rfl) (by kernel_rfl) (fun _ _ _ h => h) (Or.inr ⟨by rfl, rfl⟩) trivial ?_
              simp only [Act.put, List.getElem_toArray, List.getElem_cons_zero, List.getElem_cons_succ, List.setIfInBounds_toArray, List.set_cons_zero, List.set_cons_succ]
              refine wpAnyH_ready (rs := [21]) (by kernel_rfl) (by simp) ?_
              refine AllReadyH.cons rfl (fun K hK => ?_) AllReadyH.nil
              rw [if_neg (by rw [show Region.wanted _ _ = false from rfl]; exact Bool.false_ne_true)]
              refine hK.out _ _ trivial (fun _ => ?_)
              clear hK K
              simp only [Act.put, List.getElem_toArray, List.getElem_cons_zero, List.getElem_cons_succ, List.setIfInBounds_toArray, List.set_cons_zero, List.set_cons_succ]
              refine wpAnyH_take (i := 22) rfl (by kernel_rfl) (by kernel_rfl) (by kernel_rfl) (fun _ _ _ h => h) (Or.inr ⟨by rfl, rfl⟩) trivial ?_
              simp only [Act.put, List.getElem_toArray, List.getElem_cons_zero, List.getElem_cons_succ, List.setIfInBounds_toArray, List.set_cons_zero, List.set_cons_succ]
              refine wpAnyH_take (i := 23) rfl (by kernel_rfl) (by kernel_rfl) (by kernel_rfl) (fun _ _ _ h => h) (Or.inr ⟨by rfl, rfl⟩) trivial ?_
              simp only [Act.put, List.getElem_toArray, List.getElem_cons_zero, List.getElem_cons_succ, List.setIfInBounds_toArray, List.set_cons_zero, List.set_cons_succ]
              refine wpAnyH_take (i := 24) (v := ?_) rfl (by kernel_rfl) (by kernel_rfl) (by kernel_rfl) (fun _ _ _ h => h) (Or.inl ⟨by rfl, ?_⟩) trivial ?_
              rotate_left
              · (intro w' _; go_simp); try with_reducible rfl
              simp only [Act.put, List.getElem_toArray, List.getElem_cons_zero, List.getElem_cons_succ, List.setIfInBounds_toArray, List.set_cons_zero, List.set_cons_succ]
              refine wpAnyH_take (i := 25) (v := ?_) rfl (by kernel_rfl) (by kernel_rfl) (by kernel_rfl) (fun _ _ _ h => h) (Or.inl ⟨by rfl, ?_⟩) trivial ?_
              rotate_left
              · (intro w' _; go_simp); try with_reducible rfl
              simp only [Act.put, List.getElem_toArray, List.getElem_cons_zero, List.getElem_cons_succ, List.setIfInBounds_toArray, List.set_cons_zero, List.set_cons_succ]
              refine wpAnyH_take (i := 26) (v := ?_) rfl (by kernel_rfl) (by kernel_rfl) (by kernel_rfl) (fun _ _ _ h => h) (Or.inl ⟨by rfl, ?_⟩) trivial ?_
              rotate_left
              · (intro w' _; go_simp); try with_reducible rfl
              simp only [Act.put, List.getElem_toArray, List.getElem_cons_zero, List.getElem_cons_succ, List.setIfInBounds_toArray, List.set_cons_zero, List.set_cons_succ]
              refine wpAnyH_done (by kernel_rfl) ?_ _
              go_wp2_with fail
              go_ret
              exact ⟨rfl, K20.out.below⟩
            · go_simp
              refine hK.out _ _ trivial (fun _ => ?_)
              clear hK K
              refine wpAnyH_ready (rs := [7]) (by kernel_rfl) (by simp) ?_
              refine AllReadyH.cons rfl (fun K hK => ?_) AllReadyH.nil
              go_simp
              go_wp2_with (first | (go_at_call 20; refine (Hst.out _ b2.out).mono ?_; rintro e w19 ⟨v4, rfl, hv4, hb19, k19⟩; have HV4 := Lib.hid (And.intro hv4 (And.intro hb19 k19)); clear hv4 hb19 k19))
              refine hK.out _ _ trivial (fun _ => ?_)
              clear hK K
              refine wpAnyH_ready (rs := [9]) (by kernel_rfl) (by simp) ?_
              refine AllReadyH.cons rfl (fun K hK => ?_) AllReadyH.nil
              go_simp
              go_wp2_with (first | (go_at_call 24; refine (HV4.out.1.sameZ hyl ((bytesAt_lit w18.drew zero256 zero256_ok).below HV4.out.2.1)).mono ?_; rintro e w20 ⟨rfl, n20, hw20⟩; rw [hy]; have K20 : Hid (OwnT w w20 T17 h (DS B m (S, false) 4)) := Lib.hid (by rw [hw20]; exact HV4.out.2.2.drewN n20); clear hw20))
              refine hK.out _ _ trivial (fun _ => ?_)
              clear hK K
              refine wpAnyH_take (i := 10) (v := ?_) rfl (by kernel_rfl) (by kernel_rfl) (by kernel_rfl) (fun _ _ _ h => h) (Or.inl ⟨by rfl, ?_⟩) trivial ?_
              rotate_left
              · (intro w' _; go_simp); try with_reducible rfl
              simp only [Act.put, List.getElem_toArray, List.getElem_cons_zero, List.getElem_cons_succ, List.setIfInBounds_toArray, List.set_cons_zero, List.set_cons_succ]
              refine wpAnyH_take (i := 11) (v := ?_) rfl (by kernel_rfl) (by kernel_rfl) (by kernel_rfl) (fun _ _ _ h => h) (Or.inl ⟨by rfl, ?_⟩) trivial ?_
              rotate_left
              · (intro w' _; go_simp); try with_reducible rfl
              simp only [Act.put, List.getElem_toArray, List.getElem_cons_zero, List.getElem_cons_succ, List.setIfInBounds_toArray, List.set_cons_zero, List.set_cons_succ]
              refine wpAnyH_take (i := 12) (v := ?_) rfl (by kernel_rfl) (by kernel_rfl) (by kernel_rfl) (fun _ _ _ h => h) (Or.inl ⟨by rfl, ?_⟩) trivial ?_
              rotate_left
              · (intro w' _; go_simp); try with_reducible rfl
              simp only [Act.put, List.getElem_toArray, List.getElem_cons_zero, List.getElem_cons_succ, List.setIfInBounds_toArray, List.set_cons_zero, List.set_cons_succ]
              refine wpAnyH_take (i := 13) (v := ?_) rfl (by kernel_rfl) (by kernel_rfl) (by kernel_rfl) (fun _ _ _ h => h) (Or.inl ⟨by rfl, ?_⟩) trivial ?_
              rotate_left
              · (intro w' _; go_simp); try with_reducible rfl
              simp only [Act.put, List.getElem_toArray, List.getElem_cons_zero, List.getElem_cons_succ, List.setIfInBounds_toArray, List.set_cons_zero, List.set_cons_succ]
              refine wpAnyH_take (i := 14) rfl (by kernel_rfl) (by kernel_rfl) (by kernel_rfl) (fun _ _ _ h => h) (Or.inr ⟨by rfl, rfl⟩) trivial ?_
              simp only [Act.put, List.getElem_toArray, List.getElem_cons_zero, List.getElem_cons_succ, List.setIfInBounds_toArray, List.set_cons_zero, List.set_cons_succ]
              refine wpAnyH_take (i := 15) rfl (by kernel_rfl) (by kernel_rfl) (by kernel_rfl) (fun _ _ _ h => h) (Or.inr ⟨by rfl, rfl⟩) trivial ?_
              simp only [Act.put, List.getElem_toArray, List.getElem_cons_zero, List.getElem_cons_succ, List.setIfInBounds_toArray, List.set_cons_zero, List.set_cons_succ]
              refine wpAnyH_ready (rs := [16]) (by kernel_rfl) (by simp) ?_
              refine AllReadyH.cons rfl (fun K hK => ?_) AllReadyH.nil
              rw [if_neg (by rw [show Region.wanted _ _ = false from rfl]; exact Bool.false_ne_true)]
              refine hK.out _ _ trivial (fun _ => ?_)
              clear hK K
              simp only [Act.put, List.getElem_toArray, List.getElem_cons_zero, List.getElem_cons_succ, List.setIfInBounds_toArray, List.set_cons_zero, List.set_cons_succ]
              refine wpAnyH_take (i := 17) rfl (by kernel_rfl) (by kernel_rfl) (by kernel_rfl) (fun _ _ _ h => h) (Or.inr ⟨by rfl, rfl⟩) trivial ?_
              simp only [Act.put, List.getElem_toArray, List.getElem_cons_zero, List.getElem_cons_succ, List.setIfInBounds_toArray, List.set_cons_zero, List.set_cons_succ]
              refine wpAnyH_take (i := 18) rfl (by kernel_rfl) (by kernel_rfl) (by kernel_rfl) (fun _ _ _ h => h) (Or.inr ⟨by rfl, rfl⟩) trivial ?_
              simp only [Act.put, List.getElem_toArray, List.getElem_cons_zero, List.getElem_cons_succ, List.setIfInBounds_toArray, List.set_cons_zero, List.set_cons_succ]
              refine wpAnyH_take (i := 19) rfl (by kernel_rfl) (by kernel_rfl) (by kernel_rfl) (fun _ _ _ h => h) (Or.inr ⟨by rfl, rfl⟩) trivial ?_
              simp only [Act.put, List.getElem_toArray, List.getElem_cons_zero, List.getElem_cons_succ, List.setIfInBounds_toArray, List.set_cons_zero, List.set_cons_succ]
              refine wpAnyH_take (i := 20) rfl (by kernel_rfl) (by kernel_rfl) (by kernel_rfl) (fun _ _ _ h => h) (Or.inr ⟨by rfl, rfl⟩) trivial ?_
              simp only [Act.put, List.getElem_toArray, List.getElem_cons_zero, List.getElem_cons_succ, List.setIfInBounds_toArray, List.set_cons_zero, List.set_cons_succ]
              refine wpAnyH_ready (rs := [21]) (by kernel_rfl) (by simp) ?_
              refine AllReadyH.cons rfl (fun K hK => ?_) AllReadyH.nil
              rw [if_neg (by rw [show Region.wanted _ _ = false from rfl]; exact Bool.false_ne_true)]
              refine hK.out _ _ trivial (fun _ => ?_)
              clear hK K
              simp only [Act.put, List.getElem_toArray, List.getElem_cons_zero, List.getElem_cons_succ, List.setIfInBounds_toArray, List.set_cons_zero, List.set_cons_succ]
              refine wpAnyH_take (i := 22) rfl (by kernel_rfl) (by kernel_rfl) (by kernel_rfl) (fun _ _ _ h => h) (Or.inr ⟨by rfl, rfl⟩) trivial ?_
              simp only [Act.put, List.getElem_toArray, List.getElem_cons_zero, List.getElem_cons_succ, List.setIfInBounds_toArray, List.set_cons_zero, List.set_cons_succ]
              refine wpAnyH_take (i := 23) rfl (by kernel_rfl) (by kernel_rfl) (by kernel_rfl) (fun _ _ _ h => h) (Or.inr ⟨by rfl, rfl⟩) trivial ?_
              simp only [Act.put, List.getElem_toArray, List.getElem_cons_zero, List.getElem_cons_succ, List.setIfInBounds_toArray, List.set_cons_zero, List.set_cons_succ]
              refine wpAnyH_take (i := 24) (v := ?_) rfl (by kernel_rfl) (by kernel_rfl) (by kernel_rfl) (fun _ _ _ h => h) (Or.inl ⟨by rfl, ?_⟩) trivial ?_
              rotate_left
              · (intro w' _; go_simp); try with_reducible rfl
              simp only [Act.put, List.getElem_toArray, List.getElem_cons_zero, List.getElem_cons_succ, List.setIfInBounds_toArray, List.set_cons_zero, List.set_cons_succ]
              refine wpAnyH_take (i := 25) (v := ?_) rfl (by kernel_rfl) (by kernel_rfl) (by kernel_rfl) (fun _ _ _ h => h) (Or.inl ⟨by rfl, ?_⟩) trivial ?_
              rotate_left
              · (intro w' _; go_simp); try with_reducible rfl
              simp only [Act.put, List.getElem_toArray, List.getElem_cons_zero, List.getElem_cons_succ, List.setIfInBounds_toArray, List.set_cons_zero, List.set_cons_succ]
              refine wpAnyH_take (i := 26) (v := ?_) rfl (by kernel_rfl) (by kernel_rfl) (by kernel_rfl) (fun _ _ _ h => h) (Or.inl ⟨by rfl, ?_⟩) trivial ?_
              rotate_left
              · (intro w' _; go_simp); try with_reducible rfl
              simp only [Act.put, List.getElem_toArray, List.getElem_cons_zero, List.getElem_cons_succ, List.setIfInBounds_toArray, List.set_cons_zero, List.set_cons_succ]
              refine wpAnyH_done (by kernel_rfl) ?_ _
              go_wp2_with fail
              go_ret
              exact ⟨rfl, K20.out.below⟩
          · rw [if_neg hZ, if_neg Bool.false_ne_true] at HWp
            have HZ := Lib.hid hZ
            clear hZ
            refine HWp.out.mono ?_
            rintro e w17 ⟨rfl, k17, hc17⟩
            have K17 : Hid (∃ T17, OwnT w w17 T17 h (DS B m (zero256, true) 4) ∧ Held w17 T17 (.slice A1 S.length S.length) S) := Lib.hid ⟨_, k17, K16.out.2.step hc17⟩
            clear k17 hc17 K16 HWp
            obtain ⟨T17, hk17⟩ := K17.out
            have K17' := Lib.hid hk17
            clear hk17 K17
            go_wp2_with fail
            refine ((K17'.out.2.on (below_new w17 _)).sameZ (by rw [HSl.out]; decide) (bytesAt_lit w17 zero256 zero256_ok)).mono ?_
            rintro e w18 ⟨rfl, n18, hw18⟩
            rw [show sameB S zero256 = false from decide_eq_false (fun e => HZ.out e.symm)]
            have K18 : Hid (OwnT w w18 T17 h (DS B m (zero256, true) 4)) := Lib.hid (by rw [hw18]; exact (K17'.out.1.on (below_new w17 _)).drewN n18)
            clear hw18 K17'
            go_wp2_with fail
            have hyl : ((zero256, true) : List Int × Bool).1.length ≤ 9223372036854775807 := by show (zero256 : List Int).length ≤ _; rw [zero256_len]; decide
            have hy : sameB ((zero256, true) : List Int × Bool).1 zero256 = true := decide_eq_true rfl
            have Hst : Hid (∀ w', Below w18.heap.size w18 w' → Calls Tryd.prog 20 #[.pointer (some ⟨h, 0, none⟩), .int .i64 (m : Int)] w' fun e w2 => ∃ v, e = .returned v ∧ Held w2 T17 v ((zero256, true) : List Int × Bool).1 ∧ Below w'.heap.size w' w2 ∧ OwnT w w2 T17 h (DS B m (zero256, true) 4)) := Lib.hid (fun w' hb => OwnT.storedD (K18.out.on hb) HM.out)
            have b1 : Hid (Below w18.heap.size w18 w18.drew) := Lib.hid (Below.refl _ _).drew
            have b2 : Hid (Below w18.heap.size w18 (w18.drew.alloc (.cells (u8s zero256).toArray 5))) := Lib.hid ((Below.refl _ _).drew.trans (below_new w18.drew _))
            refine wp_region_held_drew (S := fun _ => True) (by kernel_rfl) trivial (fun _ => ?_)
            refine wpAnyH_take (i := 0) (v := ?_) rfl (by kernel_rfl) (by kernel_rfl) (by kernel_rfl) (fun _ _ _ h => h) (Or.inl ⟨by rfl, ?_⟩) trivial ?_
            rotate_left
            · (intro w' _; go_simp); try with_reducible rfl
            simp only [Act.put, List.getElem_toArray, List.getElem_cons_zero, List.setIfInBounds_toArray, List.set_cons_zero, List.set_cons_succ]
            refine wpAnyH_take (i := 1) (v := ?_) rfl (by kernel_rfl) (by kernel_rfl) (by kernel_rfl) (fun _ _ _ h => h) (Or.inl ⟨by rfl, ?_⟩) trivial ?_
            rotate_left
            · (intro w' _; go_simp); try with_reducible rfl
            simp only [Act.put, List.getElem_toArray, List.getElem_cons_zero, List.getElem_cons_succ, List.setIfInBounds_toArray, List.set_cons_zero, List.set_cons_succ]
            refine wpAnyH_take (i := 2) (v := ?_) rfl (by kernel_rfl) (by kernel_rfl) (by kernel_rfl) (fun _ _ _ h => h) (Or.inl ⟨by rfl, ?_⟩) trivial ?_
            rotate_left
            · (intro w' _; go_simp); try with_reducible rfl
            simp only [Act.put, List.getElem_toArray, List.getElem_cons_zero, List.getElem_cons_succ, List.setIfInBounds_toArray, List.set_cons_zero, List.set_cons_succ]
            refine wpAnyH_take (i := 3) (v := ?_) rfl (by kernel_rfl) (by kernel_rfl) (by kernel_rfl) (fun _ _ _ h => h) (Or.inl ⟨by rfl, ?_⟩) trivial ?_
            rotate_left
            · (intro w' _; go_simp); try with_reducible rfl
            simp only [Act.put, List.getElem_toArray, List.getElem_cons_zero, List.getElem_cons_succ, List.setIfInBounds_toArray, List.set_cons_zero, List.set_cons_succ]
            refine wpAnyH_take (i := 4) (v := ?_) rfl (by kernel_rfl) (by kernel_rfl) (by kernel_rfl) (fun _ _ _ h => h) (Or.inl ⟨by rfl, ?_⟩) trivial ?_
            rotate_left
            · (intro w' _; go_simp); try with_reducible rfl
            simp only [Act.put, List.getElem_toArray, List.getElem_cons_zero, List.getElem_cons_succ, List.setIfInBounds_toArray, List.set_cons_zero, List.set_cons_succ]
            refine wpAnyH_take (i := 5) (v := ?_) rfl (by kernel_rfl) (by kernel_rfl) (by kernel_rfl) (fun _ _ _ h => h) (Or.inl ⟨by rfl, ?_⟩) trivial ?_
            rotate_left
            · (intro w' _; go_simp); try with_reducible rfl
            simp only [Act.put, List.getElem_toArray, List.getElem_cons_zero, List.getElem_cons_succ, List.setIfInBounds_toArray, List.set_cons_zero, List.set_cons_succ]
            refine wpAnyH_take (i := 6) (v := ?_) rfl (by kernel_rfl) (by kernel_rfl) (by kernel_rfl) (fun _ _ _ h => h) (Or.inl ⟨by rfl, ?_⟩) trivial ?_
            rotate_left
            · (intro w' _; go_simp); try with_reducible rfl
            simp only [Act.put, List.getElem_toArray, List.getElem_cons_zero, List.getElem_cons_succ, List.setIfInBounds_toArray, List.set_cons_zero, List.set_cons_succ]
            refine wpAnyH_ready (rs := [7, 8]) (by kernel_rfl) (by simp) ?_
            refine AllReadyH.cons rfl (fun K hK => ?_) (AllReadyH.cons rfl (fun K hK => ?_) AllReadyH.nil)
            · go_simp
              go_wp2_with (first | (go_at_call 20; refine (Hst.out _ b1.out).mono ?_; rintro e w19 ⟨v4, rfl, hv4, hb19, k19⟩; have HV4 := Lib.hid (And.intro hv4 (And.intro hb19 k19)); clear hv4 hb19 k19))
              refine hK.out _ _ trivial (fun _ => ?_)
              clear hK K
              refine wpAnyH_ready (rs := [8]) (by kernel_rfl) (by simp) ?_
              refine AllReadyH.cons rfl (fun K hK => ?_) AllReadyH.nil
              go_simp
              refine hK.out _ _ trivial (fun _ => ?_)
              clear hK K
              refine wpAnyH_ready (rs := [9]) (by kernel_rfl) (by simp) ?_
              refine AllReadyH.cons rfl (fun K hK => ?_) AllReadyH.nil
              go_simp
              go_wp2_with (first | (go_at_call 24; refine ((HV4.out.1.on (below_new w19 _)).sameZ hyl (bytesAt_lit w19 zero256 zero256_ok)).mono ?_; rintro e w20 ⟨rfl, n20, hw20⟩; rw [hy]; have K20 : Hid (OwnT w w20 T17 h (DS B m (zero256, true) 4)) := Lib.hid (by rw [hw20]; exact (HV4.out.2.2.on (below_new w19 _)).drewN n20); clear hw20))
              refine hK.out _ _ trivial (fun _ => ?_)
              clear hK K
              refine wpAnyH_take (i := 10) (v := ?_) rfl (by kernel_rfl) (by kernel_rfl) (by kernel_rfl) (fun _ _ _ h => h) (Or.inl ⟨by rfl, ?_⟩) trivial ?_
              rotate_left
              · (intro w' _; go_simp); try with_reducible rfl
              simp only [Act.put, List.getElem_toArray, List.getElem_cons_zero, List.getElem_cons_succ, List.setIfInBounds_toArray, List.set_cons_zero, List.set_cons_succ]
              refine wpAnyH_take (i := 11) (v := ?_) rfl (by kernel_rfl) (by kernel_rfl) (by kernel_rfl) (fun _ _ _ h => h) (Or.inl ⟨by rfl, ?_⟩) trivial ?_
              rotate_left
              · (intro w' _; go_simp); try with_reducible rfl
              simp only [Act.put, List.getElem_toArray, List.getElem_cons_zero, List.getElem_cons_succ, List.setIfInBounds_toArray, List.set_cons_zero, List.set_cons_succ]
              refine wpAnyH_take (i := 12) (v := ?_) rfl (by kernel_rfl) (by kernel_rfl) (by kernel_rfl) (fun _ _ _ h => h) (Or.inl ⟨by rfl, ?_⟩) trivial ?_
              rotate_left
              · (intro w' _; go_simp); try with_reducible rfl
              simp only [Act.put, List.getElem_toArray, List.getElem_cons_zero, List.getElem_cons_succ, List.setIfInBounds_toArray, List.set_cons_zero, List.set_cons_succ]
              refine wpAnyH_take (i := 13) (v := ?_) rfl (by kernel_rfl) (by kernel_rfl) (by kernel_rfl) (fun _ _ _ h => h) (Or.inl ⟨by rfl, ?_⟩) trivial ?_
              rotate_left
              · (intro w' _; go_simp); try with_reducible rfl
              simp only [Act.put, List.getElem_toArray, List.getElem_cons_zero, List.getElem_cons_succ, List.setIfInBounds_toArray, List.set_cons_zero, List.set_cons_succ]
              refine wpAnyH_take (i := 14) (v := ?_) rfl (by kernel_rfl) (by kernel_rfl) (by kernel_rfl) (fun _ _ _ h => h) (Or.inl ⟨by rfl, ?_⟩) trivial ?_
              rotate_left
              · (intro w' _; go_simp); try with_reducible rfl
              simp only [Act.put, List.getElem_toArray, List.getElem_cons_zero, List.getElem_cons_succ, List.setIfInBounds_toArray, List.set_cons_zero, List.set_cons_succ]
              refine wpAnyH_take (i := 15) (v := ?_) rfl (by kernel_rfl) (by kernel_rfl) (by kernel_rfl) (fun _ _ _ h => h) (Or.inl ⟨by rfl, ?_⟩) trivial ?_
              rotate_left
              · (intro w' _; go_simp); try with_reducible rfl
              simp only [Act.put, List.getElem_toArray, List.getElem_cons_zero, List.getElem_cons_succ, List.setIfInBounds_toArray, List.set_cons_zero, List.set_cons_succ]
              refine wpAnyH_ready (rs := [16]) (by kernel_rfl) (by simp) ?_
              refine AllReadyH.cons rfl (fun K hK => ?_) AllReadyH.nil
              go_simp
              go_wp2_with (first | (go_at_call 28; refine (OwnT.wipe HG.out.1 HG.out.2 K20.out (m : Int)).mono ?_; rintro e w21 ⟨he, k21, hc21⟩; rw [ds_wipe HM.out, if_pos rfl] at he k21; subst he; have K21 := Lib.hid k21; clear k21 hc21))
              refine hK.out _ _ trivial (fun _ => ?_)
              clear hK K
              refine wpAnyH_take (i := 17) (v := ?_) rfl (by kernel_rfl) (by kernel_rfl) (by kernel_rfl) (fun _ _ _ h => h) (Or.inl ⟨by rfl, ?_⟩) trivial ?_
              rotate_left
              · (intro w' _; go_simp); try with_reducible rfl
              simp only [Act.put, List.getElem_toArray, List.getElem_cons_zero, List.getElem_cons_succ, List.setIfInBounds_toArray, List.set_cons_zero, List.set_cons_succ]
              refine wpAnyH_take (i := 18) (v := ?_) rfl (by kernel_rfl) (by kernel_rfl) (by kernel_rfl) (fun _ _ _ h => h) (Or.inl ⟨by rfl, ?_⟩) trivial ?_
              rotate_left
              · (intro w' _; go_simp); try with_reducible rfl
              simp only [Act.put, List.getElem_toArray, List.getElem_cons_zero, List.getElem_cons_succ, List.setIfInBounds_toArray, List.set_cons_zero, List.set_cons_succ]
              refine wpAnyH_take (i := 19) (v := ?_) rfl (by kernel_rfl) (by kernel_rfl) (by kernel_rfl) (fun _ _ _ h => h) (Or.inl ⟨by rfl, ?_⟩) trivial ?_
              rotate_left
              · (intro w' _; go_simp); try with_reducible rfl
              simp only [Act.put, List.getElem_toArray, List.getElem_cons_zero, List.getElem_cons_succ, List.setIfInBounds_toArray, List.set_cons_zero, List.set_cons_succ]
              refine wpAnyH_take (i := 20) (v := ?_) rfl (by kernel_rfl) (by kernel_rfl) (by kernel_rfl) (fun _ _ _ h => h) (Or.inl ⟨by rfl, ?_⟩) trivial ?_
              rotate_left
              · (intro w' _; go_simp); try with_reducible rfl
              simp only [Act.put, List.getElem_toArray, List.getElem_cons_zero, List.getElem_cons_succ, List.setIfInBounds_toArray, List.set_cons_zero, List.set_cons_succ]
              refine wpAnyH_ready (rs := [21]) (by kernel_rfl) (by simp) ?_
              refine AllReadyH.cons rfl (fun K hK => ?_) AllReadyH.nil
              go_simp
              go_wp2_with (first | (go_at_call 27; refine (OwnT.rot HG.out.1 HG.out.2 K21.out (m : Int) 9 1 (by decide)).mono ?_; rintro e w22 ⟨he, k22, hc22⟩; rw [ds_rot HM.out, show ((zero256, true) : List Int × Bool).1 = zero256 from rfl, if_neg (show ¬ rotB zero256 9 1 = zero256 from rot_one nought_ok 9 (by decide)), if_pos rfl] at he k22; subst he; have K22 := Lib.hid k22; clear k22 hc22))
              refine hK.out _ _ trivial (fun _ => ?_)
              clear hK K
              refine wpAnyH_take (i := 22) (v := ?_) rfl (by kernel_rfl) (by kernel_rfl) (by kernel_rfl) (fun _ _ _ h => h) (Or.inl ⟨by rfl, ?_⟩) trivial ?_
              rotate_left
              · (intro w' _; go_simp); try with_reducible rfl
              simp only [Act.put, List.getElem_toArray, List.getElem_cons_zero, List.getElem_cons_succ, List.setIfInBounds_toArray, List.set_cons_zero, List.set_cons_succ]
              refine wpAnyH_take (i := 23) (v := ?_) rfl (by kernel_rfl) (by kernel_rfl) (by kernel_rfl) (fun _ _ _ h => h) (Or.inl ⟨by rfl, ?_⟩) trivial ?_
              rotate_left
              · (intro w' _; go_simp); try with_reducible rfl
              simp only [Act.put, List.getElem_toArray, List.getElem_cons_zero, List.getElem_cons_succ, List.setIfInBounds_toArray, List.set_cons_zero, List.set_cons_succ]
              refine wpAnyH_take (i := 24) (v := ?_) rfl (by kernel_rfl) (by kernel_rfl) (by kernel_rfl) (fun _ _ _ h => h) (Or.inl ⟨by rfl, ?_⟩) trivial ?_
              rotate_left
              · (intro w' _; go_simp); try with_reducible rfl
              simp only [Act.put, List.getElem_toArray, List.getElem_cons_zero, List.getElem_cons_succ, List.setIfInBounds_toArray, List.set_cons_zero, List.set_cons_succ]
              refine wpAnyH_take (i := 25) (v := ?_) rfl (by kernel_rfl) (by kernel_rfl) (by kernel_rfl) (fun _ _ _ h => h) (Or.inl ⟨by rfl, ?_⟩) trivial ?_
              rotate_left
              · (intro w' _; go_simp); try with_reducible rfl
              simp only [Act.put, List.getElem_toArray, List.getElem_cons_zero, List.getElem_cons_succ, List.setIfInBounds_toArray, List.set_cons_zero, List.set_cons_succ]
              refine wpAnyH_take (i := 26) (v := ?_) rfl (by kernel_rfl) (by kernel_rfl) (by kernel_rfl) (fun _ _ _ h => h) (Or.inl ⟨by rfl, ?_⟩) trivial ?_
              rotate_left
              · (intro w' _; go_simp); try with_reducible rfl
              simp only [Act.put, List.getElem_toArray, List.getElem_cons_zero, List.getElem_cons_succ, List.setIfInBounds_toArray, List.set_cons_zero, List.set_cons_succ]
              refine wpAnyH_done (by kernel_rfl) ?_ _
              go_wp2_with fail
              go_ret
              exact ⟨rfl, K22.out.below⟩
            · go_simp
              refine hK.out _ _ trivial (fun _ => ?_)
              clear hK K
              refine wpAnyH_ready (rs := [7]) (by kernel_rfl) (by simp) ?_
              refine AllReadyH.cons rfl (fun K hK => ?_) AllReadyH.nil
              go_simp
              go_wp2_with (first | (go_at_call 20; refine (Hst.out _ b2.out).mono ?_; rintro e w19 ⟨v4, rfl, hv4, hb19, k19⟩; have HV4 := Lib.hid (And.intro hv4 (And.intro hb19 k19)); clear hv4 hb19 k19))
              refine hK.out _ _ trivial (fun _ => ?_)
              clear hK K
              refine wpAnyH_ready (rs := [9]) (by kernel_rfl) (by simp) ?_
              refine AllReadyH.cons rfl (fun K hK => ?_) AllReadyH.nil
              go_simp
              go_wp2_with (first | (go_at_call 24; refine (HV4.out.1.sameZ hyl ((bytesAt_lit w18.drew zero256 zero256_ok).below HV4.out.2.1)).mono ?_; rintro e w20 ⟨rfl, n20, hw20⟩; rw [hy]; have K20 : Hid (OwnT w w20 T17 h (DS B m (zero256, true) 4)) := Lib.hid (by rw [hw20]; exact HV4.out.2.2.drewN n20); clear hw20))
              refine hK.out _ _ trivial (fun _ => ?_)
              clear hK K
              refine wpAnyH_take (i := 10) (v := ?_) rfl (by kernel_rfl) (by kernel_rfl) (by kernel_rfl) (fun _ _ _ h => h) (Or.inl ⟨by rfl, ?_⟩) trivial ?_
              rotate_left
              · (intro w' _; go_simp); try with_reducible rfl
              simp only [Act.put, List.getElem_toArray, List.getElem_cons_zero, List.getElem_cons_succ, List.setIfInBounds_toArray, List.set_cons_zero, List.set_cons_succ]
              refine wpAnyH_take (i := 11) (v := ?_) rfl (by kernel_rfl) (by kernel_rfl) (by kernel_rfl) (fun _ _ _ h => h) (Or.inl ⟨by rfl, ?_⟩) trivial ?_
              rotate_left
              · (intro w' _; go_simp); try with_reducible rfl
              simp only [Act.put, List.getElem_toArray, List.getElem_cons_zero, List.getElem_cons_succ, List.setIfInBounds_toArray, List.set_cons_zero, List.set_cons_succ]
              refine wpAnyH_take (i := 12) (v := ?_) rfl (by kernel_rfl) (by kernel_rfl) (by kernel_rfl) (fun _ _ _ h => h) (Or.inl ⟨by rfl, ?_⟩) trivial ?_
              rotate_left
              · (intro w' _; go_simp); try with_reducible rfl
              simp only [Act.put, List.getElem_toArray, List.getElem_cons_zero, List.getElem_cons_succ, List.setIfInBounds_toArray, List.set_cons_zero, List.set_cons_succ]
              refine wpAnyH_take (i := 13) (v := ?_) rfl (by kernel_rfl) (by kernel_rfl) (by kernel_rfl) (fun _ _ _ h => h) (Or.inl ⟨by rfl, ?_⟩) trivial ?_
              rotate_left
              · (intro w' _; go_simp); try with_reducible rfl
              simp only [Act.put, List.getElem_toArray, List.getElem_cons_zero, List.getElem_cons_succ, List.setIfInBounds_toArray, List.set_cons_zero, List.set_cons_succ]
              refine wpAnyH_take (i := 14) (v := ?_) rfl (by kernel_rfl) (by kernel_rfl) (by kernel_rfl) (fun _ _ _ h => h) (Or.inl ⟨by rfl, ?_⟩) trivial ?_
              rotate_left
              · (intro w' _; go_simp); try with_reducible rfl
              simp only [Act.put, List.getElem_toArray, List.getElem_cons_zero, List.getElem_cons_succ, List.setIfInBounds_toArray, List.set_cons_zero, List.set_cons_succ]
              refine wpAnyH_take (i := 15) (v := ?_) rfl (by kernel_rfl) (by kernel_rfl) (by kernel_rfl) (fun _ _ _ h => h) (Or.inl ⟨by rfl, ?_⟩) trivial ?_
              rotate_left
              · (intro w' _; go_simp); try with_reducible rfl
              simp only [Act.put, List.getElem_toArray, List.getElem_cons_zero, List.getElem_cons_succ, List.setIfInBounds_toArray, List.set_cons_zero, List.set_cons_succ]
              refine wpAnyH_ready (rs := [16]) (by kernel_rfl) (by simp) ?_
              refine AllReadyH.cons rfl (fun K hK => ?_) AllReadyH.nil
              go_simp
              go_wp2_with (first | (go_at_call 28; refine (OwnT.wipe HG.out.1 HG.out.2 K20.out (m : Int)).mono ?_; rintro e w21 ⟨he, k21, hc21⟩; rw [ds_wipe HM.out, if_pos rfl] at he k21; subst he; have K21 := Lib.hid k21; clear k21 hc21))
              refine hK.out _ _ trivial (fun _ => ?_)
              clear hK K
              refine wpAnyH_take (i := 17) (v := ?_) rfl (by kernel_rfl) (by kernel_rfl) (by kernel_rfl) (fun _ _ _ h => h) (Or.inl ⟨by rfl, ?_⟩) trivial ?_
              rotate_left
              · (intro w' _; go_simp); try with_reducible rfl
              simp only [Act.put, List.getElem_toArray, List.getElem_cons_zero, List.getElem_cons_succ, List.setIfInBounds_toArray, List.set_cons_zero, List.set_cons_succ]
              refine wpAnyH_take (i := 18) (v := ?_) rfl (by kernel_rfl) (by kernel_rfl) (by kernel_rfl) (fun _ _ _ h => h) (Or.inl ⟨by rfl, ?_⟩) trivial ?_
              rotate_left
              · (intro w' _; go_simp); try with_reducible rfl
              simp only [Act.put, List.getElem_toArray, List.getElem_cons_zero, List.getElem_cons_succ, List.setIfInBounds_toArray, List.set_cons_zero, List.set_cons_succ]
              refine wpAnyH_take (i := 19) (v := ?_) rfl (by kernel_rfl) (by kernel_rfl) (by kernel_rfl) (fun _ _ _ h => h) (Or.inl ⟨by rfl, ?_⟩) trivial ?_
              rotate_left
              · (intro w' _; go_simp); try with_reducible rfl
              simp only [Act.put, List.getElem_toArray, List.getElem_cons_zero, List.getElem_cons_succ, List.setIfInBounds_toArray, List.set_cons_zero, List.set_cons_succ]
              refine wpAnyH_take (i := 20) (v := ?_) rfl (by kernel_rfl) (by kernel_rfl) (by kernel_rfl) (fun _ _ _ h => h) (Or.inl ⟨by rfl, ?_⟩) trivial ?_
              rotate_left
              · (intro w' _; go_simp); try with_reducible rfl
              simp only [Act.put, List.getElem_toArray, List.getElem_cons_zero, List.getElem_cons_succ, List.setIfInBounds_toArray, List.set_cons_zero, List.set_cons_succ]
              refine wpAnyH_ready (rs := [21]) (by kernel_rfl) (by simp) ?_
              refine AllReadyH.cons rfl (fun K hK => ?_) AllReadyH.nil
              go_simp
              go_wp2_with (first | (go_at_call 27; refine (OwnT.rot HG.out.1 HG.out.2 K21.out (m : Int) 9 1 (by decide)).mono ?_; rintro e w22 ⟨he, k22, hc22⟩; rw [ds_rot HM.out, show ((zero256, true) : List Int × Bool).1 = zero256 from rfl, if_neg (show ¬ rotB zero256 9 1 = zero256 from rot_one nought_ok 9 (by decide)), if_pos rfl] at he k22; subst he; have K22 := Lib.hid k22; clear k22 hc22))
              refine hK.out _ _ trivial (fun _ => ?_)
              clear hK K
              refine wpAnyH_take (i := 22) (v := ?_) rfl (by kernel_rfl) (by kernel_rfl) (by kernel_rfl) (fun _ _ _ h => h) (Or.inl ⟨by rfl, ?_⟩) trivial ?_
              rotate_left
              · (intro w' _; go_simp); try with_reducible rfl
              simp only [Act.put, List.getElem_toArray, List.getElem_cons_zero, List.getElem_cons_succ, List.setIfInBounds_toArray, List.set_cons_zero, List.set_cons_succ]
              refine wpAnyH_take (i := 23) (v := ?_) rfl (by kernel_rfl) (by kernel_rfl) (by kernel_rfl) (fun _ _ _ h => h) (Or.inl ⟨by rfl, ?_⟩) trivial ?_
              rotate_left
              · (intro w' _; go_simp); try with_reducible rfl
              simp only [Act.put, List.getElem_toArray, List.getElem_cons_zero, List.getElem_cons_succ, List.setIfInBounds_toArray, List.set_cons_zero, List.set_cons_succ]
              refine wpAnyH_take (i := 24) (v := ?_) rfl (by kernel_rfl) (by kernel_rfl) (by kernel_rfl) (fun _ _ _ h => h) (Or.inl ⟨by rfl, ?_⟩) trivial ?_
              rotate_left
              · (intro w' _; go_simp); try with_reducible rfl
              simp only [Act.put, List.getElem_toArray, List.getElem_cons_zero, List.getElem_cons_succ, List.setIfInBounds_toArray, List.set_cons_zero, List.set_cons_succ]
              refine wpAnyH_take (i := 25) (v := ?_) rfl (by kernel_rfl) (by kernel_rfl) (by kernel_rfl) (fun _ _ _ h => h) (Or.inl ⟨by rfl, ?_⟩) trivial ?_
              rotate_left
              · (intro w' _; go_simp); try with_reducible rfl
              simp only [Act.put, List.getElem_toArray, List.getElem_cons_zero, List.getElem_cons_succ, List.setIfInBounds_toArray, List.set_cons_zero, List.set_cons_succ]
              refine wpAnyH_take (i := 26) (v := ?_) rfl (by kernel_rfl) (by kernel_rfl) (by kernel_rfl) (fun _ _ _ h => h) (Or.inl ⟨by rfl, ?_⟩) trivial ?_
              rotate_left
              · (intro w' _; go_simp); try with_reducible rfl
              simp only [Act.put, List.getElem_toArray, List.getElem_cons_zero, List.getElem_cons_succ, List.setIfInBounds_toArray, List.set_cons_zero, List.set_cons_succ]
              refine wpAnyH_done (by kernel_rfl) ?_ _
              go_wp2_with fail
              go_ret
              exact ⟨rfl, K22.out.below⟩
end Go.Proofs.YtgjdoiblgbdebaaDoor
