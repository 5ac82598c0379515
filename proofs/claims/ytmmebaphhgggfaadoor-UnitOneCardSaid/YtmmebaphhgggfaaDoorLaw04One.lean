/- UnitOne: the law's walk. -/
import Derived.Test.YtmmebaphhgggfaaDoorLaw04Base
namespace Go.Proofs.YtmmebaphhgggfaaDoor
open Go.RowKit
set_option maxRecDepth 100000 in
set_option maxHeartbeats 8000000 in
theorem unitOne_any (σ : Sen) (τ : SenU) (w : World) (hC : GlAt σ w) (hU : GlU τ w) (A : Option Addr) (b : List Int) (c : Nat) (hb : BytesAt w A b) (hbc : b.length ≤ c) (hm : c ≤ 140737488351232) (kd num : Int) :
    Calls Tryd.prog 3 #[.slice A b.length c, .int .i64 kd, .int .i64 num] w fun e w' => e = .returned (.bool true) ∧ Below w.heap.size w w' := by
  have HA := Lib.hid (awake_any σ τ w hC hU)
  have HC := Lib.hid hC
  have HU := Lib.hid hU
  have HB := Lib.hid hb
  clear hC hU
  by_cases hlen : 5000 < b.length
  · have hli : (5000 : Int) < (b.length : Int) := by omega
    clear hb
    go_enter Tryd.func3, Tryd.ntmps3
    go_wp2_with fail
    refine HA.out.mono ?_
    rintro e w1 ⟨rfl, hb1⟩
    have B1 := Lib.hid hb1
    clear hb1
    go_wp2_with fail
    go_ret
    exact ⟨rfl, B1.out⟩
  · have hli : ¬ (5000 : Int) < (b.length : Int) := by omega
    obtain ⟨r, hop⟩ : ∃ r, openB b = r := ⟨_, rfl⟩
    obtain ⟨u, code⟩ := r
    have Hop := Lib.hid hop
    obtain ⟨a, has⟩ : ∃ a, asB b kd num = a := ⟨_, rfl⟩
    obtain ⟨ys, ac⟩ := a
    have Has := Lib.hid has
    clear hop has
    go_enter Tryd.func3, Tryd.ntmps3
    go_wp2_with fail
    refine HA.out.mono ?_
    rintro e w1 ⟨rfl, hb1⟩
    have HO := uopen_any σ τ w1 (HC.out.below hb1) (HU.out.below hb1) A b c (HB.out.below hb1) hbc (by omega)
    rw [Hop.out] at HO
    have HOp := Lib.hid HO
    have B1 := Lib.hid hb1
    unfold UnitV.val at HOp
    clear HO hb1
    go_wp2_with fail
    refine HOp.out.mono ?_
    rintro e w2 ⟨X, k, rfl, ho2, hb2⟩
    have hbu : ∀ z ∈ u.body, 0 ≤ z ∧ z < 256 := by
      have h0 := Hop.out
      intro z hz
      by_cases hc0 : code = 0
      · have h2 : (openB b).1 = u := by rw [h0]
        have h3 : u.body = (unitOf b).body := by
          rw [← h2]
          have h4 : (openB b).2 = 0 := by rw [h0]; exact hc0
          unfold openB at h4 ⊢
          split at h4
          · exact absurd h4 (by decide)
          · next h5 =>
            rw [if_neg h5]
            split at h4
            · exact absurd h4 (by decide)
            · next h6 =>
              rw [if_neg h6]
              split at h4
              · next h7 => rw [if_pos h7]
              · exact absurd h4 (by decide)
        rw [h3] at hz
        have hz := List.mem_of_mem_take hz
        rcases List.mem_append.1 hz with h | h
        · exact hb.1 z (List.mem_of_mem_drop (List.mem_of_mem_take h))
        · exact hb.1 z (List.mem_of_mem_drop (List.mem_of_mem_take h))
      · have h2 := open_else (b := b) (by rw [h0]; exact hc0)
        rw [h0] at h2
        have h2 : u = noUnit := h2
        rw [h2] at hz
        cases hz
    have hb3 := below_new w2 (.cells #[.int .i64 u.kind, .int .i64 u.num, .slice X u.body.length k] 26)
    have P3 := Lib.hid (BlockIs.made w2 26 #[.int .i64 u.kind, .int .i64 u.num, .slice X u.body.length k])
    obtain ⟨w3, hw3⟩ : ∃ w3, w2.alloc (.cells #[.int .i64 u.kind, .int .i64 u.num, .slice X u.body.length k] 26) = w3 := ⟨_, rfl⟩
    rw [hw3] at hb3 P3
    have B3 := Lib.hid (B1.out.trans ((hb2.trans (hb3.mono hb2.size)).mono B1.out.size))
    have X3 := Lib.hid ((own_reads ho2 hbu).below hb3)
    have HXk : Hid (u.body.length ≤ k ∧ k ≤ 9223372036854775807) := Lib.hid (by
      obtain ⟨X', k', e, h1, h2⟩ := own_slice ho2
      obtain ⟨rfl, rfl⟩ : X = X' ∧ k = k' := by simpa using e
      unfold maxLen at h2
      exact ⟨h1, by omega⟩)
    have HAa := uas_any σ τ w3 (HC.out.below B3.out) (HU.out.below B3.out) A b c (HB.out.below B3.out) hbc (by omega) kd num
    rw [Has.out] at HAa
    have HAs := Lib.hid HAa
    have Hw3 := Lib.hid hw3
    have Hbu := Lib.hid hbu
    clear HAa hb2 hb3 ho2 hw3 HOp hbu
    go_wp2_with fail
    rw [Hw3.out]
    refine HAs.out.mono ?_
    rintro e w4 ⟨v, rfl, ho4, hb4⟩
    obtain ⟨Y, cy, rfl, hcy, _⟩ := own_slice ho4
    have B4 := Lib.hid (B3.out.trans (hb4.mono B3.out.size))
    have P4 := Lib.hid (P3.out.below hb4 P3.out.lt)
    have X4 := Lib.hid (X3.out.below hb4)
    have O4 := Lib.hid ho4
    obtain ⟨p0, p1, p2, _, _, _⟩ := unit_cells P4.out
    clear hb4 ho4 HAs
    by_cases hc0 : code = 0
    · subst hc0
      have hs := open_some (b := b) (by rw [Hop.out])
      rw [Hop.out] at hs
      have Hrt := Lib.hid hs.1
      have Hse := Lib.hid hs.2
      have hSl := useal_any w4 u X k X4.out HXk.out.1 HXk.out.2
      rw [show sealR u = (b, 0) by unfold sealR; rw [if_pos Hrt.out, Hse.out]] at hSl
      have HSl := Lib.hid hSl
      unfold UnitV.val at HSl
      clear hs hSl
      by_cases hk : u.kind = kd
      · have e1 : (u.kind == kd) = true := beq_iff_eq.2 hk
        by_cases hn : num < 0
        · have ho : ¬ otherU u kd num := by rintro (h | h); exact h hk; omega
          have ha := asB_yes (b := b) (k := kd) (num := num) (by rw [Hop.out]) (by rw [Hop.out]; exact ho)
          rw [Has.out, Hop.out] at ha
          obtain ⟨rfl, rfl⟩ : ys = u.body ∧ ac = 0 := by simpa using ha
          have Y4 := Lib.hid (own_reads O4.out Hbu.out)
          clear hk ho ha
          go_wp2_with fail
          refine HSl.out.mono ?_
          rintro e w5 ⟨v, rfl, ho5, hb5⟩
          obtain ⟨Z, cz, rfl, hcz, _⟩ := own_slice ho5
          have B5 := Lib.hid (B4.out.trans (hb5.mono B4.out.size))
          have Zb := Lib.hid (own_reads ho5 hb.1)
          have P5 := Lib.hid (P4.out.below hb5 P4.out.lt)
          have X5 := Lib.hid (X4.out.below hb5)
          have Y5 := Lib.hid (Y4.out.below hb5)
          have HR := Lib.hid (uright_any w5 u X k)
          rw [decide_eq_true Hrt.out] at HR
          unfold UnitV.val at HR
          obtain ⟨p0, p1, p2, _, _, _⟩ := unit_cells P5.out
          clear ho5 hb5 HSl
          go_wp2_with fail
          refine HR.out.mono ?_
          rintro e w6 ⟨rfl, hb6⟩
          have B6 := Lib.hid (B5.out.trans (hb6.mono B5.out.size))
          have P6 := Lib.hid (P5.out.below hb6 P5.out.lt)
          have HSm := Lib.hid (sameBytes_any b b Z A cz c w6 (Zb.out.below hb6) (HB.out.below B6.out) (by omega))
          rw [show sameB b b = true from decide_eq_true rfl] at HSm
          have X6 := Lib.hid (X5.out.below hb6)
          have Y6 := Lib.hid (Y5.out.below hb6)
          obtain ⟨q0, q1, q2, _, _, _⟩ := unit_cells P6.out
          clear p0 p1 p2 hb6 HR
          go_wp2_with fail
          refine HSm.out.mono ?_
          rintro e w7 ⟨rfl, n7, rfl⟩
          have q2b : (w6.drewN n7).cell? ⟨w2.heap.size, 2, none⟩ = some (.slice X u.body.length k) := q2
          have HSx := Lib.hid (sameBytes_any u.body u.body Y X cy k (w6.drewN n7) (Y6.out.drewN n7) (X6.out.drewN n7) (by have := Hrt.out.2.2; omega))
          rw [show sameB u.body u.body = true from decide_eq_true rfl] at HSx
          go_wp2_with fail
          refine HSx.out.mono ?_
          rintro e w8 ⟨rfl, n8, rfl⟩
          go_wp2_with fail
          go_ret
          exact ⟨rfl, drewN_below B6.out _⟩
        · have hni : ¬ num < 0 := hn
          by_cases hq : num = u.num
          · have e3 : (num == u.num) = true := beq_iff_eq.2 hq
            have ho : ¬ otherU u kd num := by rintro (h | h); exact h hk; exact h.2 hq.symm
            have ha := asB_yes (b := b) (k := kd) (num := num) (by rw [Hop.out]) (by rw [Hop.out]; exact ho)
            rw [Has.out, Hop.out] at ha
            obtain ⟨rfl, rfl⟩ : ys = u.body ∧ ac = 0 := by simpa using ha
            have Y4 := Lib.hid (own_reads O4.out Hbu.out)
            clear hk ho ha hq hn
            go_wp2_with fail
            refine HSl.out.mono ?_
            rintro e w5 ⟨v, rfl, ho5, hb5⟩
            obtain ⟨Z, cz, rfl, hcz, _⟩ := own_slice ho5
            have B5 := Lib.hid (B4.out.trans (hb5.mono B4.out.size))
            have Zb := Lib.hid (own_reads ho5 hb.1)
            have P5 := Lib.hid (P4.out.below hb5 P4.out.lt)
            have X5 := Lib.hid (X4.out.below hb5)
            have Y5 := Lib.hid (Y4.out.below hb5)
            have HR := Lib.hid (uright_any w5 u X k)
            rw [decide_eq_true Hrt.out] at HR
            unfold UnitV.val at HR
            obtain ⟨p0, p1, p2, _, _, _⟩ := unit_cells P5.out
            clear ho5 hb5 HSl
            go_wp2_with fail
            refine HR.out.mono ?_
            rintro e w6 ⟨rfl, hb6⟩
            have B6 := Lib.hid (B5.out.trans (hb6.mono B5.out.size))
            have P6 := Lib.hid (P5.out.below hb6 P5.out.lt)
            have HSm := Lib.hid (sameBytes_any b b Z A cz c w6 (Zb.out.below hb6) (HB.out.below B6.out) (by omega))
            rw [show sameB b b = true from decide_eq_true rfl] at HSm
            have X6 := Lib.hid (X5.out.below hb6)
            have Y6 := Lib.hid (Y5.out.below hb6)
            obtain ⟨q0, q1, q2, _, _, _⟩ := unit_cells P6.out
            clear p0 p1 p2 hb6 HR
            go_wp2_with fail
            refine HSm.out.mono ?_
            rintro e w7 ⟨rfl, n7, rfl⟩
            have q2b : (w6.drewN n7).cell? ⟨w2.heap.size, 2, none⟩ = some (.slice X u.body.length k) := q2
            have HSx := Lib.hid (sameBytes_any u.body u.body Y X cy k (w6.drewN n7) (Y6.out.drewN n7) (X6.out.drewN n7) (by have := Hrt.out.2.2; omega))
            rw [show sameB u.body u.body = true from decide_eq_true rfl] at HSx
            go_wp2_with fail
            refine HSx.out.mono ?_
            rintro e w8 ⟨rfl, n8, rfl⟩
            go_wp2_with fail
            go_ret
            exact ⟨rfl, drewN_below B6.out _⟩
          · have e3 : (num == u.num) = false := beq_eq_false_iff_ne.2 hq
            have ho : otherU u kd num := .inr ⟨by omega, fun e => hq e.symm⟩
            have ha := asB_other (b := b) (k := kd) (num := num) (by rw [Hop.out]) (by rw [Hop.out]; exact ho)
            rw [Has.out] at ha
            obtain ⟨rfl, rfl⟩ : ys = [] ∧ ac = 6 := by simpa using ha
            have Y4 := Lib.hid (BytesAt.nil w4 none)
            clear hk ho ha hq hn
            go_wp2_with fail
            refine HSl.out.mono ?_
            rintro e w5 ⟨v, rfl, ho5, hb5⟩
            obtain ⟨Z, cz, rfl, hcz, _⟩ := own_slice ho5
            have B5 := Lib.hid (B4.out.trans (hb5.mono B4.out.size))
            have Zb := Lib.hid (own_reads ho5 hb.1)
            have P5 := Lib.hid (P4.out.below hb5 P4.out.lt)
            have X5 := Lib.hid (X4.out.below hb5)
            have Y5 := Lib.hid (Y4.out.below hb5)
            have HR := Lib.hid (uright_any w5 u X k)
            rw [decide_eq_true Hrt.out] at HR
            unfold UnitV.val at HR
            obtain ⟨p0, p1, p2, _, _, _⟩ := unit_cells P5.out
            clear ho5 hb5 HSl
            go_wp2_with fail
            refine HR.out.mono ?_
            rintro e w6 ⟨rfl, hb6⟩
            have B6 := Lib.hid (B5.out.trans (hb6.mono B5.out.size))
            have P6 := Lib.hid (P5.out.below hb6 P5.out.lt)
            have HSm := Lib.hid (sameBytes_any b b Z A cz c w6 (Zb.out.below hb6) (HB.out.below B6.out) (by omega))
            rw [show sameB b b = true from decide_eq_true rfl] at HSm
            have X6 := Lib.hid (X5.out.below hb6)
            have Y6 := Lib.hid (Y5.out.below hb6)
            obtain ⟨q0, q1, q2, _, _, _⟩ := unit_cells P6.out
            clear p0 p1 p2 hb6 HR
            go_wp2_with fail
            refine HSm.out.mono ?_
            rintro e w7 ⟨rfl, n7, rfl⟩
            have q2b : (w6.drewN n7).cell? ⟨w2.heap.size, 2, none⟩ = some (.slice X u.body.length k) := q2
            go_wp2_with fail
            go_ret
            exact ⟨rfl, drewN_below B6.out n7⟩
      · have e1 : (u.kind == kd) = false := beq_eq_false_iff_ne.2 hk
        have ho : otherU u kd num := .inl hk
        have ha := asB_other (b := b) (k := kd) (num := num) (by rw [Hop.out]) (by rw [Hop.out]; exact ho)
        rw [Has.out] at ha
        obtain ⟨rfl, rfl⟩ : ys = [] ∧ ac = 6 := by simpa using ha
        have Y4 := Lib.hid (BytesAt.nil w4 none)
        clear hk ho ha
        go_wp2_with fail
        refine HSl.out.mono ?_
        rintro e w5 ⟨v, rfl, ho5, hb5⟩
        obtain ⟨Z, cz, rfl, hcz, _⟩ := own_slice ho5
        have B5 := Lib.hid (B4.out.trans (hb5.mono B4.out.size))
        have Zb := Lib.hid (own_reads ho5 hb.1)
        have P5 := Lib.hid (P4.out.below hb5 P4.out.lt)
        have X5 := Lib.hid (X4.out.below hb5)
        have Y5 := Lib.hid (Y4.out.below hb5)
        have HR := Lib.hid (uright_any w5 u X k)
        rw [decide_eq_true Hrt.out] at HR
        unfold UnitV.val at HR
        obtain ⟨p0, p1, p2, _, _, _⟩ := unit_cells P5.out
        clear ho5 hb5 HSl
        go_wp2_with fail
        refine HR.out.mono ?_
        rintro e w6 ⟨rfl, hb6⟩
        have B6 := Lib.hid (B5.out.trans (hb6.mono B5.out.size))
        have P6 := Lib.hid (P5.out.below hb6 P5.out.lt)
        have HSm := Lib.hid (sameBytes_any b b Z A cz c w6 (Zb.out.below hb6) (HB.out.below B6.out) (by omega))
        rw [show sameB b b = true from decide_eq_true rfl] at HSm
        have X6 := Lib.hid (X5.out.below hb6)
        have Y6 := Lib.hid (Y5.out.below hb6)
        obtain ⟨q0, q1, q2, _, _, _⟩ := unit_cells P6.out
        clear p0 p1 p2 hb6 HR
        go_wp2_with fail
        refine HSm.out.mono ?_
        rintro e w7 ⟨rfl, n7, rfl⟩
        have q2b : (w6.drewN n7).cell? ⟨w2.heap.size, 2, none⟩ = some (.slice X u.body.length k) := q2
        go_wp2_with fail
        go_ret
        exact ⟨rfl, drewN_below B6.out n7⟩
    · have hn := open_else (b := b) (by rw [Hop.out]; exact hc0)
      rw [Hop.out] at hn
      obtain rfl : u = noUnit := hn
      have ha := asB_bad (b := b) (k := kd) (num := num) (by rw [Hop.out]; exact hc0)
      rw [Has.out, Hop.out] at ha
      obtain ⟨rfl, rfl⟩ : ys = [] ∧ ac = code := by simpa using ha
      have hci : (ac != 0) = true := by simpa using hc0
      have HSu : Hid (Calls Tryd.prog 7 #[.agg #[.int .i64 0, .int .i64 0, .slice X 0 k], .agg #[.int .i64 0, .int .i64 0, .slice none 0 0]] w4 fun e w' => e = .returned (.bool true) ∧ Below w4.heap.size w4 w') := Lib.hid (by
        have := sameUnit_any w4 noUnit noUnit X none k 0 (BytesAt.nil _ _) (BytesAt.nil _ _) (by decide)
        rw [sameU_self] at this
        exact this)
      unfold noUnit at p0 p1 p2
      simp only [List.length_nil] at p2
      clear hc0 ha
      go_wp2_with fail
      refine HSu.out.mono ?_
      rintro e w5 ⟨rfl, hb5⟩
      have B5 := Lib.hid (B4.out.trans (hb5.mono B4.out.size))
      clear hb5
      go_wp2_with fail
      go_ret
      exact ⟨rfl, B5.out⟩
end Go.Proofs.YtmmebaphhgggfaaDoor
