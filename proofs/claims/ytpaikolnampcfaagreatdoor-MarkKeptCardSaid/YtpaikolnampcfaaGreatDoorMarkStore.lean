/- A block is stored in two blocks in a row. -/
import Derived.Test.YtpaikolnampcfaaGreatDoorMarkErr
import Derived.Test.YtpaikolnampcfaaGreatDoorDevStp
namespace Go.Proofs.YtpaikolnampcfaaGreatDoor
open Go.RowKit
section
variable {δ : SenD} {w0 w : World} {T : Nat → Prop} {h : Nat} {D : DM}
set_option maxRecDepth 100000 in
set_option maxHeartbeats 4000000 in
theorem kstore_any (κ : SenK) (hD : GlD δ w0) (k : OwnT w0 w T h D) {q : Nat} (hF : D.Few q) (hq : q ≤ 998000) (p : Nat) (A : Option Addr) (bs : List Int) (c : Nat) (hz : BytesAt w A bs) (ho : ∀ a, A = some a → ¬ T a.block ∧ a.block < w.heap.size) (hl : bs.length ≤ 140737488351232)
    (g : Nat) (hB : BlockIs w g 3 #[.int .i64 (p : Int), .int .i64 ((p : Int) + 1)]) (hg : ¬ T g) :
    Calls Tryz.prog 109 #[.pointer (some ⟨h, 0, none⟩), .slice A bs.length c, .slice (some ⟨g, 0, none⟩) 2 2] w fun e w2 => ∃ v, e = .returned v ∧ KErr κ (layP D p bs).1 v ∧ Stp w0 w T h (layP D p bs).2 w2 := by
  have HD := Lib.hid hD
  have Hl := Lib.hid hl
  have HK := Lib.hid k
  have HB0 := Lib.hid (And.intro hz ho)
  have HG0 := Lib.hid (And.intro hB hg)
  have Hst : Hid (layP D p bs = if (stowD D p bs).1 ≠ 0 then stowD D p bs else stowD (stowD D p bs).2 ((p : Int) + 1) bs) := Lib.hid rfl
  have Hs1 : Hid (stowD D p bs = if (D.write p bs).1 ≠ 0 then D.write p bs else (D.write p bs).2.sync) := Lib.hid rfl
  have HW1 := Lib.hid (write_stp hD k hF (by omega) p A bs c hz (fun a e => (ho a e).1) hl)
  have HF1 := Lib.hid (hF.write p bs)
  have S0 := Lib.hid (Stp.refl k)
  obtain ⟨r1, hr1⟩ : ∃ r, D.write p bs = r := ⟨_, rfl⟩
  rw [hr1] at HW1 HF1 Hs1
  obtain ⟨e1, D1⟩ := r1
  simp only at HW1 HF1 Hs1
  have c0 : w.cell? ⟨g, 0, none⟩ = some (.int .i64 (p : Int)) := hB.cell 0
  clear hz ho k hD hl hr1 hB hg hF
  by_cases he1 : e1 = 0
  rotate_left
  · have He := Lib.hid he1
    have Hs2 : Hid (stowD D p bs = (e1, D1)) := Lib.hid (by rw [Hs1.out, if_pos he1])
    have Hst2 : Hid (layP D p bs = (e1, D1)) := Lib.hid (by rw [Hst.out, Hs2.out, if_pos he1])
    rw [Hst2.out]
    clear he1
    go_enter Tryz.func109, Tryz.ntmps109
    go_wp2_with fail
    refine wp_loop_rounds 3 ?_
    rw [rounds_succ]
    go_wp2_with fail
    refine HW1.out.mono ?_
    rintro e w2 ⟨rfl, hS⟩
    have S1 := Lib.hid hS
    clear hS HW1 c0
    go_wp2_with fail
    refine (kfailed_any κ _ _ _).mono ?_
    rintro e wf ⟨v, rfl, hv, hbf⟩
    obtain ⟨tf, xf, rfl⟩ := hv.some He.out
    have SF := Lib.hid (And.intro hv (S1.out.on hbf))
    clear hv hbf
    go_wp2_with fail
    go_ret
    exact ⟨_, rfl, SF.out.1, SF.out.2⟩
  · subst he1
    have Hs2 : Hid (stowD D p bs = D1.sync) := Lib.hid (by rw [Hs1.out, if_neg (fun hn => hn rfl)])
    have HFs := Lib.hid (fewSync HF1.out)
    obtain ⟨r2, hr2⟩ : ∃ r, D1.sync = r := ⟨_, rfl⟩
    have Hq2 := Lib.hid hr2
    rw [hr2] at Hs2 HFs
    obtain ⟨e2, D2⟩ := r2
    simp only at HFs
    clear hr2
    by_cases he2 : e2 = 0
    rotate_left
    · have He := Lib.hid he2
      have Hst2 : Hid (layP D p bs = (e2, D2)) := Lib.hid (by rw [Hst.out, Hs2.out, if_pos he2])
      rw [Hst2.out]
      clear he2
      go_enter Tryz.func109, Tryz.ntmps109
      go_wp2_with fail
      refine wp_loop_rounds 3 ?_
      rw [rounds_succ]
      go_wp2_with fail
      refine HW1.out.mono ?_
      rintro e w2 ⟨rfl, hS⟩
      have S1 := Lib.hid hS
      clear hS HW1 c0
      go_wp2_with fail
      refine (kfailed_any κ _ _ _).mono ?_
      rintro e w3 ⟨v, rfl, hv, hbf⟩
      obtain rfl := hv.zero
      have S2 := Lib.hid (S1.out.on hbf)
      clear hv hbf S1
      have HY := sync_stp HD.out S2.out.own HF1.out (by omega)
      rw [Hq2.out] at HY
      simp only at HY
      have HSy := Lib.hid HY
      clear HY
      go_wp2_with fail
      refine HSy.out.mono ?_
      rintro e w4 ⟨rfl, hS⟩
      have S3 := Lib.hid (S2.out.trans hS)
      clear hS HSy S2
      go_wp2_with fail
      refine (kfailed_any κ _ _ _).mono ?_
      rintro e wf ⟨v, rfl, hv, hbf⟩
      obtain ⟨tf, xf, rfl⟩ := hv.some He.out
      have SF := Lib.hid (And.intro hv (S3.out.on hbf))
      clear hv hbf
      go_wp2_with fail
      go_ret
      exact ⟨_, rfl, SF.out.1, SF.out.2⟩
    · subst he2
      have Hst2 : Hid (layP D p bs = stowD D2 ((p : Int) + 1) bs) := Lib.hid (by rw [Hst.out, Hs2.out, if_neg (fun hn => hn rfl)])
      rw [Hst2.out]
      have Hs3 : Hid (stowD D2 ((p : Int) + 1) bs = if (D2.write ((p : Int) + 1) bs).1 ≠ 0 then D2.write ((p : Int) + 1) bs else (D2.write ((p : Int) + 1) bs).2.sync) := Lib.hid rfl
      have HF3 := Lib.hid (HFs.out.write ((p : Int) + 1) bs)
      obtain ⟨r3, hr3⟩ : ∃ r, D2.write ((p : Int) + 1) bs = r := ⟨_, rfl⟩
      have Hq3 := Lib.hid hr3
      rw [hr3] at Hs3 HF3
      obtain ⟨e3, D3⟩ := r3
      simp only at HF3 Hs3
      clear hr3
      by_cases he3 : e3 = 0
      rotate_left
      · have He := Lib.hid he3
        have Hs4 : Hid (stowD D2 ((p : Int) + 1) bs = (e3, D3)) := Lib.hid (by rw [Hs3.out, if_pos he3])
        rw [Hs4.out]
        clear he3
        go_enter Tryz.func109, Tryz.ntmps109
        go_wp2_with fail
        refine wp_loop_rounds 3 ?_
        rw [rounds_succ]
        go_wp2_with fail
        refine HW1.out.mono ?_
        rintro e w2 ⟨rfl, hS⟩
        have S1 := Lib.hid hS
        clear hS HW1 c0
        go_wp2_with fail
        refine (kfailed_any κ _ _ _).mono ?_
        rintro e w3 ⟨v, rfl, hv, hbf⟩
        obtain rfl := hv.zero
        have S2 := Lib.hid (S1.out.on hbf)
        clear hv hbf S1
        have HY := sync_stp HD.out S2.out.own HF1.out (by omega)
        rw [Hq2.out] at HY
        simp only at HY
        have HSy := Lib.hid HY
        clear HY
        go_wp2_with fail
        refine HSy.out.mono ?_
        rintro e w4 ⟨rfl, hS⟩
        have S3 := Lib.hid (S2.out.trans hS)
        clear hS HSy S2
        go_wp2_with fail
        refine (kfailed_any κ _ _ _).mono ?_
        rintro e w5 ⟨v, rfl, hv, hbf⟩
        obtain rfl := hv.zero
        have S4 := Lib.hid (S3.out.on hbf)
        clear hv hbf S3
        go_wp2_with fail
        rw [rounds_succ]
        have c1 : w5.cell? ⟨g, 1, none⟩ = some (.int .i64 ((p : Int) + 1)) := (S4.out.block HG0.out.1 HG0.out.2).1.cell 1
        have HY := write_stp HD.out S4.out.own HFs.out (by omega) ((p : Int) + 1) A bs c (S4.out.bytes HB0.out.1 HB0.out.2).1 (fun a e => ((S4.out.bytes HB0.out.1 HB0.out.2).2 a e).1) Hl.out
        rw [Hq3.out] at HY
        simp only at HY
        have HW3 := Lib.hid HY
        clear HY
        go_wp2_with fail
        refine HW3.out.mono ?_
        rintro e w6 ⟨rfl, hS⟩
        have S5 := Lib.hid (S4.out.trans hS)
        clear hS HW3 S4 c1
        go_wp2_with fail
        refine (kfailed_any κ _ _ _).mono ?_
        rintro e wf ⟨v, rfl, hv, hbf⟩
        obtain ⟨tf, xf, rfl⟩ := hv.some He.out
        have SF := Lib.hid (And.intro hv (S5.out.on hbf))
        clear hv hbf
        go_wp2_with fail
        go_ret
        exact ⟨_, rfl, SF.out.1, SF.out.2⟩
      · subst he3
        have Hs4 : Hid (stowD D2 ((p : Int) + 1) bs = D3.sync) := Lib.hid (by rw [Hs3.out, if_neg (fun hn => hn rfl)])
        rw [Hs4.out]
        obtain ⟨r4, hr4⟩ : ∃ r, D3.sync = r := ⟨_, rfl⟩
        have Hq4 := Lib.hid hr4
        rw [hr4]
        obtain ⟨e4, D4⟩ := r4
        simp only
        clear hr4
        go_enter Tryz.func109, Tryz.ntmps109
        go_wp2_with fail
        refine wp_loop_rounds 3 ?_
        rw [rounds_succ]
        go_wp2_with fail
        refine HW1.out.mono ?_
        rintro e w2 ⟨rfl, hS⟩
        have S1 := Lib.hid hS
        clear hS HW1 c0
        go_wp2_with fail
        refine (kfailed_any κ _ _ _).mono ?_
        rintro e w3 ⟨v, rfl, hv, hbf⟩
        obtain rfl := hv.zero
        have S2 := Lib.hid (S1.out.on hbf)
        clear hv hbf S1
        have HY := sync_stp HD.out S2.out.own HF1.out (by omega)
        rw [Hq2.out] at HY
        simp only at HY
        have HSy := Lib.hid HY
        clear HY
        go_wp2_with fail
        refine HSy.out.mono ?_
        rintro e w4 ⟨rfl, hS⟩
        have S3 := Lib.hid (S2.out.trans hS)
        clear hS HSy S2
        go_wp2_with fail
        refine (kfailed_any κ _ _ _).mono ?_
        rintro e w5 ⟨v, rfl, hv, hbf⟩
        obtain rfl := hv.zero
        have S4 := Lib.hid (S3.out.on hbf)
        clear hv hbf S3
        go_wp2_with fail
        rw [rounds_succ]
        have c1 : w5.cell? ⟨g, 1, none⟩ = some (.int .i64 ((p : Int) + 1)) := (S4.out.block HG0.out.1 HG0.out.2).1.cell 1
        have HY := write_stp HD.out S4.out.own HFs.out (by omega) ((p : Int) + 1) A bs c (S4.out.bytes HB0.out.1 HB0.out.2).1 (fun a e => ((S4.out.bytes HB0.out.1 HB0.out.2).2 a e).1) Hl.out
        rw [Hq3.out] at HY
        simp only at HY
        have HW3 := Lib.hid HY
        clear HY
        go_wp2_with fail
        refine HW3.out.mono ?_
        rintro e w6 ⟨rfl, hS⟩
        have S5 := Lib.hid (S4.out.trans hS)
        clear hS HW3 S4 c1
        go_wp2_with fail
        refine (kfailed_any κ _ _ _).mono ?_
        rintro e w7 ⟨v, rfl, hv, hbf⟩
        obtain rfl := hv.zero
        have S6 := Lib.hid (S5.out.on hbf)
        clear hv hbf S5
        have HY := sync_stp HD.out S6.out.own HF3.out (by omega)
        rw [Hq4.out] at HY
        simp only at HY
        have HSy := Lib.hid HY
        clear HY
        go_wp2_with fail
        refine HSy.out.mono ?_
        rintro e w8 ⟨rfl, hS⟩
        have S7 := Lib.hid (S6.out.trans hS)
        clear hS HSy S6
        go_wp2_with fail
        by_cases he4 : e4 = 0
        · subst he4
          refine (kfailed_any κ _ _ _).mono ?_
          rintro e w9 ⟨v, rfl, hv, hbf⟩
          obtain rfl := hv.zero
          have S8 := Lib.hid (S7.out.on hbf)
          clear hv hbf S7
          go_wp2_with fail
          rw [rounds_succ]
          go_wp2_with fail
          go_ret
          exact ⟨_, rfl, .inl ⟨rfl, rfl⟩, S8.out⟩
        · have He := Lib.hid he4
          clear he4
          refine (kfailed_any κ _ _ _).mono ?_
          rintro e wf ⟨v, rfl, hv, hbf⟩
          obtain ⟨tf, xf, rfl⟩ := hv.some He.out
          have SF := Lib.hid (And.intro hv (S7.out.on hbf))
          clear hv hbf
          go_wp2_with fail
          go_ret
          exact ⟨_, rfl, SF.out.1, SF.out.2⟩
end
end Go.Proofs.YtpaikolnampcfaaGreatDoor
