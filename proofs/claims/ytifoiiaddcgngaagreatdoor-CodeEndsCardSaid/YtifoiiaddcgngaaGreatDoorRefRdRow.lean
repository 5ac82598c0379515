/- The document's own reader: rows. -/
import Derived.Test.YtifoiiaddcgngaaGreatDoorRefRdText
namespace Go.Proofs.YtifoiiaddcgngaaGreatDoor
open Go.RowKit
theorem runR_stop (bs : List Int) (s : RSt) (i : Nat) (p : Nat) (l : Bool) (h : (runR bs i s).2 = .bad p l) : ∀ n, i ≤ n → (runR bs n s).2 = .bad p l := by
  intro n hn
  induction n with
  | zero => obtain rfl : i = 0 := by omega
            exact h
  | succ n ih =>
    rcases Nat.lt_or_ge n i with hlt | hge
    · obtain rfl : i = n + 1 := by omega
      exact h
    · have := ih hge
      show (fieldR bs 6 (runR bs n s).2).2 = _
      rw [this]; rfl
set_option maxRecDepth 100000 in
set_option maxHeartbeats 2000000 in
theorem rrRow_any {lo : Nat} (w : World) (g : Nat) (bs : List Int) (s : RSt) (most : Int) (h : RrAt lo w g bs s) (hl : bs.length ≤ 140737488351232) :
    Calls Tryz.prog 37 #[.pointer (some ⟨g, 0, none⟩), .int .i64 most] w fun e w' => ∃ v, e = .returned v ∧ w'.ownsRow w.heap.size 3 1 v (rowR bs most s).1.length (i64s (rowR bs most s).1) ∧ RGot lo w g bs (rowR bs most s).2 w' := by
  cases s with
  | bad p l =>
    have HF := Lib.hid (rrField_bad w g bs p l 1 h)
    have HG := Lib.hid (RGot.same h)
    obtain ⟨x, cap, k, e, b, h⟩ := h
    obtain ⟨rfl, rfl, hk⟩ := h.st
    obtain ⟨c0, c1, c2, c3⟩ := h.cells
    have hne : (errCode l != 0) = true := by cases l <;> rfl
    have heq : (errCode l == 0) = false := by cases l <;> rfl
    clear h
    go_enter Tryz.func37, Tryz.ntmps37
    go_wp2_with fail
    refine HF.out.mono ?_
    rintro e w' ⟨rfl, rfl⟩
    go_wp2_with fail
    go_quiet (fail)
    go_wp2_with fail
    go_loopg [7, 8] 0 (fun gk o i wx => gk = 0 ∧ o = .slice none 0 0 ∧ i = .int .i64 0 ∧ wx = w.drewN nq)
    case atStart => exact ⟨rfl, rfl, rfl, rfl⟩
    case round =>
      obtain ⟨_, rfl, rfl, rfl⟩ := hrel
      go_wp2_with fail
      go_ret
      exact ⟨_, rfl, World.ownsRow_nil _ _ _ _, HG.out.on (drewN_below (Below.refl _ _) _)⟩
  | ok j =>
    have hjl := h.le
    obtain ⟨x, cap, k, e, b, hI⟩ := h
    obtain ⟨rfl, rfl, rfl, hj⟩ := hI.st
    obtain ⟨c0, c1, c2, c3⟩ := hI.cells
    have hbb := hI.bytes.1
    have HF := Lib.hid (rrField_any w g bs (.ok k) 1 ⟨x, cap, k, 0, 0, hI⟩ hl (by omega))
    have HI := Lib.hid hI
    clear hI
    rcases fieldR_two bs hbb 1 k hj with hf | ⟨n, hf, hn, hk2⟩
    · rw [show ((1 : Nat) : Int) = 1 from rfl] at hf
      have Ht := Lib.hid (show rowR bs most (.ok k) = ([], .bad k false) by simp only [rowR, countR, hf])
      rw [hf] at HF
      have Hf := Lib.hid hf
      clear hf hbb
      go_enter Tryz.func37, Tryz.ntmps37
      go_wp2_with fail
      refine HF.out.mono ?_
      rintro e w1 ⟨rfl, hG⟩
      obtain ⟨x1, cap1, k1, e1, b1, hI1⟩ := hG.rd
      obtain ⟨rfl, rfl, hk1⟩ := hI1.st
      obtain ⟨d0, d1, d2, d3⟩ := hI1.cells
      have HG := Lib.hid hG
      unfold errCode at d2
      clear hG hI1 c0 c1 c2 c3
      go_wp2_with fail
      go_quiet (fail)
      go_wp2_with fail
      go_loopg [7, 8] 0 (fun gk o i wx => gk = 0 ∧ o = .slice none 0 0 ∧ i = .int .i64 0 ∧ wx = w1.drewN nq)
      case atStart => exact ⟨rfl, rfl, rfl, rfl⟩
      case round =>
        obtain ⟨_, rfl, rfl, rfl⟩ := hrel
        go_wp2_with fail
        go_ret
        rw [Ht.out]
        exact ⟨_, rfl, World.ownsRow_nil _ _ _ _, HG.out.on (drewN_below (Below.refl _ _) _)⟩
    · rw [show ((1 : Nat) : Int) = 1 from rfl] at hf hn
      rw [hf] at HF
      have hn : (n : Int) ≤ 255 := hn
      have Hbb := Lib.hid hbb
      by_cases hm : (n : Int) > most
      · have Ht := Lib.hid (show rowR bs most (.ok k) = ([], .bad k true) by simp only [rowR, countR, hf]; rw [if_pos hm])
        clear hf hbb
        go_enter Tryz.func37, Tryz.ntmps37
        go_wp2_with fail
        refine HF.out.mono ?_
        rintro e w1 ⟨rfl, hG⟩
        have hFl := rrfail_any w1 g bs (k + 1) k true hG.rd
        obtain ⟨x1, cap1, k1, e1, b1, hI1⟩ := hG.rd
        obtain ⟨rfl, rfl, rfl, hk1⟩ := hI1.st
        obtain ⟨d0, d1, d2, d3⟩ := hI1.cells
        have HG := Lib.hid hG
        unfold errCode at hFl
        have HFl := Lib.hid hFl
        clear hG hI1 c0 c1 c2 c3 hFl
        go_wp2_with fail
        refine HFl.out.mono ?_
        rintro e w2 ⟨rfl, hG2⟩
        obtain ⟨x2, cap2, k2, e2, b2, hI2⟩ := hG2.rd
        obtain ⟨rfl, rfl, hk2⟩ := hI2.st
        obtain ⟨d0, d1, d2, d3⟩ := hI2.cells
        have HG2 := Lib.hid (HG.out.trans hG2)
        unfold errCode at d2
        clear hG2 hI2
        go_wp2_with fail
        go_quiet (fail)
        go_wp2_with fail
        go_loopg [7, 8] 0 (fun gk o i wx => gk = 0 ∧ o = .slice none 0 0 ∧ i = .int .i64 0 ∧ wx = w2.drewN nq)
        case atStart => exact ⟨rfl, rfl, rfl, rfl⟩
        case round =>
          obtain ⟨_, rfl, rfl, rfl⟩ := hrel
          rcases Nat.eq_zero_or_pos n with hn0 | hn0
          · have hn1 : decide ((0 : Int) < (n : Int)) = false := decide_eq_false (by omega)
            go_wp2_with fail
            go_ret
            rw [Ht.out]
            exact ⟨_, rfl, World.ownsRow_nil _ _ _ _, HG2.out.on (drewN_below (Below.refl _ _) _)⟩
          · skip
            go_wp2_with fail
            go_ret
            rw [Ht.out]
            exact ⟨_, rfl, World.ownsRow_nil _ _ _ _, HG2.out.on (drewN_below (Below.refl _ _) _)⟩
      · have hm2 : decide (most < (n : Int)) = false := decide_eq_false hm
        by_cases hs : 6 * (n : Int) > (bs.length : Int) - ((k : Int) + 1)
        · have Ht := Lib.hid (show rowR bs most (.ok k) = ([], .bad k false) by simp only [rowR, countR, hf]; rw [if_neg hm, if_pos (by omega)])
          clear hf hbb
          go_enter Tryz.func37, Tryz.ntmps37
          go_wp2_with fail
          refine HF.out.mono ?_
          rintro e w1 ⟨rfl, hG⟩
          have HFl := Lib.hid (fun m => rrfail_any (w1.drewN m) g bs (k + 1) k false (hG.rd.drewN m))
          obtain ⟨x1, cap1, k1, e1, b1, hI1⟩ := hG.rd
          obtain ⟨rfl, rfl, rfl, hk1⟩ := hI1.st
          obtain ⟨d0, d1, d2, d3⟩ := hI1.cells
          have HG := Lib.hid hG
          unfold errCode at HFl
          clear hG hI1 c0 c1 c2 c3
          go_wp2_with fail
          go_quiet (fail)
          go_wp2_with fail
          refine (HFl.out _).mono ?_
          rintro e w2 ⟨rfl, hG2⟩
          obtain ⟨x2, cap2, k2, e2, b2, hI2⟩ := hG2.rd
          obtain ⟨rfl, rfl, hk2⟩ := hI2.st
          obtain ⟨d0, d1, d2, d3⟩ := hI2.cells
          have HG2 := Lib.hid ((HG.out.on (drewN_below (Below.refl _ _) _)).trans hG2)
          unfold errCode at d2
          clear hG2 hI2
          go_wp2_with fail
          go_loopg [7, 8] 0 (fun gk o i wx => gk = 0 ∧ o = .slice none 0 0 ∧ i = .int .i64 0 ∧ wx = w2)
          case atStart => exact ⟨rfl, rfl, rfl, rfl⟩
          case round =>
            obtain ⟨_, rfl, rfl, rfl⟩ := hrel
            go_wp2_with fail
            go_ret
            rw [Ht.out]
            exact ⟨_, rfl, World.ownsRow_nil _ _ _ _, HG2.out⟩
        · have hs2 : decide ((bs.length : Int) - ((k : Int) + 1) < 6 * (n : Int)) = false := decide_eq_false (by omega)
          have Hc := Lib.hid (show rowR bs most (.ok k) = match runR bs n (.ok (k + 1)) with
            | (_, .bad p l) => ([], .bad p l)
            | (xs, .ok i) => (xs, .ok i) by simp only [rowR, countR, hf]; rw [if_neg hm, if_neg (by omega)]; simp only [Int.toNat_natCast]; generalize runR bs n (RSt.ok (k + 1)) = q; obtain ⟨q1, q2⟩ := q; cases q2 <;> rfl)
          obtain ⟨i0, hi, hz0, hz1, hz2⟩ := info_parts infoInt
          have hglt := HI.out.blk.lt
          clear hf hbb
          go_enter Tryz.func37, Tryz.ntmps37
          go_wp2_with fail
          refine HF.out.mono ?_
          rintro e w1 ⟨rfl, hG⟩
          obtain ⟨x1, cap1, k1, e1, b1, hI1⟩ := hG.rd
          obtain ⟨rfl, rfl, rfl, hk1⟩ := hI1.st
          obtain ⟨d0, d1, d2, d3⟩ := hI1.cells
          have HG := Lib.hid hG
          rw [show ((k + 1 : Nat) : Int) = (k : Int) + 1 by omega] at d1
          clear hG hI1 c0 c1 c2 c3
          go_wp2_with fail
          go_quiet (fail)
          go_wp2_with fail
          go_loopg [7, 8] n (fun gk o i wx => ∃ j : Nat, gk = n - j ∧ j ≤ n ∧ i = .int .i64 (j : Int) ∧ Hid (RGot lo w g bs (runR bs j (.ok (k + 1))).2 wx) ∧ wx.ownsRow w.heap.size 3 1 o j (i64s (runR bs j (.ok (k + 1))).1))
          case atStart => exact ⟨0, rfl, by omega, rfl, Lib.hid (HG.out.on (drewN_below (Below.refl _ _) _)), World.ownsRow_nil _ _ _ _⟩
          case round =>
            clear d0 d1 d2 d3
            obtain ⟨j, hgj, hjn, rfl, hg, hown⟩ := hrel
            have Hgj := Lib.hid hgj; clear hgj
            cases hst : (runR bs j (.ok (k + 1))).2 with
            | bad p l =>
              have hfin := runR_stop bs (.ok (k + 1)) j p l hst n hjn
              rw [hst] at hg
              have Hr := Lib.hid (show rowR bs most (.ok k) = ([], .bad p l) by
                rw [Hc.out]
                generalize runR bs n (.ok (k + 1)) = q at hfin
                obtain ⟨q1, q2⟩ := q
                simp only at hfin
                subst hfin; rfl)
              obtain ⟨x2, cap2, k2, e2, b2, hI2⟩ := hg.out.rd
              obtain ⟨rfl, rfl, hk2⟩ := hI2.st
              obtain ⟨d0, d1, d2, d3⟩ := hI2.cells
              have hne : (errCode l != 0) = true := by cases l <;> rfl
              have heq : (errCode l == 0) = false := by cases l <;> rfl
              clear hfin hst hI2 hown
              by_cases hjlt : j < n
              · go_wp2_with fail
                go_ret
                rw [Hr.out]
                exact ⟨_, rfl, World.ownsRow_nil _ _ _ _, hg.out⟩
              · have hjn2 : decide ((j : Int) < (n : Int)) = false := decide_eq_false (by omega)
                go_wp2_with fail
                go_ret
                rw [Hr.out]
                exact ⟨_, rfl, World.ownsRow_nil _ _ _ _, hg.out⟩
            | ok q =>
              rw [hst] at hg
              obtain ⟨x2, cap2, k2, e2, b2, hI2⟩ := hg.out.rd
              obtain ⟨rfl, rfl, rfl, hk2⟩ := hI2.st
              obtain ⟨d0, d1, d2, d3⟩ := hI2.cells
              obtain ⟨Y, yc, rfl, _, hym⟩ := own_slice hown
              unfold maxLen at hym
              by_cases hjlt : j < n
              · have HF6 := Lib.hid (rrField_any wr g bs (.ok k2) 6 hg.out.rd hl (by omega))
                have Hnx := Lib.hid (show runR bs (j + 1) (.ok (k + 1)) = ((runR bs j (.ok (k + 1))).1 ++ [(fieldR bs 6 (.ok k2)).1], (fieldR bs 6 (.ok k2)).2) by rw [← hst]; rfl)
                have Hown := Lib.hid hown
                generalize fieldR bs 6 (.ok k2) = r at *
                clear hst hI2 hown d0 d1 d3
                go_wp2_with fail
                refine HF6.out.mono ?_
                rintro e w3 ⟨rfl, hG3⟩
                have hsz := hg.out.fr.size
                have hown3 := Hown.out.kept hG3.fr (by
                  cases hb : (Value.slice Y j yc).ownBlock with
                  | none => exact .inl rfl
                  | some b => exact .inr (fun e => by have := (Hown.out.lt b hb).1; have := Option.some.inj e; omega))
                have HG3 := Lib.hid (hg.out.trans hG3)
                clear hG3 HF6
                have hsz3 := HG3.out.fr.size
                go_wp2_with (at_builtin; refine wpList_append_own _ rfl _ _ 22 rfl w.heap.size 3 i0 (.int .i64 0) 1 8 Tryz.underlying22 hi hz0 hz1 hz2 rfl (by decide) _ _ _ rfl (hown3.alloc _) ⟨w3.heap.size, 0, none⟩ 1 1 [.int .i64 r.1] rfl rfl (cell_one_new _ _ _) ?c3 ?c4 ?c5 ?c6 ?_)
                case c3 => intro u hu; rw [List.mem_singleton.1 hu]; rfl
                case c4 => unfold maxLen; omega
                case c5 => omega
                case c6 => simp; omega
                intro v4 w4 hown4 hgrow4 _
                have HS := Lib.hid (And.intro (HG3.out.on (below_new w3 (.cells #[.int .i64 r.1] 3)) |>.far hgrow4 (fun b e => (Hown.out.lt b e).1) hglt) hown4)
                clear hown3 hown4 hgrow4 d2
                go_wp2_with fail
                go_roundg (n - (j + 1))
                case measure => rw [Hgj.out]; omega
                case rel => exact ⟨j + 1, rfl, by omega, by go_num, Lib.hid (by rw [Hnx.out]; exact HS.out.1), own_same HS.out.2 rfl (by rw [Hnx.out]; simp [i64s])⟩
              · obtain rfl : n = j := by omega
                have Hr := Lib.hid (show rowR bs most (.ok k) = ((runR bs n (.ok (k + 1))).1, .ok k2) by
                  rw [Hc.out]
                  generalize runR bs n (.ok (k + 1)) = q at hst
                  obtain ⟨q1, q2⟩ := q
                  simp only at hst
                  subst hst; rfl)
                have Hlen := Lib.hid (show (runR bs n (.ok (k + 1))).1.length = n from runR_len bs n _)
                have Hown := Lib.hid hown
                clear hst hI2 hown
                go_wp2_with fail
                go_ret
                rw [Hr.out]
                exact ⟨_, rfl, own_same Hown.out Hlen.out.symm rfl, hg.out⟩
end Go.Proofs.YtifoiiaddcgngaaGreatDoor
