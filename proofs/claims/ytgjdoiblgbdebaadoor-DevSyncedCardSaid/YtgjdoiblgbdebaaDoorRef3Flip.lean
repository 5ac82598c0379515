/- The document's disk: Rot, Wipe, Arm, Crash. -/
/- The document's disk: Rot. -/
import Derived.Test.YtgjdoiblgbdebaaDoorRef3Rot
import Derived.Test.YtgjdoiblgbdebaaDoorRef3Sync
namespace Go.Proofs.YtgjdoiblgbdebaaDoor
open Go.RowKit
section
variable {w : World} {T : Nat → Prop} {h : Nat} {D : DM}
/-- A new row of bytes is the disk's. -/
theorem Ref3.after {w1 w2 : World} {D' : DM} {P : Nat → Prop} (hb : Below w.heap.size w w1) (hP : ∀ j, P j → T j ∨ (w.heap.size ≤ j ∧ j < w1.heap.size)) (k : RefAt3 w2 P h D') (hc : Chg P w1 w2) (hf : ∀ j, T j → j < w.heap.size) : Ref3 w T h D' w2 := by
  have hC : Chg T w w2 := (Chg.of_below hb).trans (hc.mono (fun j hj => hP j hj))
  refine ⟨k.mono (fun j hj => ?_) (grow_lt hf hC.size), hC⟩
  rcases hP j hj with h1 | h1
  · exact .inl h1
  · exact .inr ⟨h1.1, Nat.lt_of_lt_of_le h1.2 hc.size⟩
set_option maxRecDepth 100000 in
set_option maxHeartbeats 2000000 in
theorem wipe3_any (k : RefAt3 w T h D) (n : Int) :
    Calls Tryd.prog 40 #[.pointer (some ⟨h, 0, none⟩), .int .i64 n] w fun e w' => e = .returned (.int .i64 (D.wipe n).1) ∧ Ref3 w T h (D.wipe n).2 w' := by
  have Hk := Lib.hid k
  obtain ⟨cv, wv, C, L, ar, tu, cr, dn, R, M⟩ := k
  have HT := Lib.hid (there_any R n)
  rw [M.there] at HT
  clear R M
  by_cases hn : D.has n
  · rw [decide_eq_true hn] at HT
    have hn0 := hn
    unfold DM.has at hn0
    obtain ⟨m, rfl⟩ := Int.eq_ofNat_of_zero_le hn0.1
    have Hw : Hid (D.wipe m = D.hurt m zero256) := Lib.hid (by unfold DM.wipe; rw [if_pos hn, Int.toNat_natCast]; rfl)
    have hbn := below_new w (.cells (u8s zero256).toArray 5)
    have ho := World.ownsRow_lit (base := 0) (e := 5) (size := 1) w (u8s zero256).toArray 256 (Nat.zero_le _) (by decide) (by rw [List.size_toArray, u8s_len, zero256_len])
    have hT1 : ∀ j, (T j ∨ j = w.heap.size) → j < (w.alloc (.cells (u8s zero256).toArray 5)).heap.size := by
      intro j hj
      rw [size1]
      rcases hj with hj | rfl
      · have := Hk.out.foot j hj; omega
      · omega
    have HH := Lib.hid (hurt3_any (w := w.alloc (.cells (u8s zero256).toArray 5)) (T := fun j => T j ∨ j = w.heap.size) ((Hk.out.below hbn).mono (fun _ hj => .inl hj) hT1) m hn ⟨w.heap.size, 256, zero256⟩ ⟨by simpa [RB.v] using ho, nought_ok, .inr rfl⟩)
    have Hbn := Lib.hid hbn
    have hmk := made256r
    clear hn hn0 hbn ho hT1
    unfold RB.v at *
    go_enter Tryd.func40, Tryd.ntmps40
    go_wp2_with fail
    refine HT.out.mono ?_
    rintro e w' ⟨rfl, rfl⟩
    go_wp2_with fail
    refine HH.out.mono ?_
    rintro e w2 ⟨rfl, h2, h3⟩
    have H2 := Lib.hid (And.intro h2 h3)
    clear h2 h3
    go_wp2_with fail
    go_ret
    rw [Hw.out]
    refine ⟨rfl, Ref3.after Hbn.out (fun j hj => ?_) H2.out.1 H2.out.2 Hk.out.foot⟩
    rcases hj with hj | rfl
    · exact .inl hj
    · exact .inr ⟨Nat.le_refl _, by rw [size1]; omega⟩
  · have Hw : Hid (D.wipe n = (2, D)) := Lib.hid (by unfold DM.wipe; rw [if_neg hn])
    rw [decide_eq_false hn] at HT
    go_enter Tryd.func40, Tryd.ntmps40
    go_wp2_with fail
    refine HT.out.mono ?_
    rintro e w' ⟨rfl, rfl⟩
    go_wp2_with fail
    go_ret
    rw [Hw.out]
    exact ⟨rfl, Ref3.same Hk.out⟩
set_option maxRecDepth 100000 in
theorem arm3_any (k : RefAt3 w T h D) (n : Int) (hn : n ≤ 9223372036854775807) :
    Calls Tryd.prog 36 #[.pointer (some ⟨h, 0, none⟩), .int .i64 n] w fun e w' => e = .returned (.tuple #[]) ∧ Ref3 w T h (D.arm n) w' := by
  have Hk := Lib.hid k
  obtain ⟨cv, wv, C, L, ar, tu, cr, dn, R, M⟩ := k
  have c5 := R.cell6.2.2.2.2.2
  have HM := Lib.hid M
  have HR := Lib.hid R
  rw [M.dn] at c5
  cases hd : D.down with
  | true =>
    have Hw : Hid (D.arm n = D) := Lib.hid (by unfold DM.arm; rw [if_pos hd])
    rw [hd] at c5
    clear hd R M
    go_enter Tryd.func36, Tryd.ntmps36
    go_wp2_with fail
    go_end0
    rw [Hw.out]
    exact ⟨rfl, Ref3.same Hk.out⟩
  | false =>
    have Hw : Hid (D.arm n = { D with armed := n.toNat }) := Lib.hid (by unfold DM.arm; rw [if_neg (by rw [hd]; decide)])
    rw [hd] at c5
    have c2 := R.cell6.2.2.1
    have f2 := R.blk.free 2
    have H2 := Lib.hid (And.intro (R.setA (n.toNat : Int)) (R.chg1 2 (.int .i64 (n.toNat : Int))))
    clear hd R M
    by_cases h0 : 0 < n
    · have hmx : ((n.toNat : Nat) : Int) = n := Int.toNat_of_nonneg (by omega)
      rw [hmx] at H2
      have Hmx := Lib.hid hmx
      clear hmx
      go_enter Tryd.func36, Tryd.ntmps36
      go_wp2_with fail
      all_goals go_end0
      all_goals rw [Hw.out]
      all_goals exact ⟨rfl, Ref3.of (H2.out.1.mono (fun _ hj => .inl hj) (grow_lt HR.out.foot H2.out.2.size)) ⟨HM.out.cells, HM.out.waits, Hmx.out.symm, HM.out.tu, HM.out.cr, HM.out.dn, by show n.toNat ≤ _; omega⟩ H2.out.2⟩
    · by_cases h1 : n = 0
      · subst h1
        have hmx : (((0 : Int).toNat : Nat) : Int) = 0 := rfl
        rw [hmx] at H2
        have Hmx := Lib.hid hmx
        clear hmx
        go_enter Tryd.func36, Tryd.ntmps36
        go_wp2_with fail
        all_goals go_end0
        all_goals rw [Hw.out]
        all_goals exact ⟨rfl, Ref3.of (H2.out.1.mono (fun _ hj => .inl hj) (grow_lt HR.out.foot H2.out.2.size)) ⟨HM.out.cells, HM.out.waits, Hmx.out.symm, HM.out.tu, HM.out.cr, HM.out.dn, by show (0 : Int).toNat ≤ _; decide⟩ H2.out.2⟩
      · have h2 : n < 0 := by omega
        have hmx : ((n.toNat : Nat) : Int) = 0 := by omega
        rw [hmx] at H2
        have Hmx := Lib.hid hmx
        clear hmx
        go_enter Tryd.func36, Tryd.ntmps36
        go_wp2_with fail
        all_goals go_end0
        all_goals rw [Hw.out]
        all_goals exact ⟨rfl, Ref3.of (H2.out.1.mono (fun _ hj => .inl hj) (grow_lt HR.out.foot H2.out.2.size)) ⟨HM.out.cells, HM.out.waits, Hmx.out.symm, HM.out.tu, HM.out.cr, HM.out.dn, by show n.toNat ≤ _; omega⟩ H2.out.2⟩
set_option maxRecDepth 100000 in
theorem crash3_any (k : RefAt3 w T h D) (hF : D.Few 1000000) :
    Calls Tryd.prog 37 #[.pointer (some ⟨h, 0, none⟩)] w fun e w' => e = .returned (.int .i64 D.crash.1) ∧ Ref3 w T h D.crash.2 w' := by
  have Hk := Lib.hid k
  obtain ⟨cv, wv, C, L, ar, tu, cr, dn, R, M⟩ := k
  have c5 := R.cell6.2.2.2.2.2
  have HM := Lib.hid M
  have HR := Lib.hid R
  rw [M.dn] at c5
  cases hd : D.down with
  | true =>
    have Hw : Hid (D.crash = (11, D)) := Lib.hid (by unfold DM.crash; rw [if_pos hd])
    rw [hd] at c5
    clear hd R M
    go_enter Tryd.func37, Tryd.ntmps37
    go_wp2_with fail
    go_ret
    rw [Hw.out]
    exact ⟨rfl, Ref3.same Hk.out⟩
  | false =>
    have Hw : Hid (D.crash = (0, { D with down := true, crashes := D.crashes + 1 })) := Lib.hid (by unfold DM.crash; rw [if_neg (by rw [hd]; decide)])
    rw [hd] at c5
    have f5 := R.blk.free 5
    have k1 := R.setD true
    have c4 := k1.cell6.2.2.2.2.1
    have f4 := k1.blk.free 4
    have k2 := k1.setCr (cr + 1)
    have H2 := Lib.hid (And.intro k2 (((Chg.refl T w).set (b := h) (i := 5) (.inl R.self) (.bool true)).set (b := h) (i := 4) (.inl R.self) (.int .i64 (cr + 1))))
    have hc0 : 0 ≤ cr := by rw [M.cr]; omega
    have hc1 : cr ≤ 1000000 := by rw [M.cr]; have := hF.cr; omega
    clear hd R M k1 k2 hF
    go_enter Tryd.func37, Tryd.ntmps37
    go_wp2_with fail
    go_ret
    rw [Hw.out]
    refine ⟨rfl, Ref3.of (H2.out.1.mono (fun _ hj => .inl hj) (grow_lt HR.out.foot H2.out.2.size)) ⟨HM.out.cells, HM.out.waits, HM.out.ar, HM.out.tu, ?_, rfl, HM.out.lo⟩ H2.out.2⟩
    rw [HM.out.cr]; rfl
end
end Go.Proofs.YtgjdoiblgbdebaaDoor
namespace Go.Proofs.YtgjdoiblgbdebaaDoor
open Go.RowKit
section
variable {w : World} {T : Nat → Prop} {h : Nat} {D : DM}
set_option maxRecDepth 100000 in
set_option maxHeartbeats 4000000 in
theorem rot3_any (k : RefAt3 w T h D) (n bit : Int) (mask : Nat) (hmask : mask < 4294967296) :
    Calls Tryd.prog 39 #[.pointer (some ⟨h, 0, none⟩), .int .i64 n, .int .i64 bit, .int .u32 (mask : Int)] w fun e w' => e = .returned (.int .i64 (D.rot n bit mask).1) ∧ Ref3 w T h (D.rot n bit mask).2 w' := by
  have Hk := Lib.hid k
  obtain ⟨cv, wv, C, L, ar, tu, cr, dn, R, M⟩ := k
  have HT := Lib.hid (there_any R n)
  rw [M.there] at HT
  by_cases hn : D.has n
  · rw [decide_eq_true hn] at HT
    by_cases hb0 : bit < 0
    · have Hw : Hid (D.rot n bit mask = (2, D)) := Lib.hid (by unfold DM.rot; rw [if_neg (fun e => by omega)])
      clear R M hn
      go_enter Tryd.func39, Tryd.ntmps39
      go_wp2_with fail
      refine HT.out.mono ?_
      rintro e w' ⟨rfl, rfl⟩
      go_wp2_with fail
      go_ret
      rw [Hw.out]
      exact ⟨rfl, Ref3.same Hk.out⟩
    · by_cases hb1 : 2048 ≤ bit
      · have Hw : Hid (D.rot n bit mask = (2, D)) := Lib.hid (by unfold DM.rot; rw [if_neg (fun e => by omega)])
        clear R M hn
        go_enter Tryd.func39, Tryd.ntmps39
        go_wp2_with fail
        refine HT.out.mono ?_
        rintro e w' ⟨rfl, rfl⟩
        go_wp2_with fail
        go_ret
        rw [Hw.out]
        exact ⟨rfl, Ref3.same Hk.out⟩
      · obtain ⟨bt, rfl⟩ := Int.eq_ofNat_of_zero_le (show (0 : Int) ≤ bit by omega)
        have hn0 := hn
        unfold DM.has at hn0
        obtain ⟨m, rfl⟩ := Int.eq_ofNat_of_zero_le hn0.1
        have hm : m < C.length := by have := M.cells; have h1 := hn0.2; rw [this, List.length_map] at h1; omega
        have Hw0 : D.rot m bt mask = D.hurt m (flipK (D.stored m) bt mask (min 32 (2048 - bt))) := by unfold DM.rot; rw [if_pos ⟨hn, by omega, by omega⟩, Int.toNat_natCast, Int.toNat_natCast]
        rw [M.stored hm] at Hw0
        have Hw := Lib.hid Hw0
        obtain ⟨N, hN⟩ : ∃ N, N = min 32 (2048 - bt) := ⟨_, rfl⟩
        rw [← hN] at Hw
        have hN1 : N ≤ 32 := by omega
        have hN2 : bt + N ≤ 2048 := by omega
        have hN3 : N = 32 ∨ bt + N = 2048 := by omega
        obtain ⟨g, cap, hcv, h1, h2⟩ := R.cform (by omega)
        have hb := R.cb C[m] (List.getElem_mem hm)
        have c0 := R.cell6.1
        rw [hcv] at c0
        have e0 := (R.cat hm hcv).1
        have Hb := Lib.hid hb
        have hM := R.many
        have hi1 : (0 : Int) ≤ (m : Int) := by omega
        have hi2 : (m : Int) < (C.length : Int) := by omega
        have hbn := below_new w (.cells #[] 5)
        have c0' := cell_below c0 hbn
        have e0' := cell_below e0 hbn
        have H1 := Lib.hid (And.intro hbn (And.intro (BlockIs.made w 5 #[]) (hb.bytes.below hbn)))
        have Hn := Lib.hid hn
        clear R M hcv hn Hw0 hb hbn c0 e0 hn0 hN
        generalize C[m].b = b at *
        have Hl := Lib.hid Hb.out.bd.1
        unfold RB.v at *
        go_enter Tryd.func39, Tryd.ntmps39
        go_wp2_with fail
        refine HT.out.mono ?_
        rintro e w' ⟨rfl, rfl⟩
        go_wp2_with (refine wpList_clone8 rfl (.tmp 23) (.tmp 31) rfl w.heap.size rfl H1.out.2.1 (some ⟨b.g, 0, none⟩) b.bs 256 b.cap rfl Hl.out (by decide) H1.out.2.2 (by decide) ?_; intro g3 cap3 w3 ho3 hg3 hc3 hm3 hgr3)
        have H3 := Lib.hid (And.intro ho3 (And.intro hg3 (H1.out.1.grown hgr3 (by simp) (fun k e => by cases e; exact Nat.le_refl _))))
        clear ho3 hg3 hgr3 c0' e0'
        have hc3' : 256 ≤ (cap3 : Int) := by omega
        go_loopg [10] N (fun gk i wx => ∃ q : Nat, gk = N - q ∧ q ≤ N ∧ i = .int .i64 (q : Int) ∧ Hid (wx.ownsRow 0 5 1 (.slice (some ⟨g3, 0, none⟩) 256 cap3) 256 (u8s (flipK b.bs bt mask q)) ∧ w3.grownBy wx (some g3)))
        case atStart => exact ⟨0, rfl, Nat.zero_le _, rfl, Lib.hid ⟨H3.out.1, World.grownBy.refl _ _⟩⟩
        case round =>
          obtain ⟨q, hgk, hq, rfl, hR⟩ := hrel
          have Hgk := Lib.hid hgk
          clear hgk
          by_cases hlt : q < N
          · have hlt1 : (q : Int) < 32 := by omega
            have hlt2 : (bt : Int) + (q : Int) < 2048 := by omega
            have hok := flipK_ok Hb.out.bd bt mask q
            have hj : (bt + q) / 8 < 256 := by omega
            have cx : wr.cell? ⟨g3, (bt + q) / 8, none⟩ = some (.int .u8 ((flipK b.bs bt mask q).getD ((bt + q) / 8) 0)) := by
              rw [hR.out.1.cellAt _ (by omega)]
              unfold u8s
              rw [List.getElem?_map, List.getD_eq_getElem?_getD, List.getElem?_eq_getElem (by rw [hok.1]; exact hj)]; rfl
            have fx := hR.out.1.frozenAt ((bt + q) / 8)
            have hxb : 0 ≤ (flipK b.bs bt mask q).getD ((bt + q) / 8) 0 ∧ (flipK b.bs bt mask q).getD ((bt + q) / 8) 0 < 256 := by
              rw [List.getD_eq_getElem?_getD, List.getElem?_eq_getElem (by rw [hok.1]; exact hj)]
              exact hok.2 _ (List.getElem_mem _)
            have hmb := mask_bit mask q hmask
            cases ht : mask.testBit q with
            | true =>
              rw [ht, if_pos rfl] at hmb
              have hfl := flip_val _ hxb mask q ((bt + q) % 8) hmask (Nat.mod_lt _ (by decide))
              rw [ht, if_pos rfl, hmb, show (1 % 256 : Int) = 1 from rfl, Int.one_mul] at hfl
              have HF : Hid (flipK b.bs bt mask (q + 1) = (flipK b.bs bt mask q).set ((bt + q) / 8) (bits .xor .u8 ((flipK b.bs bt mask q).getD ((bt + q) / 8) 0) (2 ^ ((bt + q) % 8) % 256))) := Lib.hid (by
                rw [hfl]
                conv => lhs; unfold flipK flipAt
                rw [ht, if_pos rfl])
              clear hfl hxb ht
              generalize (flipK b.bs bt mask q).getD ((bt + q) / 8) 0 = x at *
              have Hok := Lib.hid hok
              clear hok
              go_wp2_with fail
              go_region
              have HS := Lib.hid (hR.out.1.stored ((bt + q) / 8) (.int .u8 (bits .xor .u8 x (2 ^ ((bt + q) % 8) % 256))))
              clear cx fx
              generalize (bits .xor .u8 x (2 ^ ((bt + q) % 8) % 256)) = y at *
              go_wp2_with fail
              go_roundg (N - (q + 1))
              case measure => rw [Hgk.out]; omega
              case rel =>
                refine ⟨q + 1, rfl, by omega, by go_num, Lib.hid ⟨?_, ?_⟩⟩
                · rw [HF.out, ← u8s_set]; exact HS.out.1
                · have hg := grown_at hR.out.2 ((bt + q) / 8) (.int .u8 y)
                  exact ⟨hg.os, hg.tape, hg.output, hg.size, hg.block⟩
            | false =>
              rw [ht, if_neg Bool.false_ne_true] at hmb
              have HF : Hid (flipK b.bs bt mask (q + 1) = flipK b.bs bt mask q) := Lib.hid (by
                conv => lhs; unfold flipK flipAt
                rw [ht, if_neg Bool.false_ne_true])
              clear cx fx hxb hok ht
              go_wp2_with fail
              go_roundg (N - (q + 1))
              case measure => rw [Hgk.out]; omega
              case rel => exact ⟨q + 1, rfl, by omega, by go_num, Lib.hid ⟨by rw [HF.out]; exact hR.out.1, hR.out.2⟩⟩
          · obtain rfl : q = N := by omega
            have hB : Below w.heap.size w wr := below_grown H3.out.2.2 hR.out.2 H3.out.2.2.size H3.out.2.1
            have hlt3 := (hR.out.1.lt g3 rfl).2
            have hT1 : ∀ j, (T j ∨ j = g3) → j < wr.heap.size := by
              rintro j (hj | rfl)
              · have := Hk.out.foot j hj; have := hB.size; omega
              · exact hlt3
            have HH := Lib.hid (hurt3_any (w := wr) (T := fun j => T j ∨ j = g3) ((Hk.out.below hB).mono (fun _ hj => .inl hj) hT1) m Hn.out ⟨g3, cap3, flipK b.bs bt mask q⟩ ⟨hR.out.1, flipK_ok Hb.out.bd bt mask q, .inr rfl⟩)
            have HB := Lib.hid (And.intro hB hlt3)
            clear hB hlt3 hT1
            unfold RB.v at *
            have hcs : (q : Int) < 32 ∧ (bt : Int) + (q : Int) = 2048 ∨ (q : Int) = 32 := by omega
            rcases hcs with ⟨ha, hb⟩ | ha
            · have hx : ¬ (bt : Int) + (q : Int) < 2048 := by omega
              go_wp2_with fail
              refine HH.out.mono ?_
              rintro e w2 ⟨rfl, h2, h3⟩
              have H2 := Lib.hid (And.intro h2 h3)
              clear h2 h3
              go_wp2_with fail
              go_ret
              rw [Hw.out]
              refine ⟨rfl, Ref3.after HB.out.1 (fun j hj => ?_) H2.out.1 H2.out.2 Hk.out.foot⟩
              rcases hj with hj | rfl
              · exact .inl hj
              · exact .inr ⟨H3.out.2.1, HB.out.2⟩
            · have hx : ¬ (q : Int) < 32 := by omega
              go_wp2_with fail
              refine HH.out.mono ?_
              rintro e w2 ⟨rfl, h2, h3⟩
              have H2 := Lib.hid (And.intro h2 h3)
              clear h2 h3
              go_wp2_with fail
              go_ret
              rw [Hw.out]
              refine ⟨rfl, Ref3.after HB.out.1 (fun j hj => ?_) H2.out.1 H2.out.2 Hk.out.foot⟩
              rcases hj with hj | rfl
              · exact .inl hj
              · exact .inr ⟨H3.out.2.1, HB.out.2⟩
  · have Hw : Hid (D.rot n bit mask = (2, D)) := Lib.hid (by unfold DM.rot; rw [if_neg (fun e => hn e.1)])
    rw [decide_eq_false hn] at HT
    clear R M
    go_enter Tryd.func39, Tryd.ntmps39
    go_wp2_with fail
    refine HT.out.mono ?_
    rintro e w' ⟨rfl, rfl⟩
    go_wp2_with fail
    go_ret
    rw [Hw.out]
    exact ⟨rfl, Ref3.same Hk.out⟩
end
end Go.Proofs.YtgjdoiblgbdebaaDoor
