/- The document's disk: Write. -/
import Derived.Test.YtgjdoiblgbdebaaDoorRef3Store
import Derived.Test.YtgjdoiblgbdebaaDoorDevWait
import Derived.Deep.Cut
import Derived.Maps.AppendAt
namespace Go.Proofs.YtgjdoiblgbdebaaDoor
open Go.RowKit
theorem infoLate : (Tryd.prog.info? 94).map (fun i => (i.zero, i.size, i.bytes)) = some (some (.agg #[.int .i64 0, .slice none 0 0]), 2, 32) := by kernel_rfl
theorem RL.one (l : RL) : ∀ v ∈ l.cells, v.oneCell' = true := by
  intro v hv
  unfold RL.cells RB.v at hv
  rcases List.mem_cons.1 hv with rfl | hv
  · rfl
  · obtain rfl := List.mem_singleton.1 hv; rfl
theorem made256r (w : World) : (Instr.makeSlice 33 (.int .i64 256) (.int .i64 256)).run Tryd.prog w = .ok (.slice (some ⟨w.heap.size, 0, none⟩) 256 256) (w.alloc (.cells (u8s zero256).toArray 5)) := by
  obtain ⟨i0, hi, hz0, hz1, hz2⟩ := info_parts infoByte
  have := run_make (P := Tryd.prog) w 33 5 i0 (.int .u8 0) Tryd.underlying33 hi hz0 .i64 .i64 256 256 (by decide) (by decide) (by rw [hz2]; decide) (by decide)
  rw [this]
  have h : madeCells (Value.int .u8 0).cells ((256 : Int).toNat * i0.size) = (u8s zero256).toArray := by rw [hz1]; kernel_rfl
  rw [h]; rfl
theorem pad_over {bs : List Int} : bs ++ zero256.drop bs.length = padB bs := by
  unfold padB zero256
  rw [List.drop_replicate]
section
variable {w : World} {T : Nat → Prop} {h : Nat} {D : DM}
theorem RefM.there {C : List RC} {L : List RL} {ar tu cr : Int} {dn : Bool} (m : RefM D C L ar tu cr dn) (n : Int) : thereB C n = decide (D.has n) := by
  unfold thereB
  rw [decide_eq_decide]
  unfold DM.has
  rw [m.cells, List.length_map]
theorem Ref3.of {w' : World} {D' : DM} {cv wv : Value} {C : List RC} {L : List RL} {ar tu cr : Int} {dn : Bool} (R : RefR w' (grow T w w') h cv wv C L ar tu cr dn) (M : RefM D' C L ar tu cr dn) (hc : Chg T w w') : Ref3 w T h D' w' := ⟨⟨cv, wv, C, L, ar, tu, cr, dn, R, M⟩, hc⟩
set_option maxRecDepth 100000 in
set_option maxHeartbeats 2000000 in
theorem write3_any (k : RefAt3 w T h D) (hF : D.Few 1000000) (n : Int) (A : Option Addr) (bs : List Int) (c : Nat) (hb : BytesAt w A bs) (hA : bs ≠ [] → ∀ a, A = some a → ¬ T a.block) (hl : bs.length ≤ 140737488351232) :
    Calls Tryd.prog 33 #[.pointer (some ⟨h, 0, none⟩), .int .i64 n, .slice A bs.length c] w fun e w' => e = .returned (.int .i64 (D.write n bs).1) ∧ Ref3 w T h (D.write n bs).2 w' := by
  have Hk := Lib.hid k
  obtain ⟨cv, wv, C, L, ar, tu, cr, dn, R, M⟩ := k
  have c5 := R.cell6.2.2.2.2.2
  have HT := Lib.hid (there_any R n)
  rw [M.there] at HT
  have HR := Lib.hid R
  have HM := Lib.hid M
  have HF := Lib.hid hF
  have Hb := Lib.hid hb
  have HA := Lib.hid hA
  clear R M hF hb hA
  cases hd : D.down with
  | true =>
    have Hw : Hid (D.write n bs = (11, D)) := Lib.hid (by unfold DM.write; rw [if_pos hd])
    rw [HM.out.dn, hd] at c5
    clear hd
    go_enter Tryd.func33, Tryd.ntmps33
    go_wp2_with fail
    go_ret
    rw [Hw.out]
    exact ⟨rfl, Ref3.same Hk.out⟩
  | false =>
    rw [HM.out.dn, hd] at c5
    by_cases hn : D.has n
    · by_cases h256 : 256 < bs.length
      · have Hw : Hid (D.write n bs = (2, D)) := Lib.hid (by unfold DM.write; rw [if_neg (by rw [hd]; decide), if_pos (.inr h256)])
        have h2 : (256 : Int) < (bs.length : Int) := by omega
        rw [decide_eq_true hn] at HT
        clear hd hn
        go_enter Tryd.func33, Tryd.ntmps33
        go_wp2_with fail
        refine HT.out.mono ?_
        rintro e w' ⟨rfl, rfl⟩
        go_wp2_with fail
        go_ret
        rw [Hw.out]
        exact ⟨rfl, Ref3.same Hk.out⟩
      · have h2 : ¬ (256 : Int) < (bs.length : Int) := by omega
        have hw0 : D.write n bs = if D.armed = 1 then (11, D.trips) else (0, { D.turned with waits := D.waits ++ [(n.toNat, padB bs)] }) := by unfold DM.write; rw [if_neg (by rw [hd]; decide), if_neg (fun e => e.elim (fun h => h hn) h256)]
        rw [decide_eq_true hn] at HT
        by_cases ha : D.armed = 1
        · rw [if_pos ha] at hw0
          have Hw := Lib.hid hw0
          have h3 := HR.out
          rw [show ar = 1 by rw [HM.out.ar, ha]; rfl] at h3
          have HTn := Lib.hid (turn3_trips h3 ⟨by rw [HM.out.cr]; omega, by rw [HM.out.cr]; have := HF.out.cr; omega⟩)
          clear h3 hw0 ha hd hn
          go_enter Tryd.func33, Tryd.ntmps33
          go_wp2_with fail
          refine HT.out.mono ?_
          rintro e w' ⟨rfl, rfl⟩
          go_wp2_with fail
          refine HTn.out.mono ?_
          rintro e w4 ⟨rfl, hd4, hc4⟩
          have HD4 := Lib.hid (And.intro hd4 hc4)
          clear hd4 hc4
          go_wp2_with fail
          go_ret
          rw [Hw.out]
          refine ⟨rfl, Ref3.of (HD4.out.1.mono (fun _ hj => .inl hj) (grow_lt HR.out.foot HD4.out.2.size)) ⟨HM.out.cells, HM.out.waits, rfl, HM.out.tu, ?_, rfl, Nat.zero_le _⟩ HD4.out.2⟩
          rw [HM.out.cr]; rfl
        · rw [if_neg ha] at hw0
          have Hw := Lib.hid hw0
          have HTn := Lib.hid (turn3_done HR.out (by rw [HM.out.ar]; omega) ⟨by rw [HM.out.ar]; omega, by rw [HM.out.ar]; have := HM.out.lo; omega⟩ ⟨by rw [HM.out.tu]; omega, by rw [HM.out.tu]; have := HF.out.tu; omega⟩)
          have Hd := Lib.hid hd
          have Hha := Lib.hid ha
          clear hw0 ha hd
          unfold DM.has at hn
          obtain ⟨m, rfl⟩ := Int.eq_ofNat_of_zero_le hn.1
          have hm : m < C.length := by have := HM.out.cells; have h1 := hn.2; rw [this, List.length_map] at h1; omega
          have Hm := Lib.hid hm
          clear hn hm
          have hmk := made256r
          go_enter Tryd.func33, Tryd.ntmps33
          go_wp2_with fail
          refine HT.out.mono ?_
          rintro e w' ⟨rfl, rfl⟩
          go_wp2_with fail
          refine HTn.out.mono ?_
          rintro e w4 ⟨rfl, hd4, hc4⟩
          have hbn := below_new w4 (.cells (u8s zero256).toArray 5)
          have hB5 := BlockIs.made w4 5 (u8s zero256).toArray
          have hb4 : BytesAt w4 A bs := by
            refine ⟨Hb.out.1, fun hne => ?_⟩
            obtain ⟨b, off, e, hc⟩ := Hb.out.2 hne
            exact ⟨b, off, e, fun i hi => (World.cell?_of_block (a := ⟨b, off + i, none⟩) (hc4.block b (World.block_lt_of_cell? _ _ (hc i hi)) (HA.out hne _ e))).trans (hc i hi)⟩
          have HD4 := Lib.hid (And.intro hd4 (And.intro hc4 (And.intro hbn (And.intro hB5 (hb4.below hbn)))))
          clear hd4 hc4 hbn hB5 hb4
          have G1 := Lib.hid (show (u8s bs).length = Nat.min bs.length 256 by rw [u8s_len]; show bs.length = min bs.length 256; omega)
          have G2 := Lib.hid (show 0 + (u8s bs).length ≤ (u8s zero256).length by rw [u8s_len, u8s_len, zero256_len]; omega)
          have G3 : Hid (0 < (u8s bs).length → ∃ ad, A = some ad ∧ ∀ j v, (u8s bs)[j]? = some v → (w4.alloc (.cells (u8s zero256).toArray 5)).cell? (ad.add j) = some v) := Lib.hid fun hp => by
            have hne : bs ≠ [] := by rintro rfl; exact absurd hp (by decide)
            obtain ⟨b, off, e, hc⟩ := HD4.out.2.2.2.2.2 hne
            refine ⟨⟨b, off, none⟩, e, fun j v hj => ?_⟩
            unfold u8s at hj
            rw [List.getElem?_map] at hj
            cases hq : bs[j]? with
            | none => rw [hq] at hj; cases hj
            | some z =>
              rw [hq] at hj
              obtain rfl : Value.int .u8 z = v := by simpa using hj
              rw [Addr.add_mid, hc j (List.getElem?_eq_some_iff.1 hq).1, List.getD_eq_getElem?_getD, hq]; rfl
          have G4 := Lib.hid (u8s_one bs)
          go_upto_region 9 with (refine wpList_copy_splice rfl (.tmp 25) (.tmp 26) 33 33 rfl 5 Tryd.underlying33 (by kernel_rfl) (some ⟨w4.heap.size, 0, none⟩) A 256 256 bs.length c rfl rfl w4.heap.size 0 (u8s zero256) 5 HD4.out.2.2.2.1 (u8s bs) G1.out (fun hp => ⟨rfl, G3.out hp⟩) G2.out G4.out w4.heap.size w4 HD4.out.2.2.1 (Nat.le_refl _) ?_; intro w6 hG6 hB6)
          have ho6 := own_over (xs := zero256) (ys := bs) (cur := u8s zero256) (cap := 256) (m := 256) zero256_len (by omega) (by rw [u8s_len, zero256_len]) (Nat.le_refl _) (by decide) (List.take_of_length_le (by rw [u8s_len, zero256_len]; exact Nat.le_refl _)) hG6.out
          rw [pad_over] at ho6
          have hlt6 := (ho6.lt w4.heap.size rfl).2
          have hT6 : ∀ j, (T j ∨ j = w4.heap.size) → j < w6.heap.size := by
            rintro j (hj | rfl)
            · exact Nat.lt_of_lt_of_le (HD4.out.1.foot j hj) hB6.size
            · exact hlt6
          have H6 := Lib.hid (show RB.ok w6 (fun j => T j ∨ j = w4.heap.size) ⟨w4.heap.size, 256, padB bs⟩ ∧ Below w4.heap.size w4 w6 from ⟨⟨ho6, padB_ok (by omega) Hb.out.1, .inr rfl⟩, hB6⟩)
          have HT6 := Lib.hid hT6
          clear hG6 hB6 ho6 hlt6 hT6 G1 G2 G3 G4
          have c1 := (HD4.out.1.below H6.out.2).cell6.2.1
          have f1 := (HD4.out.1.below H6.out.2).blk.free 1
          have Hsz8 := Lib.hid (below_new w6 (.cells (RL.cells ⟨m, ⟨w4.heap.size, 256, padB bs⟩⟩).toArray 94))
          have Hwo := Lib.hid ((HD4.out.1.below H6.out.2).below Hsz8.out)
          have Hnw : Hid (∀ j v, (RL.cells ⟨m, ⟨w4.heap.size, 256, padB bs⟩⟩)[j]? = some v → (w6.alloc (.cells (RL.cells ⟨m, ⟨w4.heap.size, 256, padB bs⟩⟩).toArray 94)).cell? ((⟨w6.heap.size, 0, none⟩ : Addr).add j) = some v) := Lib.hid (fun j v hj => by rw [Addr.add_mid, Nat.zero_add]; exact ((BlockIs.made w6 _ _).cell j).trans (by rw [List.getElem?_toArray]; exact hj))
          have HLl := Lib.hid (show L.length ≤ 1000000 by have h1 := HF.out.ws; rw [HM.out.waits, List.length_map] at h1; exact h1)
          obtain ⟨i0, hi, hz0, hz1, hz2⟩ := info_parts infoLate
          go_wp2_with (refine wpList_append_own_at _ rfl (.tmp 32) (.tmp 36) 64 rfl 0 94 i0 (.agg #[.int .i64 0, .slice none 0 0]) 2 32 Tryd.underlying64 hi hz0 hz1 hz2 rfl (by decide) wv L.length (L.flatMap RL.cells) rfl Hwo.out.wown ⟨w6.heap.size, 0, none⟩ 1 1 (RL.cells ⟨m, ⟨w4.heap.size, 256, padB bs⟩⟩) rfl rfl Hnw.out (RL.one _) (by have := HLl.out; unfold maxLen; omega) (by have := HLl.out; omega) (Nat.zero_le _) ?_; intro v7 w7 ho7 hg7 _ hl7; obtain ⟨X7, cap7, hv7, _, _⟩ := own_slice ho7; subst hv7; have H7 := Lib.hid (And.intro ho7 (And.intro hg7 hl7)); have d5 : w7.cell? ⟨h, 1, none⟩ = some wv := H7.out.2.1.cell Hwo.out.cell6.2.1 (fun e => own_tag Hwo.out.wown Hwo.out.blk (by decide) e.symm); have f5 : w7.frozen? ⟨h, 1, none⟩ = false := (World.frozen?_of_block (a := ⟨h, 1, none⟩) (H7.out.2.1.block h Hwo.out.lt (fun e => own_tag Hwo.out.wown Hwo.out.blk (by decide) e.symm))).trans (Hwo.out.blk.free 1); clear ho7 hg7 hl7)
          clear hi hz0 hz1 hz2
          go_ret
          rw [Hw.out]
          have hs8 := Hsz8.out.size
          have hs6 := H6.out.2.size
          have hs4 := HD4.out.2.1.size
          obtain ⟨hR, hC⟩ := RefR.setWv (T' := fun j => T j ∨ j = w4.heap.size) HD4.out.1 (l := ⟨m, ⟨w4.heap.size, 256, padB bs⟩⟩) (H6.out.2.trans (Hsz8.out.mono hs6)) Hm.out (H6.out.1.keep (Hsz8.out.block _ (HT6.out _ (.inr rfl))) (.inr rfl)) (fun _ hj => .inl hj) H7.out.1 H7.out.2.1 H7.out.2.2 (fun j hj => Nat.lt_of_lt_of_le (HT6.out j hj) hs8)
          have hs7 := H7.out.2.1.size
          have hw47 : w4.heap.size < w7.heap.size := Nat.lt_of_lt_of_le (HT6.out _ (.inr rfl)) (Nat.le_trans hs8 hs7)
          have hC2 : Chg T w (w7.setCell ⟨h, 1, none⟩ (.slice X7 (L.length + 1) cap7)) := HD4.out.2.1.trans (hC.mono (fun _ hj => .inl hj))
          refine ⟨rfl, Ref3.of (hR.mono ?_ (grow_lt HR.out.foot hC2.size)) ⟨HM.out.cells, ?_, ?_, ?_, HM.out.cr, HM.out.dn, ?_⟩ hC2⟩
          · rintro j ((hj | hj) | hj)
            · exact .inl hj
            · exact .inr ⟨by rw [hj]; exact hs4, by rw [show (w7.setCell ⟨h, 1, none⟩ (.slice X7 (L.length + 1) cap7)).heap.size = w7.heap.size by simp [World.setCell], hj]; exact hw47⟩
            · exact .inr ⟨Nat.le_trans (Nat.le_trans hs4 (Nat.le_trans hs6 hs8)) hj.1, by rw [show (w7.setCell ⟨h, 1, none⟩ (.slice X7 (L.length + 1) cap7)).heap.size = w7.heap.size by simp [World.setCell]]; exact hj.2⟩
          · show D.waits ++ [((m : Int).toNat, padB bs)] = _
            rw [HM.out.waits, List.map_append, Int.toNat_natCast]; rfl
          · show _ = (((D.armed - 1 : Nat)) : Int)
            rw [HM.out.ar]; split <;> omega
          · show _ = (((D.turns + 1 : Nat)) : Int)
            rw [HM.out.tu]; omega
          · show D.armed - 1 ≤ _
            have := HM.out.lo; omega
    · have Hw : Hid (D.write n bs = (2, D)) := Lib.hid (by unfold DM.write; rw [if_neg (by rw [hd]; decide), if_pos (.inl hn)])
      rw [decide_eq_false hn] at HT
      clear hd hn
      go_enter Tryd.func33, Tryd.ntmps33
      go_wp2_with fail
      refine HT.out.mono ?_
      rintro e w' ⟨rfl, rfl⟩
      go_wp2_with fail
      go_ret
      rw [Hw.out]
      exact ⟨rfl, Ref3.same Hk.out⟩
end
end Go.Proofs.YtgjdoiblgbdebaaDoor
