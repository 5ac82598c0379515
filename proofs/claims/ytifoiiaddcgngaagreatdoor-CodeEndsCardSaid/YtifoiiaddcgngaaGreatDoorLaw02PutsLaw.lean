/- Law 02, CodePuts: does a writer have just what the document's has, behind each part? -/
/- Law 02, CodePuts: the law's walk. -/
import Derived.Test.YtifoiiaddcgngaaGreatDoorLaw02PutsFacts
import Derived.Test.YtifoiiaddcgngaaGreatDoorLaw02Size
import Derived.Deep.DeepCutAuto
import Derived.Deep.CutBlock
namespace Go.Proofs.YtifoiiaddcgngaaGreatDoor
open Go.RowKit
/-- The bytes that were told last. -/
def ToldAt (lo : Nat) (w : World) (v : Value) (s : Option (List Int)) : Prop := ∃ X cap, v = .slice X (s.getD []).length cap ∧ w.ownsRow lo 5 1 v (s.getD []).length (u8s (s.getD [])) ∧ (∀ z ∈ s.getD [], 0 ≤ z ∧ z < 256) ∧ (s.getD []).length ≤ 1000000
theorem two_new (w : World) : Two w ((w.alloc (.cells #[.pointer none, .bool false] 38)).alloc (.cells #[.slice none 0 0, .bool false] 41)) w.heap.size (w.heap.size + 1) (fun _ => False) (fun k => k = w.heap.size + 1) (some []) 0 := by
  have hb1 := below_new w (.cells #[.pointer none, .bool false] 38)
  have hs1 : (w.alloc (.cells #[.pointer none, .bool false] 38)).heap.size = w.heap.size + 1 := by simp
  have hb2 := below_new (w.alloc (.cells #[.pointer none, .bool false] 38)) (.cells #[.slice none 0 0, .bool false] 41)
  refine ⟨(wr_new w).below hb2, ⟨.slice none 0 0, [], false, ⟨?_, rfl, ?_, World.ownsRow_nil _ _ _ _, by simp [Value.ownBlock], fun b e => by simp [Value.ownBlock] at e, fun z hz => by cases hz⟩, Nat.le_refl _, rfl⟩, fun k hk => hk.elim, fun k hk => by subst hk; omega, Nat.le_refl _, hb1.trans (hb2.mono (by omega))⟩
  · rintro k rfl; simp
  · have := BlockIs.made (w.alloc (.cells #[.pointer none, .bool false] 38)) 41 #[.slice none 0 0, .bool false]
    rwa [hs1] at this
set_option maxRecDepth 100000 in
set_option maxHeartbeats 8000000 in
theorem puts_any (w : World) (A : Option Addr) (ps : List PartV) (c : Nat) (hp : PVAt w A ps) (hnn : ∀ p ∈ ps, p.nA = none → p.nc = 0) (ht : tot ps ≤ 30000) :
    Calls Tryz.prog 4 #[.slice A ps.length c] w fun e w' => ∃ v, e = .returned (.tuple #[v, .bool true]) ∧ ToldAt w.heap.size w' v (encTo ps ps.length) ∧ Below w.heap.size w w' := by
  have hpl := tot_len ps
  have h2 := two_new w
  go_enter Tryz.func4, Tryz.ntmps4
  go_wp2_with fail
  generalize World.alloc _ _ = w1 at *
  obtain ⟨g0, hg0⟩ : ∃ g0, w.heap.size = g0 := ⟨_, rfl⟩
  obtain ⟨h0, hh0⟩ : ∃ h0, w.heap.size + 1 = h0 := ⟨_, rfl⟩
  rw [hh0]; rw [hg0]
  have Hg0 := Lib.hid hg0
  rw [hh0] at h2
  have H2 := Lib.hid h2
  clear hg0 hh0 h2
  go_loopg [6, 7] ps.length (fun gk b i wx => ∃ (k : Nat) (S T : Nat → Prop), gk = ps.length - k ∧ k ≤ ps.length ∧ i = .int .i64 (k : Int) ∧ Hid (Two w wx g0 h0 S T (encTo ps k) (30 * tot (ps.take k))) ∧ Hid (ToldAt w.heap.size wx b (encTo ps k)))
  case atStart => exact ⟨0, _, _, rfl, by omega, rfl, Lib.hid (by rw [← Hg0.out] at *; exact H2.out), Lib.hid ⟨none, 0, rfl, World.ownsRow_nil _ _ _ _, fun z hz => by simp [encTo] at hz, Nat.zero_le _⟩⟩
  case round =>
    obtain ⟨k, S, T, hgk, hk, rfl, hTwo, hTold⟩ := hrel
    have Hgk := Lib.hid hgk; clear hgk
    by_cases hlt : k < ps.length
    · have hpk : ps[k]? = some ps[k] := List.getElem?_eq_getElem hlt
      generalize ps[k] = p at hpk
      obtain ⟨bb, off, rfl, hc⟩ := hp.2 (by intro e; simp [e] at hlt)
      have Hcs := Lib.hid (load_part hc k p hpk)
      have hcs := load_part (fun i p hp j v hv => cell_below (hc i p hp j v hv) hTwo.out.bl) k p hpk
      have hok0 := hp.1 p (List.mem_of_getElem? hpk)
      have Hok0 := Lib.hid hok0
      have hok := hok0.below hTwo.out.bl
      have hpt := tot_part (List.mem_of_getElem? hpk)
      have HE := Lib.hid (encTo_succ ps k p hpk)
      have HT := Lib.hid (tot_snoc ps k p hpk)
      obtain ⟨c0, c1, c2, c3, c4, c5, c6, c7, c8⟩ := hcs
      have Hnn := Lib.hid (hnn p (List.mem_of_getElem? hpk))
      have Hok := Lib.hid hok
      obtain ⟨base, hbase⟩ : ∃ base, wr.heap.size = base := ⟨_, rfl⟩
      have Hbase := Lib.hid hbase
      have Hfar := Lib.hid (show g0 < base ∧ ∀ k, T k → k < base from hbase ▸ ⟨hTwo.out.wr.lt, hTwo.out.rf.foot⟩)
      have hlen := hok.len
      have htk := tot_take ps k
      clear hpk hc hok hok0 hTold hbase
      go_upto_region 7 with fail
      go_cut [8, 9, 10] (fun v8 v9 v10 wx => Hid (Lnt wx base p v8 v9 v10) ∧ Hid (Below wr.heap.size wr wx))
      case first =>
        go_region_held3 (fun w' => w'.cell? ⟨bb, off + k * 9 + 2, none⟩ = some (.slice p.nA p.ns.length p.nc) ∧ w'.cell? ⟨bb, off + k * 9 + 3, none⟩ = some (.slice p.tA p.ts.length p.tc) ∧ w'.cell? ⟨bb, off + k * 9 + 7, none⟩ = some (.slice p.bA p.ent.body.length p.bc)) (first | exact ⟨k2, k3, k7⟩ | exact ⟨c2, c3, c7⟩) (first
          | (go_at_call 10; go_loud ((with_reducible refine (lentInts_new p.ns p.nA p.nc _ ?_ ?_ ?_).mono ?_); exact Hok.out.ints; omega; exact Hnn.out; rintro e w2 ⟨v8, rfl, hn8, hb8, ho8⟩; have HB2 := Lib.hid (show Below wr.heap.size wr w2 from (by first | exact hb8 | exact undrew hb8)); have HN8 := Lib.hid (And.intro hn8 (show ∀ b, v8.ownBlock = some b → wr.heap.size ≤ b from ho8)); obtain ⟨g8, cap8, hv8, _⟩ := hn8.ints; subst hv8; have k2 := cell_below c2 HB2.out; have k3 := cell_below c3 HB2.out; have k7 := cell_below c7 HB2.out; clear hn8 hb8 ho8))
          | (go_at_call 11; (with_reducible refine (lentBytes_new p.ts p.tA p.tc _ ?_ ?_ ?_).mono ?_); exact Hok.out.text.below HB2.out; omega; exact Hok.out.nn; rintro e w3 ⟨v9, rfl, hn9, hb9, ho9⟩; have HB23 := Lib.hid (show Below w2.heap.size w2 w3 from (by first | exact hb9 | exact undrew hb9)); have HB3 := Lib.hid (HB2.out.trans (HB23.out.mono HB2.out.size)); have HN9 := Lib.hid (And.intro hn9 (show ∀ b, v9.ownBlock = some b → wr.heap.size ≤ b from fun b e => Nat.le_trans HB2.out.size (ho9 b e))); obtain ⟨g9, cap9, hv9, _⟩ := hn9.bytes; subst hv9; clear k2 k3 k7; have k2 := cell_below c2 HB3.out; have k3 := cell_below c3 HB3.out; have k7 := cell_below c7 HB3.out; clear hn9 hb9 ho9)
          | (go_at_call 11; (with_reducible refine (lentBytes_new p.ent.body p.bA p.bc _ ?_ ?_ ?_).mono ?_); exact Hok.out.body.below HB3.out; omega; exact Hok.out.nb; rintro e w4 ⟨v10, rfl, hn10, hb10, ho10⟩; have HB34 := Lib.hid (show Below w3.heap.size w3 w4 from (by first | exact hb10 | exact undrew hb10)); have HB4 := Lib.hid (HB3.out.trans (HB34.out.mono HB3.out.size)); have HN10 := Lib.hid (And.intro hn10 (show ∀ b, v10.ownBlock = some b → wr.heap.size ≤ b from fun b e => Nat.le_trans HB3.out.size (ho10 b e))); obtain ⟨g10, cap10, hv10, _⟩ := hn10.bytes; subst hv10; clear k2 k3 k7; have k2 := cell_below c2 HB4.out; have k3 := cell_below c3 HB4.out; have k7 := cell_below c7 HB4.out; clear hn10 hb10 ho10))
        all_goals (go_wp2_with fail)
        all_goals go_meet
        all_goals
          have hs34 : Stay base w3 w4 := Stay.of_below HB34.out
          have hs24 : Stay base w2 w4 := Stay.of_below (HB23.out.trans (HB34.out.mono HB23.out.size))
          exact ⟨Lib.hid ⟨HN8.out.1.stay hs24 (by rw [← Hbase.out]; exact HN8.out.2), HN9.out.1.stay hs34 (by rw [← Hbase.out]; exact HN9.out.2), HN10.out.1, by rw [← Hbase.out]; exact HN8.out.2, by rw [← Hbase.out]; exact HN9.out.2, by rw [← Hbase.out]; exact HN10.out.2⟩, HB4⟩
      case rest =>
        obtain ⟨hL, hB⟩ := hcut
        have d0 := cell_below c0 hB.out
        have d1 := cell_below c1 hB.out
        have d2 := cell_below c2 hB.out
        have d3 := cell_below c3 hB.out
        have d4 := cell_below c4 hB.out
        have d5 := cell_below c5 hB.out
        have d6 := cell_below c6 hB.out
        have d7 := cell_below c7 hB.out
        have hTw := Lib.hid (hTwo.out.below hB.out)
        obtain ⟨g8, cap8, rfl, hi8, hc8, hm8⟩ := hL.out.ln.ints
        obtain ⟨g9, cap9, rfl, hi9, hc9, hm9⟩ := hL.out.lt.bytes
        obtain ⟨g10, cap10, rfl, hi10, hc10, hm10⟩ := hL.out.lb.bytes
        have HI := Lib.hid (And.intro hi8 (And.intro hi9 hi10))
        clear c0 c1 c2 c3 c4 c5 c6 c7 c8 hTwo hi8 hi9 hi10
        go_upto_region 10 with fail
        have hbE := below_new wc (.cells #[.int .i64 p.ent.index, .int .i64 p.ent.term, .int .i64 p.ent.kind, .slice (some ⟨g10, 0, none⟩) p.ent.body.length cap10] 28)
        have hEb : BlockIs (wc.alloc (.cells #[.int .i64 p.ent.index, .int .i64 p.ent.term, .int .i64 p.ent.kind, .slice (some ⟨g10, 0, none⟩) p.ent.body.length cap10] 28)) wc.heap.size 28 #[.int .i64 p.ent.index, .int .i64 p.ent.term, .int .i64 p.ent.kind, .slice (some ⟨g10, 0, none⟩) p.ent.body.length cap10] := BlockIs.made _ _ _
        obtain ⟨q, hq⟩ : ∃ q, wc.heap.size = q := ⟨_, rfl⟩
        have Hq := Lib.hid hq
        have HC := Lib.hid (And.intro (And.intro (cell_below d0 hbE) (And.intro (cell_below d1 hbE) (cell_below d2 hbE))) (And.intro (And.intro (cell_below d3 hbE) (cell_below d4 hbE)) (And.intro (cell_below d5 hbE) (And.intro (cell_below d6 hbE) (cell_below d7 hbE)))))
        generalize wc.alloc _ = wE at *
        have hTw2 := Lib.hid (hTw.out.below hbE)
        have hL2 := Lib.hid (hL.out.stay (Stay.of_below hbE))
        have HI2 := Lib.hid (And.intro (HI.out.1.below hbE) (And.intro (HI.out.2.1.below hbE) (HI.out.2.2.below hbE)))
        have hBE := Lib.hid (hB.out.trans (hbE.mono hB.out.size))
        have HEb := Lib.hid (show BlockIs wE q 28 _ from hq ▸ hEb)
        have Hbq := Lib.hid (show base ≤ q by rw [← Hbase.out, ← hq]; exact hB.out.size)
        rw [hq]
        obtain ⟨d0, d1, d2⟩ := HC.out.1
        obtain ⟨⟨d3, d4⟩, d5, d6, d7⟩ := HC.out.2
        clear hbE hEb hq hTw hL HI hB HC
        go_wp2_with fail
        refine (pick_any p.kind 4 _ (by decide) (by decide)).mono ?_
        rintro e w' ⟨rfl, rfl⟩
        go_upto_block 2 with fail
        go_cut [59] (fun _ wx => Hid (∃ S' T', Two w wx g0 h0 S' T' (encTo ps (k + 1)) (30 * tot (ps.take (k + 1)))) ∧ Hid (Lnt wx base p (.slice (some ⟨g8, 0, none⟩) p.ns.length cap8) (.slice (some ⟨g9, 0, none⟩) p.ts.length cap9) (.slice (some ⟨g10, 0, none⟩) p.ent.body.length cap10)) ∧ Hid (BlockIs wx q 28 #[.int .i64 p.ent.index, .int .i64 p.ent.term, .int .i64 p.ent.kind, .slice (some ⟨g10, 0, none⟩) p.ent.body.length cap10]))
        case first =>
          rcases mod4 p.kind with hk | hk | hk | hk
          · have HN := Lib.hid (show partB p = fieldsB p.width p.ns by unfold partB; rw [if_pos hk])
            rw [hk]
            clear hk
            have HF := Lib.hid (field_any wE S g0 _ hTw2.out.wr p.width (some ⟨g8, 0, none⟩) cap8 p.ns HI2.out.1 (by omega))
            go_wp2_with fail
            refine HF.out.mono ?_
            rintro e w5 ⟨rfl, hP⟩
            have HP := Lib.hid hP
            have HM := Lib.hid (hTw2.out.put hP)
            have e1 := cell_below Hcs.out.2.1 HM.out.bl
            have e2 := cell_below Hcs.out.2.2.1 HM.out.bl
            have Hm3 := Lib.hid (show 30 * tot (ps.take k) + 6 * p.ns.length ≤ 1000000000 by omega)
            have Hm4 := Lib.hid (show 30 * tot (ps.take k) + 6 * p.ns.length ≤ 30 * tot (ps.take (k + 1)) by rw [HT.out]; omega)
            have Hs4 := Lib.hid (show encTo ps (k + 1) = putO (encTo ps k) (fieldsB p.width p.ns) by rw [HE.out, HN.out])
            have HF2 := Lib.hid (refFields_any w5.drew T h0 _ _ HM.out.rf.drew p.width p.nA p.nc p.ns (Hok0.out.ints.below HM.out.bl).drew (Hok0.out.ints.off_far (fun k hk => (HM.out.rfar k hk).1)) Hm3.out)
            clear hP HF
            go_wp2_with fail
            go_region_held3 (fun w' => w'.cell? ⟨bb, off + k * 9 + 1, none⟩ = some (.int .i64 p.width) ∧ w'.cell? ⟨bb, off + k * 9 + 2, none⟩ = some (.slice p.nA p.ns.length p.nc)) (exact ⟨e1, e2⟩) (
              (go_at_call 14; refine HF2.out.mono ?_; rintro e w6 ⟨rfl, hR⟩; have HX := Lib.hid (both hTw2.out HP.out (Below.refl w5.heap.size w5).drew hR hL2.out HEb.out Hbq.out Hfar.out.1 Hfar.out.2 Hs4.out Hm4.out); clear hR; have e1 := cell_below Hcs.out.2.1 (two_below HX.out.1); have e2 := cell_below Hcs.out.2.2.1 (two_below HX.out.1)))
            all_goals (go_wp2_with fail)
            all_goals go_meet
            all_goals exact ⟨Lib.hid HX.out.1, Lib.hid HX.out.2.1, Lib.hid HX.out.2.2⟩
          · have HN := Lib.hid (show partB p = textB p.ts by unfold partB; rw [if_neg (by omega), if_pos hk])
            rw [hk]
            clear hk
            have HF := Lib.hid (wtext_any wE S g0 _ hTw2.out.wr p.ts (some ⟨g9, 0, none⟩) cap9 HI2.out.2.1 hlen.2.1 (fun e => by cases e))
            go_wp2_with fail
            refine HF.out.mono ?_
            rintro e w5 ⟨rfl, hP⟩
            have HP := Lib.hid hP
            have HM := Lib.hid (hTw2.out.put hP)
            have e3 := cell_below Hcs.out.2.2.2.1 HM.out.bl
            have HF2 := Lib.hid (refText_any w5 T h0 _ _ HM.out.rf p.tA p.tc p.ts (Hok0.out.text.below HM.out.bl) (Hok0.out.text.off_far (fun k hk => (HM.out.rfar k hk).1)) Hok0.out.nn (by omega))
            clear hP HF
            go_wp2_with fail
            refine HF2.out.mono ?_
            rintro e w6 ⟨rfl, hR⟩
            have HX := Lib.hid (both hTw2.out HP.out (Below.refl _ _) hR hL2.out HEb.out Hbq.out Hfar.out.1 Hfar.out.2 (s2 := encTo ps (k + 1)) (m2 := 30 * tot (ps.take (k + 1))) (by rw [HE.out, HN.out]) (by rw [HT.out]; omega))
            clear hR HF2
            go_wp2_with fail
            go_meet
            exact ⟨Lib.hid HX.out.1, Lib.hid HX.out.2.1, Lib.hid HX.out.2.2⟩
          · have HN := Lib.hid (show partB p = rowB p.ns by unfold partB; rw [if_neg (by omega), if_neg (by omega), if_pos hk])
            rw [hk]
            clear hk
            have HF := Lib.hid (wrow_any wE S g0 _ hTw2.out.wr p.ns (some ⟨g8, 0, none⟩) cap8 HI2.out.1 (by omega))
            go_wp2_with fail
            refine HF.out.mono ?_
            rintro e w5 ⟨rfl, hP⟩
            have HP := Lib.hid hP
            have HM := Lib.hid (hTw2.out.put hP)
            have e2 := cell_below Hcs.out.2.2.1 HM.out.bl
            have HF2 := Lib.hid (refRow_any w5 T h0 _ _ HM.out.rf p.nA p.nc p.ns (Hok0.out.ints.below HM.out.bl) (Hok0.out.ints.off_far (fun k hk => (HM.out.rfar k hk).1)) (by omega))
            clear hP HF
            go_wp2_with fail
            refine HF2.out.mono ?_
            rintro e w6 ⟨rfl, hR⟩
            have HX := Lib.hid (both hTw2.out HP.out (Below.refl _ _) hR hL2.out HEb.out Hbq.out Hfar.out.1 Hfar.out.2 (s2 := encTo ps (k + 1)) (m2 := 30 * tot (ps.take (k + 1))) (by rw [HE.out, HN.out]) (by rw [HT.out]; omega))
            clear hR HF2
            go_wp2_with fail
            go_meet
            exact ⟨Lib.hid HX.out.1, Lib.hid HX.out.2.1, Lib.hid HX.out.2.2⟩
          · have HN := Lib.hid (show partB p = entryB p.ent by unfold partB; rw [if_neg (by omega), if_neg (by omega), if_neg (by omega)])
            rw [hk]
            clear hk
            have hbd := Hok0.out.bd
            have HF := Lib.hid (wentry_any wE S g0 _ hTw2.out.wr p.ent (some ⟨g10, 0, none⟩) cap10 HI2.out.2.2 hlen.2.2 (fun e => by cases e) ⟨hbd.2.2.2.1.1, hbd.2.2.2.1.2, hbd.2.2.2.2.1.1, hbd.2.2.2.2.1.2, hbd.2.2.2.2.2.1, hbd.2.2.2.2.2.2⟩)
            have b0 := HEb.out.cell 0
            have b1 := HEb.out.cell 1
            have b2 := HEb.out.cell 2
            have b3 := HEb.out.cell 3
            have Hbd := Lib.hid hbd
            clear hbd
            go_wp2_with fail
            refine HF.out.mono ?_
            rintro e w5 ⟨rfl, hP⟩
            have HP := Lib.hid hP
            have HM := Lib.hid (hTw2.out.put hP)
            have e4 := cell_below Hcs.out.2.2.2.2.1 HM.out.bl
            have e5 := cell_below Hcs.out.2.2.2.2.2.1 HM.out.bl
            have e6 := cell_below Hcs.out.2.2.2.2.2.2.1 HM.out.bl
            have e7 := cell_below Hcs.out.2.2.2.2.2.2.2.1 HM.out.bl
            have HF2 := Lib.hid (refEntry_any w5 T h0 _ _ HM.out.rf p.ent p.bA p.bc (Hok0.out.body.below HM.out.bl) (Hok0.out.body.off_far (fun k hk => (HM.out.rfar k hk).1)) Hok0.out.nb (by omega) ⟨Hbd.out.2.2.2.1, Hbd.out.2.2.2.2.1, Hbd.out.2.2.2.2.2⟩)
            clear hP HF b0 b1 b2 b3
            go_wp2_with fail
            refine HF2.out.mono ?_
            rintro e w6 ⟨rfl, hR⟩
            have HX := Lib.hid (both hTw2.out HP.out (Below.refl _ _) hR hL2.out HEb.out Hbq.out Hfar.out.1 Hfar.out.2 (s2 := encTo ps (k + 1)) (m2 := 30 * tot (ps.take (k + 1))) (by rw [HE.out, HN.out]) (by rw [HT.out]; omega))
            clear hR HF2
            go_wp2_with fail
            go_meet
            exact ⟨Lib.hid HX.out.1, Lib.hid HX.out.2.1, Lib.hid HX.out.2.2⟩
        case rest =>
          obtain ⟨hTw3, hL3, hE3⟩ := hcut
          obtain ⟨S', T', hT3⟩ := hTw3.out
          have htk2 := tot_take ps (k + 1)
          obtain ⟨m, hm⟩ : ∃ m, 30 * tot (ps.take (k + 1)) = m := ⟨_, rfl⟩
          obtain ⟨s, hs⟩ : ∃ s, encTo ps (k + 1) = s := ⟨_, rfl⟩
          rw [hm, hs] at hT3
          have hm2 : m ≤ 1000000 := by omega
          have hyl := hT3.rf.len
          obtain ⟨y, hy⟩ : ∃ y, s.getD [] = y := ⟨_, rfl⟩
          obtain ⟨sb, hsb⟩ : ∃ sb, s.isSome = sb := ⟨_, rfl⟩
          have HW := fun w (h : WrAt w S' g0 s) => wbytes_all w S' g0 s h (by omega)
          have HR := fun w (h : RefAt w T' h0 s m) => refBytes_all w T' h0 m s h (by omega)
          rw [hy] at hyl
          simp only [hy, hsb] at HW HR
          have HW := Lib.hid HW
          have HR := Lib.hid HR
          have HF := Lib.hid (And.intro hm (And.intro hs (And.intro hy hsb)))
          have HT3 := Lib.hid hT3
          clear hm hs hy hsb hTw3 hT3 hTw2 hL2 HI2 HEb d0 d1 d2 d3 d4 d5 d6 d7 htk2
          go_wp2_with fail
          refine (HW.out _ HT3.out.wr).mono ?_
          rintro e wa ⟨va, rfl, howna, hba⟩
          have HT4 := Lib.hid (HT3.out.below hba)
          obtain ⟨XA, ca, rfl, hca, hcam⟩ := own_slice howna
          have HA := Lib.hid (And.intro howna hba)
          clear howna hba
          go_wp2_with fail
          refine (HR.out _ HT4.out.rf).mono ?_
          rintro e wb ⟨vb, rfl, hownb, hbb, _, hyb⟩
          have HT5 := Lib.hid (HT4.out.below hbb)
          obtain ⟨XB, cb, rfl, hcb, hcbm⟩ := own_slice hownb
          have HB := Lib.hid (And.intro hownb (And.intro hbb hyb))
          clear hownb hbb hyb
          go_wp2_with fail
          refine (HW.out _ HT5.out.wr).mono ?_
          rintro e wg ⟨vg, rfl, howng, hbg⟩
          obtain ⟨XG, cg, rfl, hcg, hcgm⟩ := own_slice howng
          have HG := Lib.hid (And.intro howng hbg)
          clear howng hbg
          go_upto_region 25 with fail
          obtain ⟨hrows, hcown, hccol⟩ := rows_two HA.out.1 HA.out.2 HB.out.1 HB.out.2.1 HG.out.1 HG.out.2
          have hbcb := HA.out.2.trans (HB.out.2.1.mono HA.out.2.size)
          have HBC := Lib.hid (hbcb.trans (HG.out.2.mono hbcb.size))
          have HRow := Lib.hid (And.intro hrows (And.intro hcown hccol))
          have hcs := Hcs.out
          have hbl3 := HT3.out.bl
          have H11 := Lib.hid (show P11 bb (off + k * 9) q p g10 cap10 wc from ⟨cell_below hcs.2.2.1 hbl3, cell_below hcs.2.2.2.1 hbl3, cell_below hcs.2.2.2.2.1 hbl3, cell_below hcs.2.2.2.2.2.1 hbl3, cell_below hcs.2.2.2.2.2.2.1 hbl3, cell_below hcs.2.2.2.2.2.2.2.1 hbl3, hE3.out.cell 0, hE3.out.cell 1, hE3.out.cell 2, hE3.out.cell 3⟩)
          have G11 := Lib.hid (H11.out.below HBC.out)
          have HzA := Lib.hid (own_reads (HRow.out.1 0 _ rfl).1 HB.out.2.2)
          have HzB := Lib.hid (own_reads HRow.out.2.1 HB.out.2.2)
          have hsb2 : (sb != sb) = false := by simp
          obtain ⟨rb, hrb⟩ : ∃ rb, rightB p.ent = rb := ⟨_, rfl⟩
          have hrb2 : (rb != rb) = false := by simp
          have HRt := fun w A c => right_any w p.ent A c (by omega)
          have HRr := fun w A c => refRight_any w p.ent A c (by omega)
          rw [hrb] at HRt HRr
          have Hrb := Lib.hid hrb
          have HRt := Lib.hid HRt
          have HRr := Lib.hid HRr
          have HSB := fun w ha hb => sameBytes_any y y XA XB ca cb w ha hb (by omega)
          rw [show sameB y y = true by simp [sameB]] at HSB
          have HSB := Lib.hid HSB
          have HAp := fun w1 h1 => apart_two (w1 := w1) (cb := cb) hrows hcown hccol (by omega) HBC.out h1
          have HAp := Lib.hid HAp
          have HKI := Lib.hid (fun W (hv : Viv wc wa.heap.size XB cb y W) => keptInts_any p.ns _ p.nA p.nc W (hL3.out.stay (Stay.of_below hv.1)).ln ((Hok0.out.ints.below HT3.out.bl).below hv.1) (by omega))
          have HKT := Lib.hid (fun W (hv : Viv wc wa.heap.size XB cb y W) => keptBytes_any p.ts _ p.tA p.tc W (hL3.out.stay (Stay.of_below hv.1)).lt ((Hok0.out.text.below HT3.out.bl).below hv.1) (by omega))
          have HKB := Lib.hid (fun W (hv : Viv wc wa.heap.size XB cb y W) => keptBytes_any p.ent.body _ p.bA p.bc W (hL3.out.stay (Stay.of_below hv.1)).lb ((Hok0.out.body.below HT3.out.bl).below hv.1) (by omega))
          clear hrows hcown hccol hbcb hcs hbl3 hrb
          go_region_held3 (fun w' => w'.cell? ⟨bb, off + k * 9 + 2, none⟩ = some (.slice p.nA p.ns.length p.nc) ∧ w'.cell? ⟨bb, off + k * 9 + 3, none⟩ = some (.slice p.tA p.ts.length p.tc) ∧ w'.cell? ⟨bb, off + k * 9 + 4, none⟩ = some (.int .i64 p.ent.index) ∧ w'.cell? ⟨bb, off + k * 9 + 5, none⟩ = some (.int .i64 p.ent.term) ∧ w'.cell? ⟨bb, off + k * 9 + 6, none⟩ = some (.int .i64 p.ent.kind) ∧ w'.cell? ⟨bb, off + k * 9 + 7, none⟩ = some (.slice p.bA p.ent.body.length p.bc) ∧ w'.cell? ⟨q, 0, none⟩ = some (.int .i64 p.ent.index) ∧ w'.cell? ⟨q, 1, none⟩ = some (.int .i64 p.ent.term) ∧ w'.cell? ⟨q, 2, none⟩ = some (.int .i64 p.ent.kind) ∧ w'.cell? ⟨q, 3, none⟩ = some (.slice (some ⟨g10, 0, none⟩) p.ent.body.length cap10)) (first | exact K11.out | exact G11.out | exact K11.out.below (below_new _ _)) (first
            | (go_at_call 23; (with_reducible refine (HSB.out _ ?_ ?_).mono ?_); exact HzA.out; exact HzB.out; rintro e w1 ⟨rfl, hq⟩; have HQ := Lib.hid (show Below wg.heap.size wg w1 from (by obtain ⟨nq, e⟩ := hq; subst e; first | exact drewN_below (Below.refl _ _) nq | exact drewN_below (Below.refl wg.heap.size wg).drew nq)); have K11 := Lib.hid (G11.out.below HQ.out); clear hq)
            | (go_at_call 24; (with_reducible refine (HAp.out w1 HQ.out).mono ?_); rintro e w2 ⟨rfl, hv⟩; have HV := Lib.hid hv; clear K11; have K11 := Lib.hid (H11.out.below HV.out.1); clear hv)
            | (go_at_call 25; (with_reducible refine (HKI.out _ ?_).mono ?_); (first | exact HV.out | exact HV.out.drew); rintro e w3 ⟨rfl, nq, hq⟩; have HV3 := Lib.hid (show Viv wc wa.heap.size XB cb y w3 from (by subst hq; first | exact HV.out.on (drewN_below (Below.refl _ _) nq) | exact HV.out.on (drewN_below (Below.refl _ _).drew nq))); clear K11; have K11 := Lib.hid (H11.out.below HV3.out.1); clear hq HV; have HV := HV3; clear HV3)
            | (go_at_call 26; (with_reducible refine (HKT.out _ ?_).mono ?_); (first | exact HV.out | exact HV.out.drew); rintro e w3 ⟨rfl, nq, hq⟩; have HV3 := Lib.hid (show Viv wc wa.heap.size XB cb y w3 from (by subst hq; first | exact HV.out.on (drewN_below (Below.refl _ _) nq) | exact HV.out.on (drewN_below (Below.refl _ _).drew nq))); clear K11; have K11 := Lib.hid (H11.out.below HV3.out.1); clear hq HV; have HV := HV3; clear HV3)
            | (go_at_call 26; (with_reducible refine (HKB.out _ ?_).mono ?_); (first | exact HV.out | exact HV.out.drew); rintro e w3 ⟨rfl, nq, hq⟩; have HV3 := Lib.hid (show Viv wc wa.heap.size XB cb y w3 from (by subst hq; first | exact HV.out.on (drewN_below (Below.refl _ _) nq) | exact HV.out.on (drewN_below (Below.refl _ _).drew nq))); clear K11; have K11 := Lib.hid (H11.out.below HV3.out.1); clear hq HV; have HV := HV3; clear HV3)
            | (go_at_call 27; (with_reducible refine (HRt.out _ _ _).mono ?_); rintro e w3 ⟨rfl, hq⟩; have HV3 := Lib.hid (show Viv wc wa.heap.size XB cb y w3 from (by first | exact HV.out.on hq | exact HV.out.drew.on hq)); clear K11; have K11 := Lib.hid (H11.out.below HV3.out.1); clear hq HV; have HV := HV3; clear HV3)
            | (go_at_call 28; (with_reducible refine (HRr.out _ _ _).mono ?_); rintro e w3 ⟨rfl, hq⟩; have HV3 := Lib.hid (show Viv wc wa.heap.size XB cb y w3 from (by first | exact HV.out.on hq | exact HV.out.drew.on hq)); clear K11; have K11 := Lib.hid (H11.out.below HV3.out.1); clear hq HV; have HV := HV3; clear HV3))
          all_goals (go_wp2_with fail)
          all_goals (go_roundg (ps.length - (k + 1)))
          case measure => rw [Hgk.out]; omega
          case rel =>
            have hs1 := HV.out.1.size
            have hF := HF.out
            refine ⟨k + 1, S', T', rfl, by omega, by go_num, Lib.hid ?_, Lib.hid ?_⟩
            · rw [hF.1, hF.2.1]; exact HT3.out.below HV.out.1
            · rw [hF.2.1]
              unfold ToldAt
              rw [hF.2.2.1]
              exact ⟨XB, cb, rfl, ownsRow_base HV.out.2 (Nat.le_trans HT3.out.bl.size HA.out.2.size), HB.out.2.2, by omega⟩
    · obtain rfl : k = ps.length := by omega
      obtain ⟨X, cp, rfl, hX⟩ := hTold.out
      have HX := Lib.hid hX
      have Hbl := Lib.hid hTwo.out.bl
      clear hlt hTold hTwo
      go_wp2_with fail
      go_ret2
      exact ⟨_, rfl, ⟨X, cp, rfl, HX.out⟩, Hbl.out⟩
end Go.Proofs.YtifoiiaddcgngaaGreatDoor
namespace Go.Proofs.YtifoiiaddcgngaaGreatDoor
open Go.RowKit
set_option maxRecDepth 100000 in
set_option maxHeartbeats 2000000 in
theorem codePuts_any (σ : Sen) (w : World) (hG : GlF σ w) (A : Option Addr) (ps : List PartV) (c : Nat) (hp : PVAt w A ps) (hl : ps.length ≤ 140737488351232) (hnn : ∀ p ∈ ps, p.nA = none → p.nc = 0) :
    Calls Tryz.prog 6 #[.slice A ps.length c] w fun e w' => e = .returned (.bool true) ∧ Below w.heap.size w w' := by
  go_enter Tryz.func6, Tryz.ntmps6
  go_wp2_with fail
  refine (size_any w A ps c hp hl).mono ?_
  rintro e w2 ⟨m, rfl, hm, hmt, hq⟩
  have hq : Qu w w2 := hq
  have hb2 : Below w.heap.size w w2 := hq.below _
  have Hmt := Lib.hid hmt
  clear hmt hq
  by_cases hbig : (m : Int) > 3000
  · go_wp2_with fail
    refine (awake_any σ w2 (hG.below hb2)).mono ?_
    rintro e w3 ⟨rfl, hb3⟩
    go_wp2_with fail
    go_ret
    exact ⟨rfl, hb2.trans (hb3.mono hb2.size)⟩
  · have HP := Lib.hid (puts_any w2 A ps c (hp.below hb2) hnn (by have := Hmt.out (by omega); omega))
    go_wp2_with fail
    refine HP.out.mono ?_
    rintro e w3 ⟨v, rfl, ⟨X, cp, rfl, hX⟩, hb3⟩
    have hb4 := hb2.trans (hb3.mono hb2.size)
    have HA := Lib.hid (awake_any σ w3 (hG.below hb4))
    clear hX HP
    go_wp2_with fail
    refine HA.out.mono ?_
    rintro e w5 ⟨rfl, hb5⟩
    go_wp2_with fail
    go_ret
    exact ⟨rfl, hb4.trans (hb5.mono hb4.size)⟩
end Go.Proofs.YtifoiiaddcgngaaGreatDoor
