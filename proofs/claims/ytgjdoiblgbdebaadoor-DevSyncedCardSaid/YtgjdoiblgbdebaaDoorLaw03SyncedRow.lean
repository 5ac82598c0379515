/- DevSynced: what is synced stays stored. -/
/- DevSynced, of every input. -/
/- DevSynced: what is synced is stored, whatever crashes: behind writes that wait, crashed and woken however, each block is as it was stored, or as one of its writes that waited, but for one; sectors are never torn. The row's statement, and its tied card (the listed variables are tied to the program's text). -/
import Derived.Test.YtgjdoiblgbdebaaDoorLaw03SyncMem
import Derived.Test.YtgjdoiblgbdebaaDoorLaw03Awake
import Derived.Deep.RegionHeld3
import Derived.Test.YtgjdoiblgbdebaaDoorLaw03Deeds
import Derived.SevenTiedAt
namespace Go.Proofs.YtgjdoiblgbdebaaDoor
open Go.RowKit
set_option maxRecDepth 100000 in
set_option maxHeartbeats 16000000 in
theorem devSynced_up (σ : SenD) (w : World) (hG : GlD σ w) (B : Nat) (A1 A2 : Option Addr) (l1 l2 : List DeedV) (c1 c2 : Nat) (hl1 : DeedsAt w A1 l1) (hl2 : DeedsAt w A2 l2) (hm1 : l1.length ≤ 140737488351232) (hm2 : l2.length ≤ 140737488351232) (stay torn sectors : Int)
    (hg1 : greatB (B : Int) l1 = false) (hg2 : greatB (B : Int) l2 = false) (hB0 : 1 ≤ B) (hB40 : B ≤ 40) (hll : l1.length + l2.length ≤ 60) :
    Calls Tryd.prog 5 #[.int .i64 (B : Int), .slice A1 l1.length c1, .slice A2 l2.length c2, .int .i64 stay, .int .i64 torn, .int .i64 sectors] w fun e w' => e = .returned (.bool true) ∧ Below w.heap.size w w' := by
  have hA := awake_any σ w hG
  have HG := Lib.hid hG
  have H1 := Lib.hid hl1
  have H2 := Lib.hid hl2
  have HGr1 := Lib.hid (fun w' (hb : Below w.heap.size w w') => great_any w' (B : Int) A1 l1 c1 (hl1.below hb) hm1)
  have HGr2 := Lib.hid (fun w' (hb : Below w.heap.size w w') => great_any w' (B : Int) A2 l2 c2 (hl2.below hb) hm2)
  rw [hg1] at HGr1
  rw [hg2] at HGr2
  have HA := Lib.hid hA
  have hB1 : (1 : Int) ≤ (B : Int) := by omega
  have hB2 : (B : Int) ≤ 9223372036854775807 := by omega
  have hB3 : ¬ (B : Int) < 1 := by omega
  have hB4 : ¬ 40 < (B : Int) := by omega
  have hll2 : ¬ 60 < (l1.length : Int) + (l2.length : Int) := by omega
  clear hA hG hl1 hl2 hg1 hg2 hm1 hm2
  go_enter Tryd.func5, Tryd.ntmps5
  go_wp2_with fail
  refine HA.out.mono ?_
  rintro e w1 ⟨rfl, hb1⟩
  have Hb1 := Lib.hid hb1
  clear hb1 HA
  go_wp2_with fail
  refine (HGr1.out w1 Hb1.out).mono ?_
  rintro e w' ⟨rfl, rfl⟩
  go_wp2_with fail
  refine (HGr2.out w1 Hb1.out).mono ?_
  rintro e w' ⟨rfl, rfl⟩
  clear HGr1 HGr2
  go_wp2_with fail
  refine (OwnT.new Hb1.out B hB0 (by omega)).mono ?_
  rintro e w2 ⟨h, rfl, k2, _⟩
  have K0 := Lib.hid (show ∃ T D, OwnT w w2 T h D ∧ Calm B D ∧ D.Few 0 ∧ True from ⟨_, _, k2, ⟨List.length_replicate, rfl, rfl⟩, ⟨Nat.le_refl 0, Nat.le_refl 0, Nat.le_refl 0⟩, trivial⟩)
  clear k2
  go_wp2_with fail
  go_loopg [16] l1.length (fun gk i wx => ∃ q : Nat, gk = l1.length - q ∧ q ≤ l1.length ∧ i = .int .i64 (q : Int) ∧ Hid (∃ T D, OwnT w wx T h D ∧ Calm B D ∧ D.Few q ∧ True))
  case atStart => exact ⟨0, rfl, Nat.zero_le _, rfl, Lib.hid K0.out⟩
  case round =>
    obtain ⟨q, hgk, hq, rfl, hT⟩ := hrel
    have Hgk := Lib.hid hgk
    clear hgk
    obtain ⟨T, D, hK⟩ := hT.out
    have K := Lib.hid hK
    clear hT hK
    by_cases hlt : (q : Int) < (l1.length : Int)
    · have hltN : q < l1.length := by omega
      have HC := Lib.hid (K.out.2.1.write (l1[q].n % (B : Int)) ⟨Int.emod_nonneg _ (by omega), Int.emod_lt_of_pos _ (by omega)⟩ l1[q].bs)
      have HF := Lib.hid (K.out.2.2.1.write (l1[q].n % (B : Int)) l1[q].bs)
      have H1c := 0
      clear H1c
      obtain ⟨b0, off, rfl, hc⟩ := H1.out.2 (by rintro rfl; exact absurd hltN (Nat.not_lt_zero _))
      obtain ⟨_, c1, c2, _, _, _⟩ := deed_cells hltN hc
      have k1 := cell_below c1 K.out.1.below
      have k2 := cell_below c2 K.out.1.below
      have Hc := Lib.hid (And.intro c1 c2)
      have Hx := Lib.hid (H1.out.1 l1[q] (List.getElem_mem hltN))
      have hi1 : (0 : Int) ≤ (q : Int) := by omega
      clear hc c1 c2
      generalize l1[q] = x at *
      go_wp2_with fail
      go_region_held3 (fun w' => w'.cell? ⟨b0, off + q * 6 + 1, none⟩ = some (.int .i64 x.n) ∧ w'.cell? ⟨b0, off + q * 6 + 2, none⟩ = some (.slice x.A x.bs.length x.c)) (first | exact ⟨k1, k2⟩ | exact ⟨j1, j2⟩) (first | (go_at_call 17; refine (pick_any x.n (B : Int) _ hB1 hB2).mono ?_; rintro e w2 ⟨rfl, rfl⟩) | (go_at_call 16; refine (OwnT.write HG.out K.out.1.drew ⟨by have := K.out.2.2.1.tu; omega, by have := K.out.2.2.1.cr; omega, by have := K.out.2.2.1.ws; omega⟩ (x.n % (B : Int)) x.A x.bs x.c (Hx.out.bytes.below K.out.1.drew.below) (fun hne a e ht => by have := Hx.out.old hne a e; have := K.out.1.lo _ ht; omega) Hx.out.len).mono ?_; rintro e w3 ⟨rfl, h2, h3⟩; have K3 := Lib.hid (And.intro h2 h3); have j1 := cell_below Hc.out.1 h2.below; have j2 := cell_below Hc.out.2 h2.below; clear h2 h3))
      all_goals
        go_wp2_with fail
        go_roundg (l1.length - (q + 1))
        case measure => rw [Hgk.out]; omega
        case rel => exact ⟨q + 1, rfl, by omega, by go_num, Lib.hid ⟨_, _, (by first | exact K3.out.1 | exact K3.out.1.drew), HC.out.1, HF.out, trivial⟩⟩
    · have HS := Lib.hid (K.out.2.1.sync K.out.2.2.1)
      go_wp2_with fail
      refine (OwnT.sync HG.out K.out.1 ⟨by have := K.out.2.2.1.tu; omega, by have := K.out.2.2.1.cr; omega, by have := K.out.2.2.1.ws; omega⟩).mono ?_
      rintro e w3 ⟨rfl, k3, _⟩
      rw [HS.out.1]
      have K3 := Lib.hid (show ∃ T D, OwnT w w3 T h D ∧ Calm B D ∧ D.waits = [] ∧ D.Few 61 from ⟨_, _, k3, HS.out.2.1, HS.out.2.2.1, ⟨by have := HS.out.2.2.2.tu; omega, by have := HS.out.2.2.2.cr; omega, by have := HS.out.2.2.2.ws; omega⟩⟩)
      clear k3 HS K Hgk hlt hq
      obtain ⟨T, D, hK⟩ := K3.out
      have K := Lib.hid hK
      clear K3 hK
      obtain ⟨y0, y2, y3, y4, y5, hst⟩ := statV1 K.out.2.2.1
      have hsf := statField1
      go_wp2_with fail
      refine (OwnT.stat K.out.1).mono ?_
      rintro e w4 ⟨rfl, hb4, k4⟩
      rw [hst]
      have K4 := Lib.hid k4
      have HT := Lib.hid K.out.2
      clear k4 hb4 hst K
      go_wp2_with fail
      clear hsf
      go_loopg [15, 17] B (fun gk v i wx => ∃ (q : Nat) (vs : List Value), gk = B - q ∧ q ≤ B ∧ i = .int .i64 (q : Int) ∧ Hid (OwnT w wx T h D ∧ RowW w wx T v q vs D.stored))
      case atStart => exact ⟨0, [], rfl, Nat.zero_le _, rfl, Lib.hid ⟨K4.out, World.ownsRow_nil _ _ _ _, (fun g e => by simp [Value.ownBlock] at e), (fun i hi => absurd hi (Nat.not_lt_zero _))⟩⟩
      case round =>
        obtain ⟨q, vs, hgk, hq, rfl, hK⟩ := hrel
        have Hgk := Lib.hid hgk
        have K5 := Lib.hid hK.out
        clear hgk hK
        by_cases hlt : (q : Int) < (B : Int)
        · have hltN : q < B := by omega
          go_wp2_with fail
          refine (stored_any K5.out.1.at_ (q : Int)).mono ?_
          rintro e w6 ⟨u, rfl, hu, hb6⟩
          rw [HT.out.1.stored hltN] at hu
          have Hu := Lib.hid hu
          obtain ⟨A, hue, hbA, haA⟩ := hu.bytes
          rw [(DM.Ok.stored_len K5.out.1.ok (by rw [HT.out.1.len]; exact hltN))] at hue
          subst hue
          have Hb6 := Lib.hid hb6
          have b7 := below_new w6 (.cells #[.slice A 256 256] 33)
          have Ho := Lib.hid (ownsRow_below (ownsRow_below K5.out.2.own hb6) b7)
          have HN : Hid (∀ j v, [Value.slice A 256 256][j]? = some v → (w6.alloc (.cells #[.slice A 256 256] 33)).cell? ((⟨w6.heap.size, 0, none⟩ : Addr).add j) = some v) := Lib.hid (fun j v hj => by
            rw [Addr.add_mid, Nat.zero_add]
            exact ((BlockIs.made w6 33 #[.slice A 256 256]).cell j).trans (by rw [List.getElem?_toArray]; exact hj))
          have Hb7 := Lib.hid (Nat.le_trans K5.out.1.below.size (Nat.le_trans hb6.size b7.size))
          have HW := Lib.hid (K5.out.1.on hb6 |>.on b7)
          have hq40 : q + 1 ≤ 40 := by omega
          clear hu hbA haA hb6 b7
          obtain ⟨i0, hi, hz0, hz1, hz2⟩ := info_parts infoRow
          go_wp2_with (refine wpList_append_own_at _ rfl (.tmp 92) (.tmp 96) 39 rfl w.heap.size 33 i0 (.slice none 0 0) 1 24 Tryd.underlying39 hi hz0 hz1 hz2 rfl (by decide) _ q vs rfl Ho.out ⟨w6.heap.size, 0, none⟩ 1 1 [.slice A 256 256] rfl rfl HN.out (fun v hv => by rw [List.mem_singleton.1 hv]; rfl) (by unfold maxLen; omega) (by omega) Hb7.out ?_; intro v7 w7 ho7 hg7 _ hl7; have H7 := Lib.hid (And.intro ho7 (And.intro hg7 hl7)); clear ho7 hg7 hl7)
          clear hi hz0 hz1 hz2
          go_roundg (B - (q + 1))
          case measure => rw [Hgk.out]; omega
          case rel =>
            refine ⟨q + 1, vs ++ [.slice A 256 256], rfl, by omega, by go_num, Lib.hid ⟨⟨HW.out.at_.keep H7.out.2.1.size (fun b hb => H7.out.2.1.block b (HW.out.at_.foot b hb) (fun e => K5.out.2.off b e.symm hb)), HW.out.below.grown H7.out.2.1 HW.out.below.size (fun k e => (Ho.out.lt k e).1), HW.out.lo⟩, ?_⟩⟩
            exact K5.out.2.snoc K5.out.1.at_.foot Hb6.out Hu.out H7.out.1 H7.out.2.1 H7.out.2.2
        · obtain rfl : q = B := by omega
          obtain ⟨g, cap, rfl, hcap, hwas⟩ := K5.out.2.was (by omega)
          have KW := Lib.hid (show ∃ T5 D5, OwnT w wr T5 h D5 ∧ Calm q D5 ∧ D5.Few (61 + 0) ∧ D5.cells = D.cells ∧ D5.waits = waitsOf (l2.take 0) (q : Int) ∧ WasAt wr T5 g q D.stored from ⟨T, D, K5.out.1, HT.out.1, HT.out.2.2, rfl, HT.out.2.1, hwas⟩)
          clear hwas
          have HD := Lib.hid (And.intro K5.out.1.ok (And.intro HT.out.1.len hcap))
          clear hcap K5 HT K4 Hgk hlt hq
          generalize q = B at *
          go_wp2_with fail
          go_loopg [18] l2.length (fun gk i wx => ∃ q : Nat, gk = l2.length - q ∧ q ≤ l2.length ∧ i = .int .i64 (q : Int) ∧ Hid (∃ T5 D5, OwnT w wx T5 h D5 ∧ Calm B D5 ∧ D5.Few (61 + q) ∧ D5.cells = D.cells ∧ D5.waits = waitsOf (l2.take q) (B : Int) ∧ WasAt wx T5 g B D.stored))
          case atStart => exact ⟨0, rfl, Nat.zero_le _, rfl, Lib.hid KW.out⟩
          case round =>
            obtain ⟨q, hgk, hq, rfl, hT⟩ := hrel
            have Hgk := Lib.hid hgk
            clear hgk
            obtain ⟨T_5, D_5, hK⟩ := hT.out
            have K := Lib.hid hK
            clear hT hK
            by_cases hlt : (q : Int) < (l2.length : Int)
            · have hltN : q < l2.length := by omega
              have HC := Lib.hid (K.out.2.1.write (l2[q].n % (B : Int)) ⟨Int.emod_nonneg _ (by omega), Int.emod_lt_of_pos _ (by omega)⟩ l2[q].bs)
              have HF := Lib.hid (K.out.2.2.1.write (l2[q].n % (B : Int)) l2[q].bs)
              have HWS := Lib.hid (waitsOf_snoc l2 (B : Int) q hltN)
              obtain ⟨b0, off, rfl, hc⟩ := H2.out.2 (by rintro rfl; exact absurd hltN (Nat.not_lt_zero _))
              obtain ⟨_, c1, c2, _, _, _⟩ := deed_cells hltN hc
              have k1 := cell_below c1 K.out.1.below
              have k2 := cell_below c2 K.out.1.below
              have Hc := Lib.hid (And.intro c1 c2)
              have Hx := Lib.hid (H2.out.1 l2[q] (List.getElem_mem hltN))
              have hi1 : (0 : Int) ≤ (q : Int) := by omega
              clear hc c1 c2
              generalize l2[q] = x at *
              go_wp2_with fail
              go_region_held3 (fun w' => w'.cell? ⟨b0, off + q * 6 + 1, none⟩ = some (.int .i64 x.n) ∧ w'.cell? ⟨b0, off + q * 6 + 2, none⟩ = some (.slice x.A x.bs.length x.c)) (first | exact ⟨k1, k2⟩ | exact ⟨j1, j2⟩) (first | (go_at_call 17; refine (pick_any x.n (B : Int) _ hB1 hB2).mono ?_; rintro e w2 ⟨rfl, rfl⟩) | (go_at_call 16; refine (OwnT.write HG.out K.out.1.drew ⟨by have := K.out.2.2.1.tu; omega, by have := K.out.2.2.1.cr; omega, by have := K.out.2.2.1.ws; omega⟩ (x.n % (B : Int)) x.A x.bs x.c (Hx.out.bytes.below K.out.1.drew.below) (fun hne a e ht => by have := Hx.out.old hne a e; have := K.out.1.lo _ ht; omega) Hx.out.len).mono ?_; rintro e w3 ⟨rfl, h2, h3⟩; have K3 := Lib.hid (And.intro h2 h3); have j1 := cell_below Hc.out.1 h2.below; have j2 := cell_below Hc.out.2 h2.below; clear h2 h3))
              all_goals
                go_wp2_with fail
                go_roundg (l2.length - (q + 1))
                case measure => rw [Hgk.out]; omega
                case rel => exact ⟨q + 1, rfl, by omega, by go_num, Lib.hid ⟨_, _, (by first | exact K3.out.1 | exact K3.out.1.drew), HC.out.1, HF.out, HC.out.2.1.trans K.out.2.2.2.1, by rw [HC.out.2.2, K.out.2.2.2.2.1, HWS.out], (by first | exact (K.out.2.2.2.2.2.on (Below.refl _ _).drew).step K3.out.2 | exact ((K.out.2.2.2.2.2.on (Below.refl _ _).drew).step K3.out.2).on (Below.refl _ _).drew)⟩⟩
            · have HS := Lib.hid (K.out.2.1.crash K.out.2.2.1 stay torn sectors)
              obtain rfl : q = l2.length := by omega
              have HFacts := Lib.hid (crash_facts HD.out.1 HD.out.2.1 H2.out.bytes (by rw [HS.out.2.2.2.1, K.out.2.2.2.1, K.out.2.2.2.2.1, List.take_length] : (D_5.crash.2.wake stay torn sectors).2.cells = settleK D.cells (waitsOf l2 B) (fate stay torn sectors) (waitsOf l2 B).length))
              go_wp2_with fail
              refine (OwnT.crash HG.out K.out.1 ⟨by have := K.out.2.2.1.tu; omega, by have := K.out.2.2.1.cr; omega, by have := K.out.2.2.1.ws; omega⟩).mono ?_
              rintro e w8 ⟨rfl, k8, f8⟩
              rw [HS.out.1]
              have K8 := Lib.hid (And.intro k8 (K.out.2.2.2.2.2.step f8))
              clear k8 f8
              go_wp2_with fail
              refine (OwnT.wake K8.out.1 ⟨by have := HS.out.2.1.tu; omega, by have := HS.out.2.1.cr; omega, by have := HS.out.2.1.ws; omega⟩ stay torn sectors).mono ?_
              rintro e w9 ⟨rfl, k9, f9⟩
              rw [HS.out.2.2.1]
              obtain ⟨E, hE⟩ : ∃ E, (D_5.crash.2.wake stay torn sectors).2 = E := ⟨_, rfl⟩
              rw [hE] at HFacts k9
              have hE1 := HS.out.2.2.2.2.1
              have hE2 := HS.out.2.2.2.2.2
              rw [hE] at hE1 hE2
              have K9 := Lib.hid (show ∃ T5, OwnT w w9 T5 h E ∧ WasAt w9 T5 g B D.stored from ⟨_, k9, K8.out.2.step f9⟩)
              have HE := Lib.hid (And.intro hE1 (And.intro hE2 k9.ok))
              clear hE1 hE2 hE k9 f9 K8 HS K
              obtain ⟨T9, hK⟩ := K9.out
              have K10 := Lib.hid hK
              clear K9 hK
              go_wp2_with fail
              go_loopg [19, 20] B (fun gk o i wx => ∃ q : Nat, gk = B - q ∧ q ≤ B ∧ i = .int .i64 (q : Int) ∧ o = .int .i64 (((List.range q).countP (fun n => !wholeK (E.stored n) l2 B n (sameB (E.stored n) (D.stored n)) l2.length) : Nat) : Int) ∧ Hid (OwnT w wx T9 h E ∧ WasAt wx T9 g B D.stored))
              case atStart => exact ⟨0, rfl, Nat.zero_le _, rfl, rfl, K10⟩
              case round =>
                obtain ⟨q, hgk, hq, rfl, rfl, hK⟩ := hrel
                have Hgk := Lib.hid hgk
                have K := Lib.hid hK.out
                have HCn := Lib.hid (countP_snoc (fun n => !wholeK (E.stored n) l2 B n (sameB (E.stored n) (D.stored n)) l2.length) q)
                have hcl : (List.range q).countP (fun n => !wholeK (E.stored n) l2 B n (sameB (E.stored n) (D.stored n)) l2.length) ≤ q := Nat.le_trans List.countP_le_length (Nat.le_of_eq List.length_range)
                have HCn1 : Hid ((List.range q).countP (fun n => !wholeK (E.stored n) l2 B n (sameB (E.stored n) (D.stored n)) l2.length) = (List.range q).countP (fun n => !wholeK (E.stored n) l2 B n (sameB (E.stored n) (D.stored n)) l2.length)) := Lib.hid rfl
                obtain ⟨odd, hodd⟩ : ∃ odd, (List.range q).countP (fun n => !wholeK (E.stored n) l2 B n (sameB (E.stored n) (D.stored n)) l2.length) = odd := ⟨_, rfl⟩
                rw [hodd] at HCn hcl ⊢
                have Hodd := Lib.hid hodd
                clear hgk hK HCn1 hodd
                by_cases hlt : (q : Int) < (B : Int)
                · have hltN : q < B := by omega
                  have hrd := HE.out.2.1.read HE.out.1 hltN
                  have HE1 := Lib.hid (HE.out.2.2.stored_len (n := q) (by rw [HE.out.2.1.len]; exact hltN))
                  have HD1 := Lib.hid (HD.out.1.stored_len (n := q) (by rw [HD.out.2.1]; exact hltN))
                  have HP := Lib.hid (fun s hs => HFacts.out.1 q s hltN hs)
                  have hi0 : (0 : Int) ≤ (q : Int) := by omega
                  obtain ⟨be, hbe⟩ : ∃ b, E.stored q = b := ⟨_, rfl⟩
                  obtain ⟨bd, hbd⟩ : ∃ b, D.stored q = b := ⟨_, rfl⟩
                  have Hbd := Lib.hid hbd
                  rw [hbe] at HE1 HP hrd
                  rw [hbd] at HD1 HP
                  have Hrd := Lib.hid hrd
                  have HCn2 := Lib.hid (show (List.range (q + 1)).countP (fun n => !wholeK (E.stored n) l2 B n (sameB (E.stored n) (D.stored n)) l2.length) = odd + if (!wholeK be l2 B q (sameB be bd) l2.length) = true then 1 else 0 by rw [HCn.out, hbe, hbd])
                  clear hbe hbd hrd HCn
                  go_wp2_with fail
                  refine (OwnT.read HG.out K.out.1 (q : Int)).mono ?_
                  rintro e w11 ⟨v, rfl, ⟨A, rfl, hbA, haA⟩, hb11, k11⟩
                  rw [Hrd.out.1, HE1.out]
                  rw [Hrd.out.1] at hbA
                  have K11 := Lib.hid (And.intro k11 (And.intro (K.out.2.on hb11) hbA))
                  clear k11 hbA haA hb11
                  go_wp2_with fail
                  refine (OwnT.stored K11.out.1 (q : Int)).mono ?_
                  rintro e w12 ⟨v, rfl, ⟨A', rfl, hbA', haA'⟩, hb12, k12⟩
                  rw [Hrd.out.2] at hbA' ⊢
                  rw [HE1.out]
                  have K12 := Lib.hid (And.intro k12 (And.intro (K11.out.2.1.on hb12) (And.intro (K11.out.2.2.below hb12) hbA')))
                  clear k12 hbA' haA' hb12
                  have HSm := Lib.hid (sameBytes_any be be A A' 256 256 w12 K12.out.2.2.1 K12.out.2.2.2 (by rw [HE1.out]; decide))
                  rw [HE1.out, show sameB be be = true from decide_eq_true rfl] at HSm
                  go_wp2_with fail
                  refine HSm.out.mono ?_
                  rintro e w13 ⟨rfl, n13, rfl⟩
                  have K13 := Lib.hid (And.intro (K12.out.1.drewN n13) (And.intro (K12.out.2.1.on (drewN_below (Below.refl _ _) n13)) (K12.out.2.2.1.drewN n13)))
                  clear HSm K12 K11
                  generalize w12.drewN n13 = w13 at *
                  obtain ⟨A3, k3, hbA3⟩ := K13.out.2.1.get hltN (by rw [Hbd.out]; exact HD1.out)
                  rw [Hbd.out] at hbA3
                  have HSm := Lib.hid (sameBytes_any be bd A A3 256 256 w13 K13.out.2.2 hbA3 (by rw [HE1.out]; decide))
                  rw [HE1.out, HD1.out] at HSm
                  clear hbA3
                  go_wp2_with fail
                  refine HSm.out.mono ?_
                  rintro e w14 ⟨rfl, n14, rfl⟩
                  have K14 := Lib.hid (And.intro (K13.out.1.drewN n14) (And.intro (K13.out.2.1.on (drewN_below (Below.refl _ _) n14)) (K13.out.2.2.drewN n14)))
                  clear HSm k3 K13
                  generalize w13.drewN n14 = w14 at *
                  obtain ⟨x0, hx0⟩ : ∃ x0, sameB be bd = x0 := ⟨_, rfl⟩
                  rw [hx0] at HCn2 ⊢
                  clear hx0
                  go_wp2_with fail
                  go_loopg [23, 24] l2.length (fun gk y i wx => ∃ j : Nat, gk = l2.length - j ∧ j ≤ l2.length ∧ i = .int .i64 (j : Int) ∧ y = .bool (wholeK be l2 B q x0 j) ∧ Hid (OwnT w wx T9 h E ∧ WasAt wx T9 g B D.stored ∧ BytesAt wx A be))
                  case atStart => exact ⟨0, rfl, Nat.zero_le _, rfl, rfl, K14⟩
                  case round =>
                    obtain ⟨j, hgk2, hj, rfl, rfl, hK⟩ := hrel
                    have Hgk2 := Lib.hid hgk2
                    have K := Lib.hid hK.out
                    clear hgk2 hK
                    by_cases hjl : (j : Int) < (l2.length : Int)
                    · have hjN : j < l2.length := by omega
                      have HK := Lib.hid (show wholeK be l2 B q x0 (j + 1) = (wholeK be l2 B q x0 j || (decide (l2[j].n % (B : Int) = (q : Int)) && sameB be (paddedL l2[j].bs))) by
                        conv => lhs; unfold wholeK
                        rw [List.getElem?_eq_getElem hjN])
                      have hdl := (H2.out.below K.out.1.below)
                      obtain ⟨b0, off, rfl, hc⟩ := hdl.2 (by rintro rfl; exact absurd hjN (Nat.not_lt_zero _))
                      obtain ⟨_, k1, k2, _, _, _⟩ := deed_cells hjN hc
                      have Hx := Lib.hid (hdl.1 l2[j] (List.getElem_mem hjN))
                      have hi1 : (0 : Int) ≤ (j : Int) := by omega
                      clear hdl hc
                      obtain ⟨y, hy⟩ : ∃ y, wholeK be l2 B q x0 j = y := ⟨_, rfl⟩
                      rw [hy] at HK ⊢
                      clear hy
                      generalize l2[j] = x at *
                      cases y with
                      | true =>
                        go_wp2_with fail
                        go_roundg (l2.length - (j + 1))
                        case measure => rw [Hgk2.out]; omega
                        case rel => exact ⟨j + 1, rfl, by omega, by go_num, by rw [HK.out]; rfl, K⟩
                      | false =>
                        by_cases hn : x.n % (B : Int) = (q : Int)
                        · have hq1 : (x.n % (B : Int) == (q : Int)) = true := beq_iff_eq.2 hn
                          have HKn := Lib.hid hn
                          clear hn
                          go_wp2_with fail
                          refine (pick_any x.n (B : Int) _ hB1 hB2).mono ?_
                          rintro e w15 ⟨rfl, rfl⟩
                          go_wp2_with fail
                          refine (padded_any _ x.A x.bs x.c Hx.out.bytes Hx.out.len).mono ?_
                          rintro e w16 ⟨A', rfl, hbp, hb16⟩
                          have K16 := Lib.hid (And.intro (K.out.1.on hb16) (And.intro (K.out.2.1.on hb16) (And.intro (K.out.2.2.below hb16) hbp)))
                          clear hbp hb16
                          have HSm := Lib.hid (sameBytes_any be (paddedL x.bs) A A' 256 (paddedL x.bs).length w16 K16.out.2.2.1 K16.out.2.2.2 (by rw [HE1.out]; decide))
                          rw [HE1.out] at HSm
                          go_wp2_with fail
                          refine HSm.out.mono ?_
                          rintro e w17 ⟨rfl, n17, rfl⟩
                          go_wp2_with fail
                          go_roundg (l2.length - (j + 1))
                          case measure => rw [Hgk2.out]; omega
                          case rel => exact ⟨j + 1, rfl, by omega, by go_num, by rw [HK.out, decide_eq_true HKn.out]; simp, Lib.hid ⟨K16.out.1.drewN n17, K16.out.2.1.on (drewN_below (Below.refl _ _) n17), K16.out.2.2.1.drewN n17⟩⟩
                        · have hq1 : (x.n % (B : Int) == (q : Int)) = false := beq_eq_false_iff_ne.2 hn
                          have HKn := Lib.hid hn
                          clear hn
                          go_wp2_with fail
                          refine (pick_any x.n (B : Int) _ hB1 hB2).mono ?_
                          rintro e w15 ⟨rfl, rfl⟩
                          go_wp2_with fail
                          go_roundg (l2.length - (j + 1))
                          case measure => rw [Hgk2.out]; omega
                          case rel => exact ⟨j + 1, rfl, by omega, by go_num, by rw [HK.out, decide_eq_false HKn.out]; simp, K⟩
                    · obtain rfl : j = l2.length := by omega
                      obtain ⟨A3, k3, hbA3⟩ := K.out.2.1.get hltN (by rw [Hbd.out]; exact HD1.out)
                      rw [Hbd.out] at hbA3
                      have HPc := Lib.hid (pieced_any wr A A3 A2 256 256 c2 be bd l2 (q : Int) (B : Int) K.out.2.2 hbA3 HE1.out HD1.out ⟨Nat.le_refl _, by decide⟩ ⟨Nat.le_refl _, by decide⟩ (H2.out.below K.out.1.below) (by omega) ⟨hB1, hB2⟩ HP.out)
                      clear hbA3
                      obtain ⟨y, hy⟩ : ∃ y, wholeK be l2 B q x0 l2.length = y := ⟨_, rfl⟩
                      rw [hy] at HCn2 ⊢
                      clear hy
                      cases y with
                      | true =>
                        go_wp2_with fail
                        refine HPc.out.mono ?_
                        rintro e w18 ⟨rfl, hb18⟩
                        have K18 := Lib.hid (And.intro (K.out.1.on hb18) (K.out.2.1.on hb18))
                        clear hb18 k3
                        go_wp2_with fail
                        go_roundg (B - (q + 1))
                        case measure => rw [Hgk.out]; omega
                        case rel => exact ⟨q + 1, rfl, by omega, by go_num, by rw [HCn2.out]; rfl, K18⟩
                      | false =>
                        go_wp2_with fail
                        refine HPc.out.mono ?_
                        rintro e w18 ⟨rfl, hb18⟩
                        have K18 := Lib.hid (And.intro (K.out.1.on hb18) (K.out.2.1.on hb18))
                        clear hb18 k3
                        go_wp2_with fail
                        go_roundg (B - (q + 1))
                        case measure => rw [Hgk.out]; omega
                        case rel => exact ⟨q + 1, rfl, by omega, by go_num, by rw [HCn2.out]; simp, K18⟩
                · obtain rfl : q = B := by omega
                  have hodd1 : (odd : Int) ≤ 1 := by have h1 := HFacts.out.2; rw [Hodd.out] at h1; omega
                  go_wp2_with fail
                  go_ret
                  exact ⟨rfl, K.out.1.below⟩

end Go.Proofs.YtgjdoiblgbdebaaDoor
namespace Go.Proofs.YtgjdoiblgbdebaaDoor
open Go.RowKit
set_option maxRecDepth 100000 in
set_option maxHeartbeats 4000000 in
theorem devSynced_any (σ : SenD) (w : World) (hG : GlD σ w) (blocks : Int) (A1 : Option Addr) (l1 : List DeedV) (c1 : Nat) (hl1 : DeedsAt w A1 l1) (hm1 : l1.length ≤ 140737488351232) (A2 : Option Addr) (l2 : List DeedV) (c2 : Nat) (hl2 : DeedsAt w A2 l2) (hm2 : l2.length ≤ 140737488351232) (stay torn sectors : Int) :
    Calls Tryd.prog 5 #[.int .i64 blocks, .slice A1 l1.length c1, .slice A2 l2.length c2, .int .i64 stay, .int .i64 torn, .int .i64 sectors] w fun e w' => e = .returned (.bool true) ∧ Below w.heap.size w w' := by
  have HA := Lib.hid (awake_any σ w hG)
  have HGr1 := Lib.hid (fun w' (hb : Below w.heap.size w w') => great_any w' blocks A1 l1 c1 (hl1.below hb) hm1)
  have HGr2 := Lib.hid (fun w' (hb : Below w.heap.size w w') => great_any w' blocks A2 l2 c2 (hl2.below hb) hm2)
  by_cases hb1 : blocks < 1
  · clear hG hl1 hl2
    go_enter Tryd.func5, Tryd.ntmps5
    go_wp2_with fail
    refine HA.out.mono ?_
    rintro e w1 ⟨rfl, hb⟩
    have Hb := Lib.hid hb
    clear hb
    go_wp2_with fail
    go_ret
    exact ⟨rfl, Hb.out⟩
  · by_cases hb2 : 40 < blocks
    · clear hG hl1 hl2
      go_enter Tryd.func5, Tryd.ntmps5
      go_wp2_with fail
      refine HA.out.mono ?_
      rintro e w1 ⟨rfl, hb⟩
      have Hb := Lib.hid hb
      clear hb
      go_wp2_with fail
      go_ret
      exact ⟨rfl, Hb.out⟩
    · by_cases hb3 : 60 < (l1.length : Int) + (l2.length : Int)
      · clear hG hl1 hl2
        go_enter Tryd.func5, Tryd.ntmps5
        go_wp2_with fail
        refine HA.out.mono ?_
        rintro e w1 ⟨rfl, hb⟩
        have Hb := Lib.hid hb
        clear hb
        go_wp2_with fail
        go_ret
        exact ⟨rfl, Hb.out⟩
      · cases hg1 : greatB blocks l1 with
        | true =>
          rw [hg1] at HGr1
          clear hG hl1 hl2 hg1
          go_enter Tryd.func5, Tryd.ntmps5
          go_wp2_with fail
          refine HA.out.mono ?_
          rintro e w1 ⟨rfl, hb⟩
          have Hb := Lib.hid hb
          clear hb
          go_wp2_with fail
          refine (HGr1.out w1 Hb.out).mono ?_
          rintro e w' ⟨rfl, rfl⟩
          go_wp2_with fail
          go_ret
          exact ⟨rfl, Hb.out⟩
        | false =>
          cases hg2 : greatB blocks l2 with
          | true =>
            rw [hg1] at HGr1
            rw [hg2] at HGr2
            clear hG hl1 hl2 hg1 hg2
            go_enter Tryd.func5, Tryd.ntmps5
            go_wp2_with fail
            refine HA.out.mono ?_
            rintro e w1 ⟨rfl, hb⟩
            have Hb := Lib.hid hb
            clear hb
            go_wp2_with fail
            refine (HGr1.out w1 Hb.out).mono ?_
            rintro e w' ⟨rfl, rfl⟩
            go_wp2_with fail
            refine (HGr2.out w1 Hb.out).mono ?_
            rintro e w' ⟨rfl, rfl⟩
            go_wp2_with fail
            go_ret
            exact ⟨rfl, Hb.out⟩
          | false =>
            obtain ⟨B, rfl⟩ := Int.eq_ofNat_of_zero_le (show (0 : Int) ≤ blocks by omega)
            exact devSynced_up σ w hG B A1 A2 l1 l2 c1 c2 hl1 hl2 hm1 hm2 stay torn sectors hg1 hg2 (by omega) (by omega) (by omega)
end Go.Proofs.YtgjdoiblgbdebaaDoor
namespace Go.Proofs.YtgjdoiblgbdebaaDoor
open Go.ChangeShapes Go.WideShapes Go.RowKit Go.Deep
set_option maxRecDepth 100000 in
theorem devSynced_lifted (os : Os) (started : os.Started) (H : Type) (enc : TypeId × Value → H) :
    ReturnsInHanded {} Tryd.checked os 5 .any (fun w args => (Rows.devSyncedSpec.pre enc Tryd.prog Tryd.f5 [] false w args ∧ laidMetH Tryd.prog laid5 w) ∧ sizedMet enc Tryd.prog Tryd.f5 (OpenSpec.ofChange Rows.devSyncedSpec) false w args)
      (Rows.devSyncedSpec.post enc Tryd.prog Tryd.f5 false true false false) := by
  refine returnsInHanded_of_change_and (C := Tryd.checked) (X := fun w _ => laidMetH Tryd.prog laid5 w) (fun _ _ _ hh h => h.of_heap hh) own started (by kernel_rfl) Tryd.func5
    (ChangeSpec.witness_shaped (enc := enc) (C := Tryd.checked) (os := os) (X := fun w _ => laidMetH Tryd.prog laid5 w) false (World.doorLaid Tryd.prog 400 os) #[.int .i64 0, .slice none 0 0, .slice none 0 0, .int .i64 0, .int .i64 0, .int .i64 0] 8 rfl (World.shaped_of_RefB (by kernel_rfl) (by kernel_rfl)) (by kernel_rfl) (by kernel_rfl) (by kernel_rfl) (door5 os _)) ?_
  intro W base args ds gs before hval0 hW _ hsz0 hL _
  have hval : ∀ (j : Nat) t v, Tryd.f5.params[j]? = some t → args[j]? = some v → Value.okWide Tryd.prog W .any base t v := hval0
  have hsz : (DataW.weightsEach Tryd.prog (Tryd.f5.params.toList ++ Rows.devSyncedSpec.plain.varTypes Tryd.prog) (ds ++ gs)).all (· ≤ reachBytes) = true := hsz0
  have hW' : DataW.Whole enc Tryd.prog Tryd.f5.params.toList Rows.devSyncedSpec.vars false W args.toList ds gs before := hW
  obtain ⟨p, q, hA0, hV, rfl, _, _⟩ := hW
  have hA : DataW.TrodAll enc Tryd.prog W 0 (fun _ => true) true Tryd.f5.params.toList args.toList ds p := hA0
  clear hval0 hsz0 hA0
  have hpar : Tryd.f5.params = #[3, 22, 22, 3, 3, 3] := Tryd.params5
  rw [hpar] at hA hval hsz
  obtain ⟨v0, v1, v2, v3, v4, v5, d0, d1, d2, d3, d4, d5, p0, p1, p2, p3, p4, p5, rfl, rfl, rfl, h0, h1, h2, h3, h4, h5⟩ := trodAll_six hA
  obtain ⟨σ, hG⟩ := gl5_of hL
  obtain ⟨a0, rfl, rfl, rfl, w0⟩ := open_int Tryd.underlying3 (hval 0 _ v0 rfl rfl) h0
  obtain ⟨A1, l1, c1, rfl, k1, m1⟩ := open_deeds (hval 1 _ v1 rfl rfl) h1 (reach_arg hsz (j := 1) rfl rfl)
  obtain ⟨A2, l2, c2, rfl, k2, m2⟩ := open_deeds (hval 2 _ v2 rfl rfl) h2 (reach_arg hsz (j := 2) rfl rfl)
  obtain ⟨a3, rfl, rfl, rfl, w3⟩ := open_int Tryd.underlying3 (hval 3 _ v3 rfl rfl) h3
  obtain ⟨a4, rfl, rfl, rfl, w4⟩ := open_int Tryd.underlying3 (hval 4 _ v4 rfl rfl) h4
  obtain ⟨a5, rfl, rfl, rfl, w5⟩ := open_int Tryd.underlying3 (hval 5 _ v5 rfl rfl) h5
  refine (devSynced_any σ W hG a0 A1 l1 c1 k1 m1 A2 l2 c2 k2 m2 a3 a4 a5).mono fun e W' ⟨he, hw⟩ => ?_
  subst he
  exact ⟨_, rfl, law_post (bt := 4) laidOut (by kernel_rfl) (by kernel_rfl) Tryd.underlying4 rfl (fun gs hgs => by subst hgs; rfl) hW' hw⟩
theorem devSynced_holds : Rows.DevSyncedSaid :=
  OpenClaim.holds_of_wide 5 Tryd.f5 rfl rfl rfl rfl rfl rfl rfl ⟨rfl, rfl, rfl, rfl, rfl⟩ rfl rfl rfl rfl rfl (by kernel_rfl) Tryd.func5 (by kernel_rfl)
    (of_decide_eq_true (by kernel_rfl)) (by unfold Func.isWrapper; first | (rw [if_pos (by decide +kernel)]; kernel_rfl) | (rw [if_neg (by decide +kernel)]; exact ⟨rfl, rfl⟩))
    (fun os started H enc _ => devSynced_lifted os started H enc)
theorem devSynced_card : Rows.DevSyncedCardSaid :=
  Claim7.holds_tied_plain_at .later [] [.sentinel, .sentinel, .sentinel, .sentinel, .sentinel] true Rows.devSyncedCard.stood.harness true
    devSynced_holds (fun _ h => by cases h) (by kernel_rfl) (fun _ h => by cases h) devSynced_row_tie rfl ⟨rfl, rfl⟩ (by kernel_rfl) rfl
    (fun f fn hf hfn => by
      obtain rfl : f = 5 := Option.some.inj ((show Tryd.prog.funcNamed "limpet/limpetlaw03.DevSynced" = some 5 by kernel_rfl).symm.trans hf) |>.symm
      obtain rfl : fn = Tryd.f5 := (Option.some.inj (Tryd.func5.symm.trans hfn)).symm
      exact ⟨by kernel_rfl, fun j t ht => by
        rw [Tryd.params5] at ht
        rcases j with _ | _ | _ | _ | _ | _ | j
        · obtain rfl : 3 = t := by simpa using ht
          exact (show Tryd.prog.wantsStandIn 3 = false by kernel_rfl)
        · obtain rfl : 22 = t := by simpa using ht
          exact (show Tryd.prog.wantsStandIn 22 = false by kernel_rfl)
        · obtain rfl : 22 = t := by simpa using ht
          exact (show Tryd.prog.wantsStandIn 22 = false by kernel_rfl)
        · obtain rfl : 3 = t := by simpa using ht
          exact (show Tryd.prog.wantsStandIn 3 = false by kernel_rfl)
        · obtain rfl : 3 = t := by simpa using ht
          exact (show Tryd.prog.wantsStandIn 3 = false by kernel_rfl)
        · obtain rfl : 3 = t := by simpa using ht
          exact (show Tryd.prog.wantsStandIn 3 = false by kernel_rfl)
        · simp at ht⟩)
    (by kernel_rfl)
#print axioms devSynced_card
end Go.Proofs.YtgjdoiblgbdebaaDoor
