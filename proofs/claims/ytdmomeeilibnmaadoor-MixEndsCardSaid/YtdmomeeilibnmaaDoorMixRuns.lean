/- MixRuns: the law's walk. -/
import Derived.Test.YtdmomeeilibnmaaDoorMixAwake
import Derived.Test.YtdmomeeilibnmaaDoorKitA
import Derived.Test.YtdmomeeilibnmaaDoorMixParts
import Derived.Test.YtdmomeeilibnmaaDoorMixRunMath
import Derived.OwnWalk
import Derived.Laws.OwnMore
import Derived.Laws.ShiftsVarLaws
import Derived.RegionTactic
import Derived.BigRegion
namespace Go.Proofs.YtdmomeeilibnmaaDoor
open Go.RowKit
theorem infoByte : (Tryd.prog.info? 5).map (fun i => (i.zero, i.size, i.bytes)) = some (some (.int .u8 0), 1, 1) := by kernel_rfl
def u8s (zs : List Int) : List Value := zs.map (Value.int .u8)
theorem own_bytes {w : World} {B g n cap : Nat} {zs : List Int} (h : w.ownsRow B 5 1 (.slice (some ⟨g, 0, none⟩) n cap) n (u8s zs)) (hr : ∀ z ∈ zs, 0 ≤ z ∧ z < 256) : BytesAt w (some ⟨g, 0, none⟩) zs := by
  refine ⟨hr, fun _ => ⟨g, 0, rfl, fun i hi => ?_⟩⟩
  have hl : (u8s zs).length = n * 1 := h.1
  have hn : i < n * 1 := by rw [← hl]; simpa [u8s] using hi
  rw [Nat.zero_add, h.cellAt i hn]
  simp [u8s, List.getD_eq_getElem?_getD, List.getElem?_eq_getElem hi]
theorem bit_val (t : BitVec 32) (k : Nat) : bits .and .u32 ((t.toNat : Int) / 2 ^ k) 1 = if t.getLsbD k then 1 else 0 := by
  have e : ((t.toNat : Int) / 2 ^ k) = ((t.toNat / 2 ^ k : Nat) : Int) := by
    rw [Int.natCast_ediv]; congr 1
  have hl : t.toNat / 2 ^ k < 4294967296 := Nat.lt_of_le_of_lt (Nat.div_le_self _ _) t.isLt
  have h1 := u32_and_nat (t.toNat / 2 ^ k) 1 hl (by decide)
  rw [e]
  rw [show ((1 : Nat) : Int) = 1 by rfl] at h1
  rw [h1, Nat.and_one_is_mod]
  have hb : t.getLsbD k = decide (t.toNat / 2 ^ k % 2 = 1) := by
    rw [← BitVec.testBit_toNat, Nat.testBit_eq_decide_div_mod_eq]
  rw [hb]
  by_cases h : t.toNat / 2 ^ k % 2 = 1
  · simp [h]
  · rw [if_neg (by simpa using h)]; omega
theorem pow_small (s : Nat) (hs : s < 8) : (1 % 256 * (2 : Int) ^ s % 256) = ((2 ^ s : Nat) : Int) := by
  match s, hs with
  | 0, _ => rfl
  | 1, _ => rfl
  | 2, _ => rfl
  | 3, _ => rfl
  | 4, _ => rfl
  | 5, _ => rfl
  | 6, _ => rfl
  | 7, _ => rfl
theorem turn_val (t : BitVec 32) (k s : Nat) (z : Int) (hs : s < 8) (h0 : 0 ≤ z) (h1 : z < 256) :
    ∃ z' : Int, bits .xor .u8 z (bits .and .u32 ((t.toNat : Int) / 2 ^ k) 1 % 256 * 2 ^ s % 256) = z' ∧ 0 ≤ z' ∧ z' < 256 ∧ BitVec.ofInt 32 z' = BitVec.ofInt 32 z ^^^ (if t.getLsbD k then 1#32 <<< s else 0#32) ∧ (t.getLsbD k = false → z' = z) := by
  obtain ⟨n, rfl⟩ := Int.eq_ofNat_of_zero_le h0
  rw [bit_val]
  have hp : 2 ^ s < 256 := (Nat.pow_lt_pow_right (by decide) hs : 2 ^ s < 2 ^ 8)
  cases hb : t.getLsbD k
  · refine ⟨(n : Int), ?_, h0, h1, by simp, fun _ => rfl⟩
    have := u8_xor_nat n 0 (by omega) (by decide)
    simpa using this
  · refine ⟨((n ^^^ 2 ^ s : Nat) : Int), ?_, by omega, ?_, ?_, fun h => by cases h⟩
    · rw [if_pos rfl, pow_small s hs]
      exact u8_xor_nat n (2 ^ s) (by omega) hp
    · have : n ^^^ 2 ^ s < 2 ^ 8 := Nat.xor_lt_two_pow (by omega) (by omega)
      omega
    · rw [if_pos rfl, BitVec.ofInt_natCast, BitVec.ofInt_natCast]
      have e : (1#32 : BitVec 32) <<< s = BitVec.ofNat 32 (2 ^ s) := by
        have := Mx.mul_shift 1 s
        rw [Nat.one_mul] at this
        exact this.symm
      rw [e]
      apply BitVec.eq_of_getLsbD_eq
      intro i hi
      rw [BitVec.getLsbD_xor, BitVec.getLsbD_ofNat, BitVec.getLsbD_ofNat, BitVec.getLsbD_ofNat, Nat.testBit_xor]
      simp [hi]
theorem u8s_set (zs : List Int) (q : Nat) (z : Int) : (u8s zs).set q (.int .u8 z) = u8s (zs.set q z) := by unfold u8s; rw [List.map_set]
theorem mem_set_bd {zs : List Int} {q : Nat} {z' : Int} (hr : ∀ z ∈ zs, 0 ≤ z ∧ z < 256) (h0 : 0 ≤ z') (h1 : z' < 256) : ∀ z ∈ zs.set q z', 0 ≤ z ∧ z < 256 := by
  intro z hz
  rcases List.mem_or_eq_of_mem_set hz with h | rfl
  · exact hr z h
  · exact ⟨h0, h1⟩
theorem set_same (zs : List Int) (q : Nat) (hq : q < zs.length) : zs.set q (zs.getD q 0) = zs := by
  rw [List.getD_eq_getElem?_getD, List.getElem?_eq_getElem hq, Option.getD_some]; exact List.set_getElem_self hq
theorem ownsRow_drew {w : World} {B : Nat} {e : TypeId} {size n : Nat} {v : Value} {xs : List Value} (h : w.ownsRow B e size v n xs) : w.drew.ownsRow B e size v n xs := h
theorem sameBytes_at (xs ys : List Int) (n : Nat) (A B : Option Addr) (ca cb : Nat) (w : World) (hn : ys.length = n) (ha : BytesAt w A xs) (hb : BytesAt w B ys) (hx : xs.length ≤ 9223372036854775807) :
    Calls Tryd.prog 18 #[.slice A xs.length ca, .slice B n cb] w fun e w' => e = .returned (.bool (sameB xs ys)) ∧ ∃ n, w' = w.drewN n := by
  subst hn; exact sameBytes_any xs ys A B ca cb w ha hb hx
theorem sum_part_n (zs : List Int) (n g : Nat) (A : Option Addr) (cap : Nat) (w : World) (hn : zs.length = n) (hc : w.cell? ⟨g, 0, none⟩ = some (.slice A n cap)) (hz : BytesAt w A zs) (hcap : n ≤ cap) (hm : cap ≤ 9223372036854775807) :
    Calls Tryd.prog 12 #[.slice (some ⟨g, 0, none⟩) 1 1] w fun e w' => e = .returned (.int .u32 ((Mx.sum zs).toNat : Int)) ∧ Below w.heap.size w w' := by
  subst hn; exact sum_part zs g A cap w hc hz hcap hm
theorem fits_n (s : BitVec 32) (zs : List Int) (n : Nat) (A : Option Addr) (cap : Nat) (b : Addr) (w : World) (hn : zs.length = n) (hz : BytesAt w A zs) (hcap : n ≤ cap) (hm : cap ≤ 9223372036854775807)
    (hg : w.cell? ⟨0, 0, none⟩ = some (.iface 73 (.pointer (some b)))) :
    Calls Tryd.prog 9 #[.slice A n cap, .int .u32 (s.toNat : Int)] w fun e w' => e = .returned (.int .i64 (fitsVal zs s)) ∧ Below w.heap.size w w' := by
  subst hn; exact fits_any s zs A cap b w hz hcap hm hg
theorem drewN_below {B : Nat} {a w : World} (h : Below B a w) (n : Nat) : Below B a (w.drewN n) := Below.drewN h n
theorem own_form {w : World} {B : Nat} {e : TypeId} {size n : Nat} {v : Value} {xs : List Value} (h : w.ownsRow B e size v n xs) (hn : 0 < n) :
    ∃ g cap, v = .slice (some ⟨g, 0, none⟩) n cap ∧ B ≤ g ∧ g < w.heap.size ∧ n ≤ cap ∧ cap ≤ maxLen := by
  rcases h.2 with ⟨_, h0⟩ | ⟨g, cap, cur, hv, hb, hg, hc, hm, _, _⟩
  · omega
  · refine ⟨g, cap, hv, hb, ?_, hc, hm⟩
    rcases Nat.lt_or_ge g w.heap.size with hlt | hge
    · exact hlt
    · rw [Array.getElem?_eq_none hge] at hg; cases hg
theorem src_cells (zs : List Int) (zb zo : Nat) (w : World) (o : Obj) (hc : ∀ i, i < zs.length → w.cell? ⟨zb, zo + i, none⟩ = some (.int .u8 (zs.getD i 0))) :
    ∀ j u, (u8s zs)[j]? = some u → (w.alloc o).cell? ((⟨zb, zo, none⟩ : Addr).add j) = some u := by
  intro j u hj
  simp only [u8s, List.getElem?_map] at hj
  cases hq : zs[j]? with
  | none => simp [hq] at hj
  | some z =>
    obtain rfl : Value.int .u8 z = u := by simpa [hq] using hj
    have hlt := (List.getElem?_eq_some_iff.1 hq).1
    have hadd : (⟨zb, zo, none⟩ : Addr).add j = ⟨zb, zo + j, none⟩ := by unfold Addr.add; split <;> simp_all
    have h1 := hc j hlt
    rw [List.getD_eq_getElem?_getD, hq] at h1
    rw [hadd, World.cell?_alloc_lt _ _ _ (World.block_lt_of_cell? _ _ h1)]
    exact h1
theorem u8s_one (zs : List Int) : ∀ u ∈ u8s zs, u.oneCell' = true := by
  intro u hu
  simp only [u8s, List.mem_map] at hu
  obtain ⟨z, _, rfl⟩ := hu
  rfl
set_option maxRecDepth 100000 in
set_option maxHeartbeats 4000000 in
theorem mixRuns_any (p : Part) (at_ : Int) (t : BitVec 32) (b : Addr) (w : World) (hg : w.cell? ⟨0, 0, none⟩ = some (.iface 73 (.pointer (some b))))
    (hp : p.ok w) (lp : p.cap ≤ 140737488351232) :
    Calls Tryd.prog 5 #[p.val, .int .i64 at_, .int .u32 (t.toNat : Int)] w fun e w' => e = .returned (.bool true) ∧ Below w.heap.size w w' := by
  obtain ⟨pA, pz, pc⟩ := p
  have hp1 : pz.length ≤ 140737488351232 := Nat.le_trans hp.2.1 lp
  unfold Part.val
  clear lp
  obtain ⟨i0, hi, hz0, hz1, hz2⟩ := info_parts infoByte
  by_cases hlen : pz.length > 20000
  · go_enter Tryd.func5, Tryd.ntmps5
    go_wp2_with fail
    refine (awake_any b w hg).mono ?_
    rintro e w1 ⟨rfl, hb1⟩
    go_wp2_with fail
    go_ret
    exact ⟨rfl, hb1⟩
  · by_cases h0 : pz.length = 0
    · obtain rfl : pz = [] := List.eq_nil_of_length_eq_zero h0
      clear hlen h0
      go_enter Tryd.func5, Tryd.ntmps5
      go_wp2_with fail
      refine (awake_any b w hg).mono ?_
      rintro e w1 ⟨rfl, hb1⟩
      go_wp2_with fail
      go_ret
      exact ⟨rfl, hb1⟩
    · have hne : ((pz.length : Int) == 0) = false := by simpa using h0
      have hpos : 0 < pz.length := by omega
      clear h0
      go_enter Tryd.func5, Tryd.ntmps5
      go_wp2_with fail
      refine (awake_any b w hg).mono ?_
      rintro e w1 ⟨rfl, hb1⟩
      have hg1 := below_global _ hg hb1
      have hp2 := hp.below hb1
      obtain ⟨zb, zo, rfl⟩ := hp2.1.some_ (fun e => by rw [show pz = [] from e] at hpos; exact absurd hpos (by decide))
      clear hp hg
      have hown := World.ownsRow_lit (base := w1.heap.size) (e := 5) (size := 1) w1 #[] 0 (Nat.le_refl _) (by decide) rfl
      have hs1 : w1.heap.size ≤ (w1.alloc (.cells #[] 5)).heap.size := by simp
      have hcell := fun i hi => hp2.1.one i hi
      go_wp2_with (at_builtin; refine wpList_append_own _ rfl _ _ 24 rfl w1.heap.size 5 i0 (.int .u8 0) 1 1 Tryd.underlying24 hi hz0 hz1 hz2 rfl (by decide) _ _ _ rfl hown ⟨zb, zo, none⟩ pz.length pc (u8s pz) rfl ?c1 ?c2 ?c3 ?c4 ?c5 ?c6 ?_)
      case c1 => simp [u8s]
      case c2 => exact src_cells pz zb zo w1 _ hcell
      case c3 => exact u8s_one pz
      case c4 => unfold maxLen; omega
      case c5 => omega
      case c6 => exact hs1
      intro v' w2 hown2 hgrow _
      have hb2 := (below_new w1 (.cells #[] 5)).grown hgrow (by simp) (fun k e => by simp [Value.ownBlock] at e; omega)
      obtain ⟨g, cap, hv, hgb, hglt, hncap, hcapm⟩ := own_form hown2 hpos
      rw [hv] at hown2 ⊢
      clear hgrow hown hcell hs1
      go_wp2_with fail
      refine (pick_any at_ (8 * (pz.length : Int)) _ (by omega) (by omega)).mono ?_
      rintro e w' ⟨rfl, rfl⟩
      obtain ⟨f, hf⟩ : ∃ f : Nat, at_ % (8 * (pz.length : Int)) = f := ⟨(at_ % (8 * (pz.length : Int))).toNat, by have := Int.emod_nonneg at_ (show (8 * (pz.length : Int)) ≠ 0 by omega); omega⟩
      have hflt : f < 8 * pz.length := by have := Int.emod_lt_of_pos at_ (show 0 < (8 * (pz.length : Int)) by omega); omega
      rw [hf]
      clear hf
      go_wp2_with fail
      go_loopg [9] 32 (fun gg i wx => ∃ (k : Nat) (zs : List Int), gg = 32 - k ∧ k ≤ 32 ∧ f + k ≤ 8 * pz.length ∧ i = .int .i64 (k : Int) ∧ wx.ownsRow w1.heap.size 5 1 (.slice (some ⟨g, 0, none⟩) pz.length cap) pz.length (u8s zs) ∧ Below w1.heap.size w1 wx ∧ (∀ z ∈ zs, 0 ≤ z ∧ z < 256) ∧ Hid (zs.length = pz.length) ∧ Hid (Mx.crc 0xFFFFFFFF#32 zs = Mx.crc 0xFFFFFFFF#32 pz ^^^ Mx.shN (8 * pz.length - f) (Mx.low k t)) ∧ Hid (Mx.low k t = 0#32 → zs = pz))
      case atStart => exact ⟨0, pz, rfl, by omega, by omega, rfl, hown2, hb2, hp2.1.1, Lib.hid rfl, Lib.hid (by rw [Mx.low_zero, Mx.shN_zero]; simp), Lib.hid (fun _ => rfl)⟩
      case round =>
        obtain ⟨k, zs, hgg, hk, hfk, rfl, hown3, hb3, hr, hzl, hcrc, hzz⟩ := hrel
        have Hgg := Lib.hid hgg; clear hgg
        by_cases hgo : k < 32 ∧ f + k < 8 * pz.length
        · obtain ⟨hk32, hfk2⟩ := hgo
          have hq : ((f : Int) + (k : Int)) / 8 = (((f + k) / 8 : Nat) : Int) := by omega
          have hs : ((f : Int) + (k : Int)) % 8 = (((f + k) % 8 : Nat) : Int) := by omega
          have hqlt : (f + k) / 8 < pz.length := by omega
          have hs8 : (f + k) % 8 < 8 := by omega
          have hzq : (f + k) / 8 < zs.length := by have := hzl.out; omega
          have c1 := (own_bytes hown3 hr).one ((f + k) / 8) hzq
          rw [Nat.zero_add] at c1
          have c2 := hown3.frozenAt ((f + k) / 8)
          have hz := hr (zs.getD ((f + k) / 8) 0) (by rw [List.getD_eq_getElem?_getD, List.getElem?_eq_getElem hzq]; exact List.getElem_mem hzq)
          obtain ⟨z', ev, hz0', hz1', hbit, hsame⟩ := turn_val t k ((f + k) % 8) (zs.getD ((f + k) / 8) 0) hs8 hz.1 hz.2
          have hstep := Mx.turn_step zs pz f k pz.length z' 0xFFFFFFFF#32 t hzl.out hk32 hfk2 hbit hcrc.out
          have hkeep : Mx.low (k + 1) t = 0#32 → zs.set ((f + k) / 8) z' = pz := fun hlow => by
            obtain ⟨e1, e2⟩ := Mx.low_none k t hlow hk32
            rw [hsame e1, set_same zs _ hzq]; exact hzz.out e2
          have Hall := Lib.hid (And.intro hstep hkeep)
          clear hstep hkeep hbit hsame hcrc hzz
          generalize (f + k) / 8 = q at hq hqlt hzq c1 c2 hz ev Hall
          generalize (f + k) % 8 = s at hs hs8 ev
          generalize zs.getD q 0 = z at c1 hz ev
          obtain ⟨hz0, hz255⟩ := hz
          have hst := hown3.stored q (.int .u8 z')
          rw [u8s_set] at hst
          have Hst := Lib.hid hst
          have Hev := Lib.hid ev
          have Hr := Lib.hid hr
          clear hst ev hr
          go_wp2_with fail
          go_region
          all_goals (rw [Hev.out]; go_wp2_with fail)
          all_goals (go_roundg (32 - (k + 1)))
          case measure => rw [Hgg.out]; omega
          case rel => exact ⟨k + 1, zs.set q z', rfl, by omega, by omega, by go_num, ownsRow_drew Hst.out.1, (hb3.setCell hgb _).drew, mem_set_bd Hr.out hz0' hz1', Lib.hid (by rw [List.length_set]; exact hzl.out), Lib.hid Hall.out.1, Lib.hid Hall.out.2⟩
        · have hsum := Mx.sum_turned zs pz _ k t hcrc.out hzz.out
          have hbz := own_bytes hown3 hr
          have hbp := hp2.1.below hb3
          have hgw := below_global _ hg1 hb3
          have hcm : cap ≤ 9223372036854775807 := hcapm
          have hpc := hp2.2
          have HB := hb1.trans (hb3.mono hb1.size)
          have Hzl := hzl
          have hdec : (k < 32 ∧ ¬ f + k < 8 * pz.length) ∨ ¬ k < 32 := by omega
          clear hgo hcrc hzz hr hown3 hzl hown2 hg1 hb2 hv
          by_cases heq : zs = pz
          · have e1 : sameB pz zs = true := by unfold sameB; exact decide_eq_true heq.symm
            have e2 : (((Mx.sum pz).toNat : Int) == ((Mx.sum zs).toNat : Int)) = true := by rw [heq]; simp
            have e3 : fitsVal zs (Mx.sum pz) = 0 := by unfold fitsVal; rw [if_pos (by rw [heq])]
            have E1 := Lib.hid e1
            have E3 := Lib.hid e3
            clear heq hsum e1 e3
            rcases hdec with ⟨hd1, hd2⟩ | hd1
            all_goals
              go_wp2_with fail
              refine (sameBytes_at pz zs pz.length _ _ _ _ _ Hzl.out hbp hbz (by omega)).mono ?_
              rintro e w' ⟨rfl, nq, rfl⟩
              rw [E1.out]
              go_wp2_with fail
              refine (sum_part pz _ (some ⟨zb, zo, none⟩) pc _ (cell_row _ _ _) ((hbp.drewN nq).below (below_new _ _)) hpc.1 hpc.2).mono ?_
              rintro e w5 ⟨rfl, hb5⟩
              have hB5 := (below_new (wr.drewN nq) _).trans (hb5.mono (by simp))
              have hbz5 := (hbz.drewN nq).below hB5
              have hbp5 := (hbp.drewN nq).below hB5
              have hgw5 := below_global _ (show (wr.drewN nq).cell? ⟨0, 0, none⟩ = _ from hgw) hB5
              have HB5 := (drewN_below HB nq).trans (hB5.mono HB.size)
              go_wp2_with fail
              refine (sum_part_n zs pz.length _ (some ⟨g, 0, none⟩) cap _ Hzl.out (cell_row _ _ _) (hbz5.below (below_new _ _)) hncap hcm).mono ?_
              rintro e w6 ⟨rfl, hb6⟩
              have hB6 := (below_new w5 _).trans (hb6.mono (by simp))
              have hbz6 := hbz5.below hB6
              have hbp6 := hbp5.below hB6
              have hgw6 := below_global _ hgw5 hB6
              have HB6 := HB5.trans (hB6.mono HB5.size)
              go_wp2_with fail
              refine (sum_part pz _ (some ⟨zb, zo, none⟩) pc _ (cell_row _ _ _) (hbp6.below (below_new _ _)) hpc.1 hpc.2).mono ?_
              rintro e w7 ⟨rfl, hb7⟩
              have hB7 := (below_new w6 _).trans (hb7.mono (by simp))
              have hbz7 := hbz6.below hB7
              have hgw7 := below_global _ hgw6 hB7
              have HB7 := HB6.trans (hB7.mono HB6.size)
              go_wp2_with fail
              refine (fits_n (Mx.sum pz) zs pz.length (some ⟨g, 0, none⟩) cap b _ Hzl.out hbz7 hncap hcm hgw7).mono ?_
              rintro e w8 ⟨rfl, hb8⟩
              have HB8 := HB7.trans (hb8.mono HB7.size)
              rw [E3.out]
              go_wp2_with fail
              go_ret
              exact ⟨rfl, HB8⟩
          · have hne2 : Mx.sum zs ≠ Mx.sum pz := fun h => heq (hsum.1 h)
            have e1 : sameB pz zs = false := by unfold sameB; exact decide_eq_false (fun h => heq h.symm)
            have e2 : (((Mx.sum pz).toNat : Int) == ((Mx.sum zs).toNat : Int)) = false := by
              rw [beq_eq_false_iff_ne]; intro h
              exact hne2 (BitVec.eq_of_toNat_eq (by omega))
            have e3 : fitsVal zs (Mx.sum pz) = 5 := by unfold fitsVal; rw [if_neg hne2]
            have E1 := Lib.hid e1
            have E3 := Lib.hid e3
            clear heq hsum e1 e3 hne2
            rcases hdec with ⟨hd1, hd2⟩ | hd1
            all_goals
              go_wp2_with fail
              refine (sameBytes_at pz zs pz.length _ _ _ _ _ Hzl.out hbp hbz (by omega)).mono ?_
              rintro e w' ⟨rfl, nq, rfl⟩
              rw [E1.out]
              go_wp2_with fail
              refine (sum_part pz _ (some ⟨zb, zo, none⟩) pc _ (cell_row _ _ _) ((hbp.drewN nq).below (below_new _ _)) hpc.1 hpc.2).mono ?_
              rintro e w5 ⟨rfl, hb5⟩
              have hB5 := (below_new (wr.drewN nq) _).trans (hb5.mono (by simp))
              have hbz5 := (hbz.drewN nq).below hB5
              have hbp5 := (hbp.drewN nq).below hB5
              have hgw5 := below_global _ (show (wr.drewN nq).cell? ⟨0, 0, none⟩ = _ from hgw) hB5
              have HB5 := (drewN_below HB nq).trans (hB5.mono HB.size)
              go_wp2_with fail
              refine (sum_part_n zs pz.length _ (some ⟨g, 0, none⟩) cap _ Hzl.out (cell_row _ _ _) (hbz5.below (below_new _ _)) hncap hcm).mono ?_
              rintro e w6 ⟨rfl, hb6⟩
              have hB6 := (below_new w5 _).trans (hb6.mono (by simp))
              have hbz6 := hbz5.below hB6
              have hbp6 := hbp5.below hB6
              have hgw6 := below_global _ hgw5 hB6
              have HB6 := HB5.trans (hB6.mono HB5.size)
              go_wp2_with fail
              refine (sum_part pz _ (some ⟨zb, zo, none⟩) pc _ (cell_row _ _ _) (hbp6.below (below_new _ _)) hpc.1 hpc.2).mono ?_
              rintro e w7 ⟨rfl, hb7⟩
              have hB7 := (below_new w6 _).trans (hb7.mono (by simp))
              have hbz7 := hbz6.below hB7
              have hgw7 := below_global _ hgw6 hB7
              have HB7 := HB6.trans (hB7.mono HB6.size)
              go_wp2_with fail
              refine (fits_n (Mx.sum pz) zs pz.length (some ⟨g, 0, none⟩) cap b _ Hzl.out hbz7 hncap hcm hgw7).mono ?_
              rintro e w8 ⟨rfl, hb8⟩
              have HB8 := HB7.trans (hb8.mono HB7.size)
              rw [E3.out]
              go_wp2_with fail
              go_ret
              exact ⟨rfl, HB8⟩
end Go.Proofs.YtdmomeeilibnmaaDoor
