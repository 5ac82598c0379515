/- Do rows of bytes lie apart: kit.flatBytes. -/
import Derived.Test.YtbkecaenjjlmoaaGreatDoorKitRowsAt
import Derived.StillTailTactics
namespace Go.Proofs.YtbkecaenjjlmoaaGreatDoor
open Go.RowKit
theorem infoRows' : (Tryz.prog.info? 22).map (fun i => (i.zero, i.size, i.bytes)) = some (some (.slice none 0 0), 1, 24) := by kernel_rfl
/-- What is marked and grown leaves the blocks of one colour as they are, and all that was there ahead. -/
structure Keep (col0 col : Nat → Nat) (B q : Nat) (w w' : World) : Prop where
  below : Below B w w'
  held : ∀ Z, Z < w.heap.size → col0 Z = q → w'.heap[Z]? = w.heap[Z]?
  zcol : ∀ Z, Z < w.heap.size → col0 Z = q → col Z = q
section
variable {col0 col : Nat → Nat} {B q : Nat} {w w' w'' : World}
theorem Keep.refl (col : Nat → Nat) (B q : Nat) (w : World) : Keep col col B q w w := ⟨Below.refl _ _, fun _ _ _ => rfl, fun _ _ h => h⟩
theorem Keep.size (h : Keep col0 col B q w w') : w.heap.size ≤ w'.heap.size := h.below.size
theorem Keep.drewN (h : Keep col0 col B q w w') (n : Nat) : Keep col0 col B q w (w'.drewN n) := ⟨drewN_below h.below n, h.held, h.zcol⟩
theorem Keep.paint (h : Keep col0 col B q w w') (d : Nat) : Keep col0 (paint col w'.heap.size d) B q w w' := ⟨h.below, h.held, fun Z hZ hc => by have := h.size; unfold Go.Proofs.YtbkecaenjjlmoaaGreatDoor.paint; rw [if_neg (by omega)]; exact h.zcol Z hZ hc⟩
theorem Keep.grown (h : Keep col0 col B q w w') {row : Option Nat} (hg : w'.grownBy w'' row) (hB : B ≤ w'.heap.size) (hr : ∀ j, row = some j → B ≤ j ∧ col j ≠ q) : Keep col0 col B q w w'' :=
  ⟨h.below.grown hg hB (fun j e => (hr j e).1), fun Z hZ hc => (hg.block Z (Nat.lt_of_lt_of_le hZ h.size) (fun e => (hr Z e.symm).2 (h.zcol Z hZ hc))).trans (h.held Z hZ hc), h.zcol⟩
theorem Keep.alloc (h : Keep col0 col B q w w') (hB : B ≤ w'.heap.size) (x : Obj) : Keep col0 col B q w (w'.alloc x) := h.grown (World.grownBy_alloc w' x none) hB (fun j e => by cases e)
end
theorem addr_add0 (M j : Nat) : (⟨M, 0, none⟩ : Addr).add j = ⟨M, j, none⟩ := by unfold Addr.add; split <;> simp_all
set_option maxRecDepth 100000 in
set_option maxHeartbeats 8000000 in
theorem flatBytes_any (w : World) (col : Nat → Nat) (B K : Nat) (lv : Value) (vs : List Value) (c : Nat → List Int) (h : RowsAt col B 0 K lv vs (fun _ => True) c w) (hB : B ≤ w.heap.size) (hK : K ≤ 100000) (hn : ∀ k, (c k).length ≤ 140737488000000) :
    Calls Tryz.prog 48 #[lv] w fun e w' => e = .returned (.bool true) ∧ Below B w w' ∧ ∀ Z, Z < w.heap.size → col Z = K + 3 → w'.heap[Z]? = w.heap[Z]? := by
  obtain ⟨i1, ri, rz0, rz1, rz2⟩ := info_parts infoRows'
  obtain ⟨i0, hi, hz0, hz1, hz2⟩ := info_parts infoByte
  obtain ⟨X, cap, rfl, hcap, hcm⟩ := own_slice h.outer
  unfold maxLen at hcm
  have HX : 0 < K → ∃ L, X = some ⟨L, 0, none⟩ := fun h0 => by
    obtain ⟨L, cp, e, _⟩ := own_form h.outer h0
    exact ⟨L, by simpa using (by simpa using e : X = some ⟨L, 0, none⟩ ∧ cap = cp).1⟩
  have HX := Lib.hid HX
  obtain ⟨col0, hcol0⟩ : ∃ col0, col = col0 := ⟨_, rfl⟩
  have Hkp := Lib.hid (show Keep col0 col B (K + 3) w w from hcol0 ▸ Keep.refl col B (K + 3) w)
  have Hcol0 := Lib.hid hcol0
  clear hcol0
  have Hn := Lib.hid hn
  have Hlen := Lib.hid h.len
  clear hn
  go_enter Tryz.func48, Tryz.ntmps48
  go_wp2_with fail
  go_loopg [3] K (fun g i wx => ∃ (k : Nat) (c' : Nat → List Int), g = K - k ∧ k ≤ K ∧ i = .int .i64 (k : Int) ∧ RowsAt col B 0 K (.slice X K cap) vs (fun _ => True) c' wx ∧ Hid (∀ j, (c' j).length = (c j).length) ∧ Hid (∀ j, j < k → c' j = mkRow j (c j).length) ∧ Keep col0 col B (K + 3) w wx)
  case atStart => exact ⟨0, c, rfl, by omega, rfl, h, Lib.hid (fun _ => rfl), Lib.hid (fun j hj => by omega), Hkp.out⟩
  case round =>
    obtain ⟨k, c', hgk, hk, rfl, hR, hcl, hcm', hb⟩ := hrel
    have Hgk := Lib.hid hgk; clear hgk
    by_cases hlt : k < K
    · obtain ⟨L, rfl⟩ := HX.out (by omega)
      obtain ⟨v, hv⟩ : ∃ v, vs[k]? = some v := ⟨_, List.getElem?_eq_getElem (by rw [Hlen.out]; exact hlt)⟩
      have hrow := (hR.row k v hv trivial).1
      rw [hcl.out k] at hrow
      have hnk := Hn.out k
      obtain ⟨V, vc, rfl, hvc, hvm⟩ := own_slice hrow
      unfold maxLen at hvm
      have c1 : wr.cell? ⟨L, k, none⟩ = some (.slice V (c k).length vc) := by rw [hR.outer.cellAt k (by omega), hv]
      have Hv := Lib.hid hv
      clear hv hrow
      generalize hnn : (c k).length = n at *
      have Hnn := Lib.hid hnn; clear hnn
      go_wp2_with fail
      go_loopg [4] n (fun g i wx => ∃ (q : Nat) (ys : List Int), g = n - q ∧ q ≤ n ∧ i = .int .i64 (q : Int) ∧ RowsAt col B 0 K (.slice (some ⟨L, 0, none⟩) K cap) vs (fun _ => True) (upd c' k ys) wx ∧ Hid (ys.length = n) ∧ Hid (ys.take q = mkRow k q) ∧ Keep col0 col B (K + 3) w wx)
      case atStart => exact ⟨0, c' k, rfl, by omega, rfl, hR.cong (fun j _ _ => by unfold upd; split <;> simp_all), Lib.hid (by rw [hcl.out, Hnn.out]), Lib.hid rfl, hb⟩
      case round =>
        obtain ⟨q, ys, hgq, hq, rfl, hR2, hyl, hyt, hb2⟩ := hrel
        have Hgq := Lib.hid hgq; clear hgq
        have c1 : wr.cell? ⟨L, k, none⟩ = some (.slice V n vc) := by rw [hR2.outer.cellAt k (by omega), Hv.out]
        by_cases hlt2 : q < n
        · have hrow2 := (hR2.row k _ Hv.out trivial).1
          rw [upd_same, hyl.out] at hrow2
          obtain ⟨gb, vc', e, hgB, hgl, _, _⟩ := own_form hrow2 (by omega)
          obtain ⟨rfl, rfl⟩ : V = some ⟨gb, 0, none⟩ ∧ vc = vc' := by simpa using e
          obtain ⟨z, hz, c2⟩ := own_cell hrow2 q hlt2
          have f1 := hrow2.frozenAt q
          have Hrow2 := Lib.hid hrow2
          clear e hz hrow2 hR
          go_wp2_with fail
          go_still_tail 9, (by kernel_rfl)
          still_call ((markByte_any k q _ (by omega) (by omega)).mono fun _ _ h => ⟨h.1, h.2.symm⟩)
          repeat still_step
          refine wpStill_nil ?_
          change wpList _ _ _ _ _ wr.drew
          obtain ⟨hR3, hg3, hgB', hcg⟩ := hR2.put (by decide) Hv.out trivial hyl.out q (mkB k q)
          have HR3 := Lib.hid (And.intro hR3 (hb2.grown hg3 (Nat.le_trans hB hb2.size) (fun j e => by cases e; exact ⟨hgB', by rw [hcg]; omega⟩)))
          clear hcg
          clear hR3 hR2
          go_wp2_with fail
          go_roundg (n - (q + 1))
          case measure => rw [Hgq.out]; omega
          case rel => exact ⟨q + 1, ys.set q (mkB k q), rfl, by omega, by go_num, HR3.out.1.below (drewN_below (Below.refl _ _) 1), Lib.hid (by rw [List.length_set]; exact hyl.out), Lib.hid (by rw [take_set _ hyt.out (by rw [hyl.out]; exact hlt2), mkRow_succ]), HR3.out.2.drewN 1⟩
        · obtain rfl : q = n := by omega
          go_wp2_with fail
          go_roundg (K - (k + 1))
          case measure => rw [Hgk.out]; omega
          case rel => exact ⟨k + 1, upd c' k ys, rfl, by omega, by go_num, hR2, Lib.hid (fun j => by
            by_cases e : j = k
            · subst e; rw [upd_same, hyl.out, Hnn.out]
            · rw [upd_other _ _ _ _ e, hcl.out]), Lib.hid (fun j hj => by
            by_cases e : j = k
            · subst e; rw [upd_same, Hnn.out, ← hyt.out, ← hyl.out, List.take_length]
            · rw [upd_other _ _ _ _ e]; exact hcm'.out j (by omega)), hb2⟩
    · obtain rfl : K = k := by omega
      obtain ⟨n, hn⟩ : ∃ n : Nat → Nat, ∀ j, (c j).length = n j := ⟨_, fun _ => rfl⟩
      have hn1 : ∀ j, n j ≤ 140737488000000 := fun j => by rw [← hn]; exact Hn.out j
      have hR1 := hR.cong (c' := fun j => mkRow j (n j)) (fun j hj _ => by rw [hcm'.out j hj, hn])
      have Hn1 := Lib.hid hn1
      clear hR hcl hcm' h hn1 Hn hn Hgk hlt
      go_wp2_with (at_make; refine wpList_make_full _ rfl _ _ _ rfl B 22 i1 (.slice none 0 0) 1 Tryz.underlying36 ri rz0 rz1 .i64 .i64 _ _ K rfl rfl rfl rfl (by rw [rz2]; omega) (by unfold maxLen; omega) (Nat.le_trans hB hb.size) ?_; intro w1 hown1 hgrow1)
      have hb1 := (hb.paint 1).grown hgrow1 (Nat.le_trans hB hb.size) (fun j e => by cases e)
      have hL1 := (hR1.paint 1).far hgrow1 (fun b e => by cases e)
      have hG1 : RowsAt (paint col wr.heap.size 1) B 1 K (.slice (some ⟨wr.heap.size, 0, none⟩) K K) (List.replicate K (.slice none 0 0)) (fun j => j < 0) (fun j => mkRow j (n j + 64)) w1 :=
        ⟨by simp, own_same hown1 rfl (by rw [Nat.mul_one]; exact toList_madeCells_one _ _), paint_new _ _ _ _ rfl, fun j v _ hj => by omega⟩
      generalize wr.heap.size = G at *
      generalize paint col G 1 = col1 at *
      clear hR1 hown1 hgrow1 hb
      go_loopg [6] K (fun g i wx => ∃ (k : Nat) (col : Nat → Nat) (us : List Value), g = K - k ∧ k ≤ K ∧ i = .int .i64 (k : Int) ∧ RowsAt col B 0 K (.slice X K cap) vs (fun _ => True) (fun j => mkRow j (n j)) wx ∧ RowsAt col B 1 K (.slice (some ⟨G, 0, none⟩) K K) us (fun j => j < k) (fun j => mkRow j (n j + 64)) wx ∧ Keep col0 col B (K + 3) w wx)
      case atStart => exact ⟨0, col1, _, rfl, by omega, rfl, hL1, hG1, hb1⟩
      case round =>
        clear hL1 hG1 hb1
        obtain ⟨k, col, us, hgk, hk, rfl, hL, hG, hb⟩ := hrel
        have Hgk := Lib.hid hgk; clear hgk
        by_cases hlt : k < K
        · obtain ⟨L, rfl⟩ := HX.out (by omega)
          obtain ⟨v, hv⟩ : ∃ v, vs[k]? = some v := ⟨_, List.getElem?_eq_getElem (by rw [Hlen.out]; exact hlt)⟩
          have hrow := (hL.row k v hv trivial).1
          have hcol := (hL.row k v hv trivial).2
          rw [mkRow_len] at hrow
          have hnk := Hn1.out k
          obtain ⟨V, vc, rfl, hvc, hvm⟩ := own_slice hrow
          unfold maxLen at hvm
          have c1 : wr.cell? ⟨L, k, none⟩ = some (.slice V (n k) vc) := by rw [hL.outer.cellAt k (by omega), hv]
          have Hv := Lib.hid hv
          have Hrow := Lib.hid (And.intro hrow hcol)
          clear hv hrow hcol
          go_wp2_with fail
          go_loopg [7, 8] 64 (fun g v i wx => ∃ (q : Nat) (col : Nat → Nat), g = 64 - q ∧ q ≤ 64 ∧ i = .int .i64 (q : Int) ∧ RowsAt col B 0 K (.slice (some ⟨L, 0, none⟩) K cap) vs (fun _ => True) (fun j => mkRow j (n j)) wx ∧ RowsAt col B 1 K (.slice (some ⟨G, 0, none⟩) K K) us (fun j => j < k) (fun j => mkRow j (n j + 64)) wx ∧
            wx.ownsRow B 5 1 v (n k + q) (u8s (mkRow k (n k + q))) ∧ Col col v (k + 2) ∧ Keep col0 col B (K + 3) w wx)
          case atStart => exact ⟨0, col, rfl, by omega, rfl, hL, hG, Hrow.out.1, Hrow.out.2, hb⟩
          case round =>
            clear hL hG hb c1 Hrow
            obtain ⟨q, col, hgq, hq, rfl, hL, hG, hown, hcol, hb⟩ := hrel
            have Hgq := Lib.hid hgq; clear hgq
            have c1 : wr.cell? ⟨L, k, none⟩ = some (.slice V (n k) vc) := by rw [hL.outer.cellAt k (by omega), Hv.out]
            by_cases hlt2 : q < 64
            · have HM := Lib.hid (markByte_any k (n k + q) wr (by omega) (by omega))
              rw [show ((n k + q : Nat) : Int) = (n k : Int) + (q : Int) by omega] at HM
              go_wp2_with fail
              refine HM.out.mono ?_
              rintro e w' ⟨rfl, rfl⟩
              have hmk := mkB_bd k (n k + q)
              obtain ⟨gX, gc, rfl, _, _⟩ := own_slice hown
              have hsz := hb.size
              clear HM
              go_wp2_with (at_builtin; refine wpList_append_keep rfl _ _ rfl B _ _ _ rfl (hown.alloc _) ⟨wr.heap.size, 0, none⟩ 1 1 [.int .u8 (mkB k (n k + q))] rfl rfl (cell_one_new _ _ _) ?c3 (by decide) ?c5 ?c6 ?_)
              case c3 => intro u hu; rw [List.mem_singleton.1 hu]; rfl
              case c5 => have := Hn1.out k; omega
              case c6 => simp; omega
              intro v2 w2 hown2 hown2' hgrow2 hlies
              obtain ⟨hL2, hG2, hcol2⟩ := flat_grow (hL.alloc _) (hG.alloc _) Hv.out (by omega) (hown.alloc _) (by rw [mkRow_len]; omega) hcol hown2' hgrow2 (fun b hb => by simpa using hlies b hb)
              have hb2 := ((hb.alloc (Nat.le_trans hB hsz) (.cells #[.int .u8 (mkB k (n k + q))] 5)).paint (k + 2)).grown hgrow2 (by simp; omega) (fun j e => ⟨(hown.lt j e).1, by have := hcol.paint (hown.alloc (.cells #[.int .u8 (mkB k (n k + q))] 5)) (k + 2) j e; omega⟩)
              have HS := Lib.hid (And.intro hL2 (And.intro hG2 (And.intro hcol2 hb2)))
              have hown3 := own_same (m := n k + (q + 1)) (ys := u8s (mkRow k (n k + (q + 1)))) hown2 (by omega) (by rw [← Nat.add_assoc, mkRow_succ, u8s_snoc])
              clear hL hG hcol hb hown2 hown2' hgrow2 hlies hL2 hG2 hcol2 hb2
              go_wp2_with fail
              go_roundg (64 - (q + 1))
              case measure => rw [Hgq.out]; omega
              case rel => exact ⟨q + 1, _, rfl, by omega, by go_num, HS.out.1, HS.out.2.1, hown3, HS.out.2.2.1, HS.out.2.2.2⟩
            · obtain rfl : 64 = q := by omega
              have hul : us.length = K := hG.len
              obtain ⟨gX, gc, rfl, _, _⟩ := own_slice hown
              obtain ⟨u0, hu0⟩ : ∃ u, us[k]? = some u := ⟨_, List.getElem?_eq_getElem (by rw [hul]; exact hlt)⟩
              have d1 := hG.outer.cellAt k (by omega)
              rw [hu0] at d1
              have f1 := hG.outer.frozenAt k
              obtain ⟨hL2, hG2, hg2, hBG⟩ := flat_keep hL hG (k := k) (by omega) hlt hown hcol
              have hcG := hG.ocol G rfl
              have hb2 := hb.grown hg2 (Nat.le_trans hB hb.size) (fun j e => by cases e; exact ⟨hBG, by omega⟩)
              clear hcG
              have HS := Lib.hid (And.intro hL2 (And.intro (hG2.weak (ok' := fun j => j < k + 1) (fun j _ hj => by
                by_cases e : j = k
                · exact .inr e
                · exact .inl (by omega))) hb2))
              clear hL hG hcol hb hL2 hG2 hb2 hg2 hown
              go_wp2_with fail
              go_roundg (K - (k + 1))
              case measure => rw [Hgk.out]; omega
              case rel => exact ⟨k + 1, _, _, rfl, by omega, by go_num, HS.out.1, HS.out.2.1.cong (fun j _ _ => by
                by_cases e : j = k
                · subst e; rw [upd_same]
                · rw [upd_other _ _ _ _ e]), HS.out.2.2⟩
        · obtain rfl : K = k := by omega
          have hG2 := hG.weak (ok' := fun _ => True) (fun j h _ => h)
          clear hG hlt hk Hgk
          go_wp2_with fail
          go_loopg [9] K (fun g i wx => (∃ nq, wx = wr.drewN nq) ∧ ∃ k : Nat, g = K - k ∧ k ≤ K ∧ i = .int .i64 (k : Int))
          case atStart => exact ⟨⟨0, rfl⟩, 0, rfl, by omega, rfl⟩
          case round =>
            obtain ⟨⟨nq, rfl⟩, k, hgk, hk, rfl⟩ := hrel
            have Hgk := Lib.hid hgk; clear hgk
            by_cases hlt : k < K
            · obtain ⟨L, rfl⟩ := HX.out (by omega)
              obtain ⟨V, vc, c1, _, hvc, hvm, hcs⟩ := hL.look hlt trivial
              obtain ⟨U, uc, d1, _, huc, hum, hds⟩ := hG2.look hlt trivial
              simp only [mkRow_len] at c1 hvc hcs d1 huc hds
              have hnk := Hn1.out k
              have Hcs := Lib.hid hcs
              have Hds := Lib.hid hds
              clear hcs hds
              go_wp2_with fail
              go_loopg [10] (n k + 64) (fun g i wx => (∃ nq, wx = wr.drewN nq) ∧ ∃ q : Nat, g = n k + 64 - q ∧ q ≤ n k + 64 ∧ i = .int .i64 (q : Int))
              case atStart => exact ⟨⟨_, rfl⟩, 0, rfl, by omega, rfl⟩
              case round =>
                obtain ⟨⟨nq2, rfl⟩, q, hgq, hq, rfl⟩ := hrel
                have Hgq := Lib.hid hgq; clear hgq
                obtain ⟨W, hW⟩ : ∃ W, wr.drewN nq2 = W := ⟨_, rfl⟩
                have c1' : W.cell? ⟨L, k, none⟩ = some (.slice V (n k) vc) := by rw [← hW]; exact c1
                have d1' : W.cell? ⟨G, k, none⟩ = some (.slice U (n k + 64) uc) := by rw [← hW]; exact d1
                rw [hW]
                by_cases hlt2 : q < n k + 64
                · obtain ⟨ub, rfl, d2⟩ := Hds.out q hlt2
                  have d2' : W.cell? ⟨ub, q, none⟩ = some (.int .u8 (mkB k q)) := by rw [← hW, ← mkRow_getD k (n k + 64) q hlt2]; exact d2
                  by_cases hin : q < n k
                  · obtain ⟨gb, rfl, c2⟩ := Hcs.out q hin
                    have c2' : W.cell? ⟨gb, q, none⟩ = some (.int .u8 (mkB k q)) := by rw [← hW, ← mkRow_getD k (n k) q hin]; exact c2
                    have HW := Lib.hid hW
                    clear hW c1 d1 d2 c2
                    go_wp2_with fail
                    go_quiet ((go_at_call 19; exact Calls.quiet_of_same (markByte_q k q _ (by omega) (by omega))))
                    go_wp2_with fail
                    go_roundg (n k + 64 - (q + 1))
                    case measure => rw [Hgq.out]; omega
                    case rel => exact ⟨⟨_, by rw [← HW.out]; exact World.drewN_drewN _ _ _⟩, q + 1, rfl, by omega, by go_num⟩
                  · have hnl : decide ((q : Int) < (n k : Int)) = false := decide_eq_false (by omega)
                    have HW := Lib.hid hW
                    clear hW c1 d1 d2
                    go_wp2_with fail
                    go_quiet ((go_at_call 19; exact Calls.quiet_of_same (markByte_q k q _ (by omega) (by omega))))
                    go_wp2_with fail
                    go_roundg (n k + 64 - (q + 1))
                    case measure => rw [Hgq.out]; omega
                    case rel => exact ⟨⟨_, by rw [← HW.out]; exact World.drewN_drewN _ _ _⟩, q + 1, rfl, by omega, by go_num⟩
                · obtain rfl : q = n k + 64 := by omega
                  have HW := Lib.hid hW
                  clear hW c1 d1
                  go_wp2_with fail
                  go_roundg (K - (k + 1))
                  case measure => rw [Hgk.out]; omega
                  case rel => exact ⟨⟨_, HW.out.symm⟩, k + 1, rfl, by omega, by go_num⟩
            · obtain rfl : K = k := by omega
              have hL3 := hL.below (drewN_below (Below.refl _ _) nq)
              have hG3 := hG2.below (drewN_below (Below.refl _ _) nq)
              have hb3 := hb.drewN nq
              have hd0 : ∀ j, (mkRow j (n j + 64)).length = n j + 64 ∧ (mkRow j (n j + 64)).take (n j) = mkRow j (n j) := fun j => ⟨mkRow_len _ _, mkRow_take _ _ _ (by omega)⟩
              have Hd0 := Lib.hid hd0
              clear hL hG2 hlt hk Hgk hd0 hb
              generalize wr.drewN nq = wy at *
              have hG0 := Below.refl wy.heap.size wy
              clear hG0
              go_wp2_with fail
              go_loopg [11] K (fun g i wx => ∃ (k : Nat) (col : Nat → Nat) (us : List Value) (d : Nat → List Int), g = K - k ∧ k ≤ K ∧ i = .int .i64 (k : Int) ∧ RowsAt col B 0 K (.slice X K cap) vs (fun _ => True) (fun j => mkRow j (n j)) wx ∧ RowsAt col B 1 K (.slice (some ⟨G, 0, none⟩) K K) us (fun _ => True) d wx ∧ Hid (∀ j, (d j).length = n j + 64 ∧ (d j).take (n j) = mkRow j (n j)) ∧ Keep col0 col B (K + 3) w wx)
              case atStart => exact ⟨0, col, us, _, rfl, by omega, rfl, hL3, hG3, Hd0, hb3⟩
              case round =>
                clear hL3 hG3 hb3 Hd0
                obtain ⟨k, col, us, d, hgk, hk, rfl, hL, hG, hd, hb⟩ := hrel
                have Hgk := Lib.hid hgk; clear hgk
                by_cases hlt : k < K
                · obtain ⟨L, rfl⟩ := HX.out (by omega)
                  obtain ⟨v, hv⟩ : ∃ v, vs[k]? = some v := ⟨_, List.getElem?_eq_getElem (by rw [Hlen.out]; exact hlt)⟩
                  have Hv := Lib.hid hv
                  clear hv
                  have hBw : B ≤ wr.heap.size := Nat.le_trans hB hb.size
                  go_wp2_with (at_make; refine wpList_make_full _ rfl _ _ _ rfl B 5 i0 (.int .u8 0) 1 Tryz.underlying22 hi hz0 hz1 .i64 .i64 _ _ 64 rfl rfl rfl rfl (by rw [hz2]; omega) (by unfold maxLen; omega) hBw ?_; intro w1 hown1 hgrow1)
                  have hb1 := (hb.paint (K + 2)).grown hgrow1 hBw (fun j e => by cases e)
                  have hL1 := (hL.paint (K + 2)).far hgrow1 (fun b e => by cases e)
                  have hG1 := (hG.paint (K + 2)).far hgrow1 (fun b e => by cases e)
                  have hcM : paint col wr.heap.size (K + 2) wr.heap.size = K + 2 := by unfold paint; rw [if_pos (Nat.le_refl _)]
                  have hown2 : w1.ownsRow B 5 1 (.slice (some ⟨wr.heap.size, 0, none⟩) 64 64) 64 (u8s (List.replicate 64 0)) := own_same hown1 rfl (by rw [Nat.mul_one, show u8s (List.replicate 64 0) = List.replicate 64 (.int .u8 0) by simp [u8s]]; exact toList_madeCells_one _ _)
                  generalize wr.heap.size = M at *
                  generalize paint col M (K + 2) = col1 at *
                  have HcM := Lib.hid hcM
                  clear hL hG hown1 hgrow1 hb hBw hcM
                  go_wp2_with fail
                  go_loopg [13] 64 (fun g i wx => ∃ (q : Nat) (ys : List Int), g = 64 - q ∧ q ≤ 64 ∧ i = .int .i64 (q : Int) ∧ Hid (ys.length = 64) ∧ RowsAt col1 B 0 K (.slice (some ⟨L, 0, none⟩) K cap) vs (fun _ => True) (fun j => mkRow j (n j)) wx ∧ RowsAt col1 B 1 K (.slice (some ⟨G, 0, none⟩) K K) us (fun _ => True) d wx ∧
                    wx.ownsRow B 5 1 (.slice (some ⟨M, 0, none⟩) 64 64) 64 (u8s ys) ∧ Keep col0 col1 B (K + 3) w wx)
                  case atStart => exact ⟨0, _, rfl, by omega, rfl, Lib.hid rfl, hL1, hG1, hown2, hb1⟩
                  case round =>
                    clear hL1 hG1 hown2 hb1
                    obtain ⟨q, ys, hgq, hq, rfl, hyl, hL, hG, hown, hb⟩ := hrel
                    have Hgq := Lib.hid hgq; clear hgq
                    by_cases hlt2 : q < 64
                    · have HM := Lib.hid (markByte_any (k + K) q wr (by omega) (by omega))
                      rw [show ((k + K : Nat) : Int) = (k : Int) + (K : Int) by omega] at HM
                      obtain ⟨z, hz, c2⟩ := own_cell hown q hlt2
                      have f1 := hown.frozenAt q
                      have Hown := Lib.hid hown
                      clear hz hown
                      go_wp2_with fail
                      refine HM.out.mono ?_
                      rintro e w' ⟨rfl, rfl⟩
                      obtain ⟨s1, s2⟩ := Hown.out.stored q (.int .u8 (mkB (k + K) q))
                      rw [u8s_set] at s1
                      have hB2 := (Hown.out.lt M rfl).1
                      have HS := Lib.hid (And.intro (hL.far s2 (fun b e => by cases e; rw [HcM.out]; exact ⟨by omega, fun j hj _ => by omega⟩)) (And.intro (hG.far s2 (fun b e => by cases e; rw [HcM.out]; exact ⟨by omega, fun j hj _ => by omega⟩)) (And.intro s1 (hb.grown s2 (Nat.le_trans hB hb.size) (fun j e => by cases e; exact ⟨hB2, by rw [HcM.out]; omega⟩)))))
                      clear hL hG s1 s2 HM hb
                      go_wp2_with fail
                      go_roundg (64 - (q + 1))
                      case measure => rw [Hgq.out]; omega
                      case rel => exact ⟨q + 1, _, rfl, by omega, by go_num, Lib.hid (by rw [List.length_set]; exact hyl.out), HS.out.1, HS.out.2.1, HS.out.2.2.1, HS.out.2.2.2⟩
                    · obtain rfl : 64 = q := by omega
                      have hv := Hv.out
                      obtain ⟨r1, r2⟩ := hL.row k v hv trivial
                      rw [mkRow_len] at r1
                      obtain ⟨V, vc, rfl, hvc, hvm⟩ := own_slice r1
                      unfold maxLen at hvm
                      have hnk := Hn1.out k
                      have c1 : wr.cell? ⟨L, k, none⟩ = some (.slice V (n k) vc) := by rw [hL.outer.cellAt k (by omega), hv]
                      have hsrc : ∀ j u, (u8s ys)[j]? = some u → wr.cell? ((⟨M, 0, none⟩ : Addr).add j) = some u := by
                        intro j u hj
                        have hj64 : j < 64 := by have := (List.getElem?_eq_some_iff.1 hj).1; rw [u8s_len, hyl.out] at this; exact this
                        rw [addr_add0, hown.cellAt j (by omega)]; exact hj
                      have hBw : B ≤ wr.heap.size := Nat.le_trans hB hb.size
                      have HH := Lib.hid (And.intro r1 (And.intro r2 (And.intro hsrc hv)))
                      clear hv r1 r2 hsrc hown hlt2
                      go_wp2_with (at_builtin; refine wpList_append_keep rfl _ _ rfl B _ _ _ rfl HH.out.1 ⟨M, 0, none⟩ 64 64 (u8s ys) rfl (by rw [u8s_len, hyl.out]) HH.out.2.2.1 (u8s_one ys) (by decide) (by omega) hBw ?_)
                      intro v2 w2 hown2 hown2' hgrow2 hlies
                      obtain ⟨hL2, hG2, hcol2⟩ := flat_grow hL (hG.weak (ok' := fun j => j ≠ k) (fun _ _ _ => trivial)) HH.out.2.2.2 (fun h => h rfl) HH.out.1 (by rw [mkRow_len]; omega) HH.out.2.1 hown2' hgrow2 hlies
                      have hb2 := (hb.paint (k + 2)).grown hgrow2 hBw (fun j e => ⟨(HH.out.1.lt j e).1, by have := HH.out.2.1.paint HH.out.1 (k + 2) j e; omega⟩)
                      rw [u8s_app] at hown2
                      obtain ⟨Y2, yc2, rfl, _, _⟩ := own_slice hown2
                      obtain ⟨hL3, hG3, hg3, hBG⟩ := flat_keep hL2 hG2 (k := k) (fun h => h rfl) hlt hown2 hcol2
                      have hul : us.length = K := hG2.len
                      obtain ⟨u0, hu0⟩ : ∃ u, us[k]? = some u := ⟨_, List.getElem?_eq_getElem (by rw [hul]; exact hlt)⟩
                      have d1 := hG2.outer.cellAt k (by omega)
                      rw [hu0] at d1
                      have f1 := hG2.outer.frozenAt k
                      have hcG := hG2.ocol G rfl
                      have hb3 := hb2.grown hg3 (Nat.le_trans hB hb2.size) (fun j e => by cases e; exact ⟨hBG, by omega⟩)
                      clear hcG
                      have HS := Lib.hid (And.intro hL3 (And.intro (hG3.weak (ok' := fun _ => True) (fun j _ _ => by
                        by_cases e : j = k
                        · exact .inr e
                        · exact .inl e)) hb3))
                      have Hul := Lib.hid (And.intro hul hu0)
                      clear hL hG hcol2 hb hL2 hG2 hb2 hL3 hG3 hb3 hg3 hown2 hown2' hgrow2 hlies hul hu0 HH c1
                      go_wp2_with fail
                      go_roundg (K - (k + 1))
                      case measure => rw [Hgk.out]; omega
                      case rel => exact ⟨k + 1, _, _, _, rfl, by omega, by go_num, HS.out.1, HS.out.2.1, Lib.hid (fun j => by
                        by_cases e : j = k
                        · subst e
                          rw [upd_same, List.length_append, mkRow_len, hyl.out]
                          exact ⟨rfl, List.take_left' (mkRow_len _ _)⟩
                        · rw [upd_other _ _ _ _ e]; exact hd.out j), HS.out.2.2⟩
                · obtain rfl : K = k := by omega
                  clear hlt hk Hgk
                  go_wp2_with fail
                  go_loopg [14] K (fun g i wx => (∃ nq, wx = wr.drewN nq) ∧ ∃ k : Nat, g = K - k ∧ k ≤ K ∧ i = .int .i64 (k : Int))
                  case atStart => exact ⟨⟨0, rfl⟩, 0, rfl, by omega, rfl⟩
                  case round =>
                    obtain ⟨⟨nq, rfl⟩, k, hgk, hk, rfl⟩ := hrel
                    have Hgk := Lib.hid hgk; clear hgk
                    by_cases hlt : k < K
                    · obtain ⟨L, rfl⟩ := HX.out (by omega)
                      obtain ⟨V, vc, c1, _, hvc, hvm, hcs⟩ := hL.look hlt trivial
                      obtain ⟨U, uc, d1, _, huc, hum, hds⟩ := hG.look hlt trivial
                      have hdk := hd.out k
                      simp only [mkRow_len] at c1 hvc hcs
                      rw [hdk.1] at d1 huc hds
                      have hnk := Hn1.out k
                      have Hcs := Lib.hid hcs
                      have Hds := Lib.hid hds
                      have Hdk := Lib.hid hdk
                      clear hcs hds hdk
                      go_wp2_with fail
                      go_loopg [15] (n k) (fun g i wx => (∃ nq, wx = wr.drewN nq) ∧ ∃ q : Nat, g = n k - q ∧ q ≤ n k ∧ i = .int .i64 (q : Int))
                      case atStart => exact ⟨⟨_, rfl⟩, 0, rfl, by omega, rfl⟩
                      case round =>
                        obtain ⟨⟨nq2, rfl⟩, q, hgq, hq, rfl⟩ := hrel
                        have Hgq := Lib.hid hgq; clear hgq
                        obtain ⟨W, hW⟩ : ∃ W, wr.drewN nq2 = W := ⟨_, rfl⟩
                        have c1' : W.cell? ⟨L, k, none⟩ = some (.slice V (n k) vc) := by rw [← hW]; exact c1
                        have d1' : W.cell? ⟨G, k, none⟩ = some (.slice U (n k + 64) uc) := by rw [← hW]; exact d1
                        rw [hW]
                        by_cases hlt2 : q < n k
                        · obtain ⟨ub, rfl, d2⟩ := Hds.out q (by omega)
                          have hdq : (d k).getD q 0 = mkB k q := by
                            have h1 := mkRow_getD k (n k) q hlt2
                            rw [← Hdk.out.2, List.getD_eq_getElem?_getD, List.getElem?_take_of_lt hlt2, ← List.getD_eq_getElem?_getD] at h1
                            exact h1
                          have d2' : W.cell? ⟨ub, q, none⟩ = some (.int .u8 (mkB k q)) := by rw [← hW, ← hdq]; exact d2
                          obtain ⟨gb, rfl, c2⟩ := Hcs.out q hlt2
                          have c2' : W.cell? ⟨gb, q, none⟩ = some (.int .u8 (mkB k q)) := by rw [← hW, ← mkRow_getD k (n k) q hlt2]; exact c2
                          have HW := Lib.hid hW
                          clear hW c1 d1 d2 c2 hdq
                          go_wp2_with fail
                          go_quiet ((go_at_call 19; exact Calls.quiet_of_same (markByte_q k q _ (by omega) (by omega))))
                          go_wp2_with fail
                          go_roundg (n k - (q + 1))
                          case measure => rw [Hgq.out]; omega
                          case rel => exact ⟨⟨_, by rw [← HW.out]; exact World.drewN_drewN _ _ _⟩, q + 1, rfl, by omega, by go_num⟩
                        · obtain rfl : q = n k := by omega
                          have HW := Lib.hid hW
                          clear hW c1 d1
                          go_wp2_with fail
                          go_roundg (K - (k + 1))
                          case measure => rw [Hgk.out]; omega
                          case rel => exact ⟨⟨_, HW.out.symm⟩, k + 1, rfl, by omega, by go_num⟩
                    · obtain rfl : K = k := by omega
                      have hb4 := hb.drewN nq
                      have Hb4 := Lib.hid hb4
                      clear hL hG hlt hk Hgk hb hb4
                      go_wp2_with fail
                      go_ret
                      exact ⟨rfl, Hb4.out.below, by rw [Hcol0.out]; exact Hb4.out.held⟩
end Go.Proofs.YtbkecaenjjlmoaaGreatDoor
