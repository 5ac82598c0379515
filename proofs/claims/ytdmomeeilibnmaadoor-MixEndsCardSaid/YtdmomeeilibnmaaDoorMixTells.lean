/- MixTells: the law's walk. -/
import Derived.Test.YtdmomeeilibnmaaDoorKitD
import Derived.Deep.RegionHeld3
namespace Go.Proofs.YtdmomeeilibnmaaDoor
open Go.RowKit
theorem LentRowsAt.below {w w' : World} {v : Value} {ps : List Part} (h : LentRowsAt w v ps) (hb : Below w.heap.size w w') : LentRowsAt w' v ps := by
  obtain ⟨B, qs, hown, hz, hla⟩ := h
  refine ⟨B, qs, hown.kept (grown_of_below hb) ?_, hz, fun q hq => (hla q hq).below hb⟩
  cases hv : Value.ownBlock v with
  | none => exact .inl rfl
  | some g => exact .inr (by simp)
theorem bytes_same {qs ps : List Part} (h : qs.map Part.zs = ps.map Part.zs) : bytesOf qs = bytesOf ps := by
  unfold bytesOf
  rw [List.flatMap_def, List.flatMap_def, h]
theorem lent_parts {w : World} {v : Value} {ps : List Part} (h : LentRowsAt w v ps) : ∃ X cap qs, v = .slice X ps.length cap ∧ qs.length = ps.length ∧ PartsAt w X qs ∧ bytesOf qs = bytesOf ps := by
  obtain ⟨B, qs, hown, hzs, hla⟩ := h
  obtain ⟨X, cap, rfl, _, _⟩ := own_slice hown
  have hlen : qs.length = ps.length := by
    have := congrArg List.length hzs
    simpa using this
  refine ⟨X, cap, qs, rfl, hlen, ⟨fun q hq => ?_, fun hne => ?_⟩, bytes_same hzs⟩
  · obtain ⟨q', e1, e2, hok⟩ := (hla q hq).form
    have : q = q' := by
      obtain ⟨a, z, c⟩ := q
      obtain ⟨a', z', c'⟩ := q'
      simp only [Part.val, Value.slice.injEq] at e1
      simp only at e2
      subst e2
      obtain ⟨rfl, _, rfl⟩ := e1
      rfl
    rw [this]; exact hok
  · have hpos : 0 < ps.length := by
      rw [← hlen]
      exact List.length_pos_iff.2 hne
    obtain ⟨g, c', hv, _⟩ := own_form hown hpos
    obtain ⟨rfl, rfl⟩ : X = some ⟨g, 0, none⟩ ∧ cap = c' := by simpa using hv
    refine ⟨g, 0, rfl, fun i p hp => ?_⟩
    have hi : i < ps.length := by rw [← hlen]; exact (List.getElem?_eq_some_iff.1 hp).1
    rw [Nat.zero_add, hown.cellAt i (by omega), List.getElem?_map, hp]; rfl
/-- What one round of the checks leans on. -/
structure RowInv (W0 : World) (g k b off : Nat) (x : Nat × Nat) (p : Part) (ad : Addr) (W : World) : Prop where
  c1 : W.cell? ⟨g, k, none⟩ = some (.slice (some ⟨x.1, 0, none⟩) p.zs.length x.2)
  c2 : W.cell? ⟨b, off, none⟩ = some (.slice p.A p.zs.length p.cap)
  z1 : BytesAt W (some ⟨x.1, 0, none⟩) p.zs
  z2 : BytesAt W p.A p.zs
  gl : W.cell? ⟨0, 0, none⟩ = some (.iface 73 (.pointer (some ad)))
  bl : Below W0.heap.size W0 W
theorem cell_below {w w1 : World} {v : Value} {a : Addr} (hc : w.cell? a = some v) (hb : Below w.heap.size w w1) : w1.cell? a = some v := (hb.cell (World.block_lt_of_cell? _ _ hc)).trans hc
theorem RowInv.below {W0 : World} {g k b off : Nat} {x : Nat × Nat} {p : Part} {ad : Addr} {W W' : World} (h : RowInv W0 g k b off x p ad W) (hb : Below W.heap.size W W') : RowInv W0 g k b off x p ad W' :=
  ⟨cell_below h.c1 hb, cell_below h.c2 hb, h.z1.below hb, h.z2.below hb, cell_below h.gl hb, h.bl.trans (hb.mono h.bl.size)⟩
theorem RowInv.drew {W0 : World} {g k b off : Nat} {x : Nat × Nat} {p : Part} {ad : Addr} {W : World} (h : RowInv W0 g k b off x p ad W) : RowInv W0 g k b off x p ad W.drew :=
  ⟨h.c1, h.c2, h.z1, h.z2, h.gl, h.bl.drew⟩
def total (ps : List Part) : Nat := (ps.map fun p => p.zs.length).sum
theorem total_snoc (ps : List Part) (k : Nat) (p : Part) (h : ps[k]? = some p) : total (ps.take (k + 1)) = total (ps.take k) + p.zs.length := by
  unfold total
  rw [List.take_add_one, h]; simp
theorem total_part {ps : List Part} {p : Part} (h : p ∈ ps) : p.zs.length ≤ total ps := by
  unfold total
  induction ps with
  | nil => cases h
  | cons q qs ih =>
    rw [List.map_cons, List.sum_cons]
    rcases List.mem_cons.1 h with rfl | h
    · omega
    · have := ih h; omega
theorem fits_self (zs : List Int) : fitsVal zs (Mx.sum zs) = 0 := by unfold fitsVal; rw [if_pos rfl]
set_option maxRecDepth 100000 in
set_option maxHeartbeats 8000000 in
theorem mixTells_any (ps : List Part) (A : Option Addr) (c : Nat) (a b : BitVec 32) (many : Int) (ad : Addr) (w : World) (hg : w.cell? ⟨0, 0, none⟩ = some (.iface 73 (.pointer (some ad))))
    (hp : PartsAt w A ps) (hl : ps.length ≤ 140737488351232) (hs : ∀ p ∈ ps, p.zs.length ≤ 140737488351232 ∧ (p.A = none → p.cap = 0)) (hm : many ≤ 9223372036854775807) :
    Calls Tryd.prog 3 #[.slice A ps.length c, .int .u32 (a.toNat : Int), .int .u32 (b.toNat : Int), .int .i64 many] w fun e w' => e = .returned (.bool true) ∧ Below w.heap.size w w' := by
  go_enter Tryd.func3, Tryd.ntmps3
  go_wp2_with fail
  go_loopg [9, 10] ps.length (fun g n i wx => w = wx ∧ ∃ k m : Nat, g = ps.length - k ∧ k ≤ ps.length ∧ i = .int .i64 (k : Int) ∧ n = .int .i64 (m : Int) ∧ m ≤ 140737488351232 * 2 ∧ Hid (m = ps.length + total (ps.take k)))
  case atStart => exact ⟨rfl, 0, ps.length, rfl, by omega, rfl, rfl, by omega, Lib.hid rfl⟩
  case round =>
    obtain ⟨rfl, k, m, hgk, hk, rfl, rfl, hmb, hmt⟩ := hrel
    have Hgk := Lib.hid hgk; clear hgk
    by_cases hgo : k < ps.length ∧ m ≤ 20000
    · obtain ⟨hlt, hm2⟩ := hgo
      have hpk : ps[k]? = some ps[k] := List.getElem?_eq_getElem hlt
      have hmem : ps[k] ∈ ps := List.getElem_mem hlt
      generalize ps[k] = p at hpk hmem
      obtain ⟨bb, off, rfl, hc⟩ := hp.2 (by intro e; simp [e] at hlt)
      have c1 : w.cell? ⟨bb, off + k, none⟩ = some (.slice p.A p.zs.length p.cap) := hc k p hpk
      have hsp := (hs p hmem).1
      have Hpk := Lib.hid hpk
      clear hpk hc
      go_wp2_with fail
      go_roundg (ps.length - (k + 1))
      case measure => rw [Hgk.out]; omega
      case rel => exact ⟨rfl, k + 1, m + p.zs.length, rfl, by omega, by go_num, by go_num, by omega, Lib.hid (by rw [total_snoc ps k p Hpk.out, hmt.out]; omega)⟩
    · by_cases hbig : m > 20000
      · have hb1 : decide ((m : Int) ≤ 20000) = false := decide_eq_false (by omega)
        have hb2 : decide ((20000 : Int) < m) = true := decide_eq_true (by omega)
        clear hgo hbig
        by_cases hlt : k < ps.length
        all_goals
          go_wp2_with fail
          refine (awake_any ad w hg).mono ?_
          rintro e w' ⟨rfl, hb⟩
          go_wp2_with fail
          go_ret
          exact ⟨rfl, hb⟩
      · obtain rfl : k = ps.length := by omega
        have hb1 : decide ((20000 : Int) < m) = false := decide_eq_false (by omega)
        have hm20 : m ≤ 20000 := by omega
        clear hgo hbig
        by_cases hmany : many > 20000
        · go_wp2_with fail
          refine (awake_any ad w hg).mono ?_
          rintro e w' ⟨rfl, hb⟩
          go_wp2_with fail
          go_ret
          exact ⟨rfl, hb⟩
        · have hpl : ps.length ≤ 20000 := by have := hmt.out; omega
          go_wp2_with fail
          refine (lentRows_any ps A c w hp (by omega) hs).mono ?_
          rintro e w1 ⟨v, rfl, hlr, hbl⟩
          have hp1 := hp.below hbl
          have hg1 := below_global _ hg hbl
          have hs1 : ∀ p ∈ ps, p.zs.length ≤ 140737488351232 := fun p h => (hs p h).1
          clear hp hg hs
          obtain ⟨X, cx, qs, hvx, hql, hqp, hqb⟩ := lent_parts hlr
          rw [hvx] at hlr ⊢
          clear hvx hqp
          have Hql := Lib.hid hql
          have Hs1 := Lib.hid hs1
          clear hql hs1 hqb
          go_wp2_with fail
          go_loopg [12] ps.length (fun g i wx => ∃ k : Nat, g = ps.length - k ∧ k ≤ ps.length ∧ i = .int .i64 (k : Int) ∧ Hid (LentRowsAt wx (.slice X ps.length cx) ps ∧ PartsAt wx A ps ∧ wx.cell? ⟨0, 0, none⟩ = some (.iface 73 (.pointer (some ad)))) ∧ Below w.heap.size w wx)
          case atStart => exact ⟨0, rfl, by omega, rfl, Lib.hid ⟨hlr, hp1, hg1⟩, hbl⟩
          case round =>
            obtain ⟨k, hgk, hk2, rfl, hfacts, hbw⟩ := hrel
            have Hgk2 := Lib.hid hgk; clear hgk
            by_cases hlt : k < ps.length
            · have hpk : ps[k]? = some ps[k] := List.getElem?_eq_getElem hlt
              have hmem : ps[k] ∈ ps := List.getElem_mem hlt
              generalize ps[k] = p at hpk hmem
              obtain ⟨hlr2, hp2, hg2⟩ := hfacts.out
              obtain ⟨g, cap, x, hx, c1, hla⟩ := lent_row hlr2 k p hpk
              obtain ⟨rfl, rfl⟩ : X = some ⟨g, 0, none⟩ ∧ cx = cap := by simpa using hx
              obtain ⟨bb, off, rfl, hc⟩ := hp2.2 (by intro e; simp [e] at hlt)
              have c2 : wr.cell? ⟨bb, off + k, none⟩ = some (.slice p.A p.zs.length p.cap) := hc k p hpk
              obtain ⟨q, hqv, hqz, hqok⟩ := hla.form
              have hcapp : p.zs.length ≤ p.cap ∧ p.cap ≤ 9223372036854775807 := (hp2.1 p hmem).2
              have hx2 : p.zs.length ≤ x.2 ∧ x.2 ≤ 9223372036854775807 := by
                obtain ⟨qA, qz, qc⟩ := q
                simp only [Part.val, Value.slice.injEq] at hqv
                obtain ⟨_, e1, e2⟩ := hqv
                have := hqok.2
                simp only at this
                rw [← e1, ← e2] at this
                exact this
              have HI : RowInv wr g k bb (off + k) x p ad wr := ⟨c1, c2, hqz ▸ (by
                obtain ⟨qA, qz, qc⟩ := q
                simp only [Part.val, Value.slice.injEq] at hqv
                obtain ⟨e0, _, _⟩ := hqv
                have := hqok.1
                simp only at this
                rw [← e0] at this
                exact this), (hp2.1 p hmem).1, hg2, Below.refl _ _⟩
              have Hf := hfacts
              clear hpk hc hx hla hqv hqz hqok hlr2 hp2 hg2 hfacts hlr hp1 hg1
              have hf1 : (fitsVal p.zs a != fitsVal p.zs a) = false := by simp
              have hf2 : fitsVal p.zs (Mx.sum p.zs) = 0 := fits_self _
              go_wp2_with fail
              go_region_held3 (fun w' => w'.cell? ⟨g, k, none⟩ = some (.slice (some ⟨x.1, 0, none⟩) p.zs.length x.2) ∧ w'.cell? ⟨bb, off + k, none⟩ = some (.slice p.A p.zs.length p.cap)) (exact ⟨HI.c1, HI.c2⟩) (first
                | (go_at_call 9; (with_reducible refine (fits_any a p.zs (some ⟨x.1, 0, none⟩) x.2 ad _ ?_ hx2.1 hx2.2 ?_).mono ?_); exact HI.z1; exact HI.gl; rintro e w2 ⟨rfl, hb2⟩; have HJ : RowInv wr g k bb (off + k) x p ad w2 := (by first | exact HI.below hb2 | exact HI.drew.below hb2); have k1 := HJ.c1; have k2 := HJ.c2; clear HI; have HI := HJ; clear HJ)
                | (go_at_call 9; (with_reducible refine (fits_any (Mx.sum p.zs) p.zs (some ⟨x.1, 0, none⟩) x.2 ad _ ?_ hx2.1 hx2.2 ?_).mono ?_); exact HI.z1; exact HI.gl; rintro e w2 ⟨rfl, hb2⟩; have HJ : RowInv wr g k bb (off + k) x p ad w2 := (by first | exact HI.below hb2 | exact HI.drew.below hb2); have k1 := HJ.c1; have k2 := HJ.c2; clear HI; have HI := HJ; clear HJ)
                | (go_at_call 10; (with_reducible refine (rfits_any a p.zs p.A p.cap _ ?_ hcapp.1 hcapp.2).mono ?_); exact HI.z2; rintro e w2 ⟨rfl, hb2⟩; have HJ : RowInv wr g k bb (off + k) x p ad w2 := (by first | exact HI.below hb2 | exact HI.drew.below hb2); have k1 := HJ.c1; have k2 := HJ.c2; clear HI; have HI := HJ; clear HJ)
                | (go_at_call 11; (with_reducible refine (of_any p.zs p.A p.cap _ ?_ hcapp.1 hcapp.2).mono ?_); exact HI.z2; rintro e w2 ⟨rfl, hb2⟩; have HJ : RowInv wr g k bb (off + k) x p ad w2 := (by first | exact HI.below hb2 | exact HI.drew.below hb2); have k1 := HJ.c1; have k2 := HJ.c2; clear HI; have HI := HJ; clear HJ))
              all_goals (go_wp2_with fail)
              all_goals (go_roundg (ps.length - (k + 1)))
              case measure => rw [Hgk2.out]; omega
              case rel => exact ⟨k + 1, rfl, by omega, by go_num, Lib.hid ⟨Hf.out.1.below HI.bl, Hf.out.2.1.below HI.bl, below_global _ Hf.out.2.2 HI.bl⟩, hbw.trans (HI.bl.mono hbw.size)⟩
            · obtain rfl : k = ps.length := by omega
              obtain ⟨hlr2, hp2, hg2⟩ := hfacts.out
              obtain ⟨X', c', qs', e, hql', hqp', hqb'⟩ := lent_parts hlr2
              obtain ⟨rfl, rfl⟩ : X = X' ∧ cx = c' := by simpa using e
              have hS := sum_any qs' X cx wr hqp' (by omega)
              rw [hql', hqb'] at hS
              have HS := Lib.hid hS
              have hs2 := Hs1.out
              have Hs2 := Lib.hid hs2
              clear e hql' hqp' hqb' hS hs2 hfacts hlr hp1 hg1
              go_wp2_with fail
              refine HS.out.mono ?_
              rintro e w2 ⟨rfl, hb2⟩
              have hp3 := hp2.below hb2
              have hlr3 := hlr2.below hb2
              have hg3 := below_global _ hg2 hb2
              have hB2 := hbw.trans (hb2.mono hbw.size)
              clear hp2 hlr2 hg2 HS
              go_wp2_with fail
              refine (rsum_any ps A c w2 hp3 (by omega)).mono ?_
              rintro e w' ⟨rfl, rfl⟩
              go_wp2_with fail
              refine (join_any a b many _ hm).mono ?_
              rintro e w' ⟨rfl, rfl⟩
              go_wp2_with fail
              refine (rjoin_any a b many _ hm).mono ?_
              rintro e w' ⟨rfl, rfl⟩
              go_wp2_with fail
              refine (keptRows_any ps _ A c w2 hlr3 hp3 (by omega) Hs2.out).mono ?_
              rintro e w' ⟨rfl, nq, rfl⟩
              have hg4 : (w2.drewN nq).cell? ⟨0, 0, none⟩ = some (.iface 73 (.pointer (some ad))) := hg3
              have hB4 := Below.drewN hB2 nq
              go_wp2_with fail
              refine (awake_any ad _ hg4).mono ?_
              rintro e w5 ⟨rfl, hb5⟩
              go_wp2_with fail
              go_ret
              exact ⟨rfl, hB4.trans (hb5.mono hB4.size)⟩
end Go.Proofs.YtdmomeeilibnmaaDoor
