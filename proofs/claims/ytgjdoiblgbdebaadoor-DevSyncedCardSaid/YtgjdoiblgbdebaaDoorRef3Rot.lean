/- The document's disk: same, hurt, Rot, Wipe. -/
import Derived.Test.YtgjdoiblgbdebaaDoorRef3Read
import Derived.Test.YtgjdoiblgbdebaaDoorDevRot
import Derived.Laws.BytesArg
import Derived.Lib.Strings
namespace Go.Proofs.YtgjdoiblgbdebaaDoor
open Go.RowKit
theorem nums_eq (xs ys : List Int) (hx : ∀ z ∈ xs, 0 ≤ z ∧ z < 256) (hy : ∀ z ∈ ys, 0 ≤ z ∧ z < 256) : ((strOfNums xs).toList == (strOfNums ys).toList) = sameB xs ys := by
  rw [Lib.toList_data, Lib.toList_data, strOfNums_data, strOfNums_data]
  unfold sameB
  rw [Bool.eq_iff_iff, beq_iff_eq, decide_eq_true_iff]
  constructor
  · intro h
    have hl := congrArg List.length h
    rw [List.length_map, List.length_map] at hl
    apply List.ext_getElem hl
    intro i h1 h2
    have h3 := congrArg (fun l => l[i]?) h
    simp only [List.getElem?_map, List.getElem?_eq_getElem h1, List.getElem?_eq_getElem h2, Option.map_some, Option.some.injEq] at h3
    have h4 := congrArg UInt8.toNat h3
    have a1 := hx _ (List.getElem_mem h1)
    have a2 := hy _ (List.getElem_mem h2)
    rw [UInt8.toNat_ofNat_of_lt' (by show _ < 256; omega), UInt8.toNat_ofNat_of_lt' (by show _ < 256; omega)] at h4
    omega
  · rintro rfl; rfl
set_option maxRecDepth 100000 in
theorem same3_any (w : World) (g1 c1 g2 c2 : Nat) (xs ys : List Int) (hx : BlkOk xs) (hy : BlkOk ys) (h1 : BytesAt w (some ⟨g1, 0, none⟩) xs) (h2 : BytesAt w (some ⟨g2, 0, none⟩) ys) :
    Calls Tryd.prog 71 #[.slice (some ⟨g1, 0, none⟩) 256 c1, .slice (some ⟨g2, 0, none⟩) 256 c2] w fun e w' => e = .returned (.bool (sameB xs ys)) ∧ w = w' := by
  have e1 := run_convert_bytes_arg (P := Tryd.prog) w 33 5 Tryd.underlying33 Tryd.underlying5 g1 0 256 c1 xs hx.1 (fun i hi => h1.one i (by rw [hx.1]; exact hi)) 9 Tryd.underlying9
  have e2 := run_convert_bytes_arg (P := Tryd.prog) w 33 5 Tryd.underlying33 Tryd.underlying5 g2 0 256 c2 ys hy.1 (fun i hi => h2.one i (by rw [hy.1]; exact hi)) 9 Tryd.underlying9
  have he := nums_eq xs ys hx.2 hy.2
  clear hx hy h1 h2
  go_enter Tryd.func71, Tryd.ntmps71
  go_wp2_with fail
  go_ret
  exact ⟨rfl, rfl⟩
section
variable {w : World} {T : Nat → Prop} {h : Nat} {D : DM}
set_option maxRecDepth 100000 in
set_option maxHeartbeats 2000000 in
theorem hurt3_any (k : RefAt3 w T h D) (n : Nat) (hn : D.has (n : Int)) (nb : RB) (hb : nb.ok w T) :
    Calls Tryd.prog 67 #[.pointer (some ⟨h, 0, none⟩), .int .i64 (n : Int), nb.v] w fun e w' => e = .returned (.int .i64 (D.hurt n nb.bs).1) ∧ RefAt3 w' T h (D.hurt n nb.bs).2 ∧ Chg T w w' := by
  have Hk := Lib.hid k
  obtain ⟨cv, wv, C, L, ar, tu, cr, dn, R, M⟩ := k
  unfold DM.has at hn
  have hm : n < C.length := by have := M.cells; have h1 := hn.2; rw [this, List.length_map] at h1; omega
  obtain ⟨g, cap, hcv, h1, h2⟩ := R.cform (by omega)
  have c0 := R.cell6.1
  rw [hcv] at c0
  obtain ⟨e0, e1⟩ := R.cat hm hcv
  have hcb := R.cb C[n] (List.getElem_mem hm)
  have HS := Lib.hid (same3_any w nb.g nb.cap C[n].b.g C[n].b.cap nb.bs C[n].b.bs hb.bd hcb.bd hb.bytes hcb.bytes)
  have hst := M.stored hm
  have hgd : (D.cells.getD n ([], false)) = (C[n].b.bs, C[n].hurt) := by rw [M.cells, getD_m _ _ hm]; rfl
  have hi1 : (0 : Int) ≤ (n : Int) := by omega
  have hi2 : (n : Int) < (C.length : Int) := by omega
  have f0 : w.frozen? ⟨g, n * 2, none⟩ = false := by
    have := R.cown
    rw [hcv] at this
    exact this.frozenAt _
  have f1 : w.frozen? ⟨g, n * 2 + 1, none⟩ = false := by
    have := R.cown
    rw [hcv] at this
    exact this.frozenAt _
  have hM := R.many
  have HR := Lib.hid R
  have HM := Lib.hid M
  have Hcv := Lib.hid hcv
  have Hm := Lib.hid hm
  have Hb := Lib.hid hb
  clear R M hn hcv hcb hb
  by_cases hs : nb.bs = C[n].b.bs
  · have Hw : Hid (D.hurt n nb.bs = (2, D)) := Lib.hid (by unfold DM.hurt; rw [if_pos (by rw [hst]; exact hs)])
    rw [show sameB nb.bs C[n].b.bs = true from decide_eq_true hs] at HS
    clear hs hst hgd
    generalize C[n] = c at *
    unfold RB.v at *
    go_enter Tryd.func67, Tryd.ntmps67
    go_wp2_with fail
    refine HS.out.mono ?_
    rintro e w' ⟨rfl, rfl⟩
    go_wp2_with fail
    go_ret
    rw [Hw.out]
    exact ⟨rfl, Hk.out, Chg.refl _ _⟩
  · rw [show sameB nb.bs C[n].b.bs = false from decide_eq_false hs] at HS
    obtain ⟨x, hh⟩ : ∃ x, (C[n]'hm).hurt = x := ⟨_, rfl⟩
    cases x with
    | true =>
      have Hw : Hid (D.hurt n nb.bs = (16, D)) := Lib.hid (by unfold DM.hurt; rw [if_neg (by rw [hst]; exact hs), hgd, hh, if_pos rfl])
      rw [hh] at e1
      clear hs hst hgd hh
      generalize C[n] = c at *
      unfold RB.v at *
      go_enter Tryd.func67, Tryd.ntmps67
      go_wp2_with fail
      refine HS.out.mono ?_
      rintro e w' ⟨rfl, rfl⟩
      go_wp2_with fail
      go_ret
      rw [Hw.out]
      exact ⟨rfl, Hk.out, Chg.refl _ _⟩
    | false =>
      have Hw : Hid (D.hurt n nb.bs = (0, { D with cells := D.cells.set n (nb.bs, true) })) := Lib.hid (by unfold DM.hurt; rw [if_neg (by rw [hst]; exact hs), hgd, hh, if_neg Bool.false_ne_true])
      rw [hh] at e1
      have k1 := (HR.out.setB Hcv.out Hm.out nb Hb.out).1
      have hl6 : n < (C.set n { C[n] with b := nb }).length := by rw [List.length_set]; exact Hm.out
      have hcv6 : cv = .slice (some ⟨g, 0, none⟩) (C.set n { C[n] with b := nb }).length cap := by rw [List.length_set]; exact Hcv.out
      have k2 := (k1.setH hcv6 hl6 true).1
      have hTg := HR.out.cm g (by rw [Hcv.out]; rfl)
      have hC := ((Chg.refl T w).set (b := g) (i := n * 2) (.inl hTg) nb.v).set (b := g) (i := n * 2 + 1) (.inl hTg) (.bool true)
      have H2 := Lib.hid (And.intro k2 hC)
      clear hs hst hgd hh k1 k2 hC hcv6
      generalize hc : C[n] = c at *
      have Hc := Lib.hid hc
      clear hc
      unfold RB.v at *
      go_enter Tryd.func67, Tryd.ntmps67
      go_wp2_with fail
      refine HS.out.mono ?_
      rintro e w' ⟨rfl, rfl⟩
      go_wp2_with fail
      go_ret
      rw [Hw.out]
      refine ⟨rfl, ⟨cv, wv, _, L, ar, tu, cr, dn, H2.out.1, ⟨?_, HM.out.waits, HM.out.ar, HM.out.tu, HM.out.cr, HM.out.dn, HM.out.lo⟩⟩, H2.out.2⟩
      show D.cells.set n (nb.bs, true) = _
      rw [map_set_m, map_set_m, List.set_set, HM.out.cells]
      congr 1
      simp [RC.m]
end
end Go.Proofs.YtgjdoiblgbdebaaDoor
