/- Law 02: how much parts weigh; the chapter's examples. -/
/- Law 02: how much parts weigh. -/
import Derived.Test.YtifoiiaddcgngaaGreatDoorLaw02PartV
import Derived.Lib.SlBytesConst
import Derived.Lib.SmallJoins
namespace Go.Proofs.YtifoiiaddcgngaaGreatDoor
open Go.RowKit
theorem aw1 : putO (some []) (fieldsB 2 [300]) = some [44, 1] := by decide +kernel
theorem aw2 : putO (some [44, 1]) (textB [97, 98]) = some [44, 1, 2, 0, 97, 98] := by decide +kernel
theorem aw3 : putO (some [44, 1, 2, 0, 97, 98]) (rowB [7]) = some [44, 1, 2, 0, 97, 98, 1, 7, 0, 0, 0, 0, 0] := by decide +kernel
theorem aw4 : (fieldR [44, 1, 2, 0, 97, 98, 1, 7, 0, 0, 0, 0, 0] 2 (.ok 0)).1 = 300 := by decide +kernel
theorem bytesAt_marked (W : World) (zs : List Int) (m : Nat × Nat) (hr : ∀ z ∈ zs, 0 ≤ z ∧ z < 256) : BytesAt (W.alloc (.cells (u8s zs).toArray 5 m)) (some ⟨W.heap.size, 0, none⟩) zs := by
  refine bytesAt_cells hr (fun i hi => ?_)
  rw [World.cell?_alloc_mark, Nat.zero_add, List.getElem?_toArray]
  unfold u8s
  rw [List.getElem?_map, List.getD_eq_getElem?_getD, List.getElem?_eq_getElem hi]; rfl
theorem wr_new (w : World) : WrAt (w.alloc (.cells #[.pointer none, .bool false] 38)) (fun _ => False) w.heap.size (some []) :=
  ⟨fun _ h => h.elim, ⟨none, [], BlockIs.made _ _ _, rfl, rfl⟩⟩
set_option maxRecDepth 100000 in
set_option maxHeartbeats 4000000 in
theorem awake_any (σ : Sen) (w : World) (hG : GlF σ w) :
    Calls Tryz.prog 9 #[] w fun e w' => e = .returned (.bool true) ∧ Below w.heap.size w w' := by
  have hbn := below_new w (.cells #[.pointer none, .bool false] 38)
  have hW := wr_new w
  have hsz : (w.alloc (.cells #[.pointer none, .bool false] 38)).heap.size = w.heap.size + 1 := by simp
  go_enter Tryz.func9, Tryz.ntmps9
  go_wp2_with fail
  generalize w.alloc (.cells #[.pointer none, .bool false] 38) = w1 at *
  rw [← hsz]
  have Hsz := Lib.hid hsz
  clear hsz
  have hbA := below_new w1 (.cells #[.int .i64 300] 3)
  refine (field_any _ _ w.heap.size _ (hW.below hbA) 2 (some ⟨w1.heap.size, 0, none⟩) 1 [300] (intsAt_lit w1 [300] (by simp)) (by simp)).mono ?_
  rintro e w2 ⟨rfl, hP⟩
  have hP2 := Put.after hbA hP hW.foot hW.lt
  rw [aw1] at hP2
  clear hP hbA
  have hcv := fun w => Lib.run_convert_bytes_const (P := Tryz.prog) w 23 5 #[.int .u8 97, .int .u8 98] 2 2 Tryz.underlying23 Tryz.underlying5
  go_wp2_with fail
  have hbB := below_new w2 (.cells #[.int .u8 97, .int .u8 98] 5 (2, 3))
  have hz2 : BytesAt (w2.alloc (.cells #[.int .u8 97, .int .u8 98] 5 (2, 3))) (some ⟨w2.heap.size, 0, none⟩) [97, 98] := bytesAt_marked w2 [97, 98] (2, 3) (by simp)
  refine (wtext_any _ _ w.heap.size _ (hP2.wr.below hbB) [97, 98] (some ⟨w2.heap.size, 0, none⟩) 2 hz2 (by simp) (fun e => by cases e)).mono ?_
  rintro e w3 ⟨rfl, hP3⟩
  have hP3' := hP2.trans (Put.after hbB hP3 hP2.wr.foot hP2.wr.lt) hW.foot hW.lt
  rw [aw2] at hP3'
  clear hP3 hbB hz2 hP2
  go_wp2_with fail
  have hbC := below_new w3 (.cells #[.int .i64 7] 3)
  have hI3 : IntsAt (w3.alloc (.cells #[.int .i64 7] 3)) (some ⟨w3.heap.size, 0, none⟩) [7] := intsAt_lit w3 [7] (by simp)
  refine (wrow_any _ _ w.heap.size _ (hP3'.wr.below hbC) [7] (some ⟨w3.heap.size, 0, none⟩) 1 hI3 (by simp)).mono ?_
  rintro e w4 ⟨rfl, hP4⟩
  have hP4' := hP3'.trans (Put.after hbC hP4 hP3'.wr.foot hP3'.wr.lt) hW.foot hW.lt
  rw [aw3] at hP4'
  clear hP4 hbC hI3 hP3'
  go_wp2_with fail
  refine (wbytes_some w4 _ w.heap.size _ hP4'.wr (by simp)).mono ?_
  rintro e w5 ⟨v, rfl, hown5, hb5⟩
  have hb05 : Below w.heap.size w w5 := (below_grown hbn hP4'.fr hbn.size (Nat.le_refl _)).trans (hb5.mono (by have := hP4'.fr.size; have := Hsz.out; omega))
  clear hP4' hb5
  obtain ⟨X, cap, rfl, hcap, hcm⟩ := own_slice hown5
  have hz5 := own_reads hown5 (by decide)
  have hA5 : X = none → cap = 0 := fun e => by
    obtain ⟨b, o, e'⟩ := hz5.some_ (by decide)
    rw [e] at e'; cases e'
  have Hown5 := Lib.hid hown5
  clear hown5
  go_wp2_with fail
  have hbD := below_new w5 (.cells #[.int .u8 44, .int .u8 1, .int .u8 2, .int .u8 0, .int .u8 97, .int .u8 98, .int .u8 1, .int .u8 7, .int .u8 0, .int .u8 0, .int .u8 0, .int .u8 0, .int .u8 0] 5)
  have hzL : BytesAt (w5.alloc (.cells #[.int .u8 44, .int .u8 1, .int .u8 2, .int .u8 0, .int .u8 97, .int .u8 98, .int .u8 1, .int .u8 7, .int .u8 0, .int .u8 0, .int .u8 0, .int .u8 0, .int .u8 0] 5)) (some ⟨w5.heap.size, 0, none⟩) [44, 1, 2, 0, 97, 98, 1, 7, 0, 0, 0, 0, 0] := bytesAt_lit w5 [44, 1, 2, 0, 97, 98, 1, 7, 0, 0, 0, 0, 0] (by decide)
  refine (sameBytes_any [44, 1, 2, 0, 97, 98, 1, 7, 0, 0, 0, 0, 0] [44, 1, 2, 0, 97, 98, 1, 7, 0, 0, 0, 0, 0] X (some ⟨w5.heap.size, 0, none⟩) cap 13 _ (hz5.below hbD) hzL (by decide)).mono ?_
  rintro e w6 ⟨rfl, hq⟩
  have hq : Qu _ w6 := hq
  have hb56 : Below w5.heap.size w5 w6 := hbD.trans (hq.below _)
  have hz6 := hz5.below hb56
  have hb06 := hb05.trans (hb56.mono hb05.size)
  rw [show sameB [44, 1, 2, 0, 97, 98, 1, 7, 0, 0, 0, 0, 0] [44, 1, 2, 0, 97, 98, 1, 7, 0, 0, 0, 0, 0] = true by decide]
  clear hzL hbD hq hb56 hz5
  go_wp2_with fail
  refine (read_any σ w6 [44, 1, 2, 0, 97, 98, 1, 7, 0, 0, 0, 0, 0] X cap hz6 (by decide) hA5).mono ?_
  rintro e w7 ⟨g7, rfl, hlo7, hR7, hb7⟩
  have hb07 := hb06.trans (hb7.mono hb06.size)
  have hE7 : EnvF σ w g7 w7 := ⟨hG, hb07, by have := hb06.size; omega⟩
  go_wp2_with fail
  refine (rfield_any σ w w7 g7 _ (.ok 0) 2 hR7 hE7 (by decide)).mono ?_
  rintro e w8 ⟨rfl, hG8⟩
  rw [aw4]
  go_wp2_with fail
  go_ret
  exact ⟨rfl, (hE7.grown hG8.fr).bl⟩
end Go.Proofs.YtifoiiaddcgngaaGreatDoor
namespace Go.Proofs.YtifoiiaddcgngaaGreatDoor
open Go.RowKit
set_option maxRecDepth 100000 in
set_option maxHeartbeats 2000000 in
theorem size_any (w : World) (A : Option Addr) (ps : List PartV) (c : Nat) (h : PVAt w A ps) (hl : ps.length ≤ 140737488351232) :
    Calls Tryz.prog 44 #[.slice A ps.length c] w fun e w' => ∃ m : Nat, e = .returned (.int .i64 (m : Int)) ∧ m ≤ 1000000000000000 ∧ (m ≤ 3000 → m = tot ps) ∧ ∃ n, w' = w.drewN n := by
  go_enter Tryz.func44, Tryz.ntmps44
  go_wp2_with fail
  go_loopg [3, 4] ps.length (fun g n i wx => (∃ nq, wx = w.drewN nq) ∧ ∃ k m : Nat, g = ps.length - k ∧ k ≤ ps.length ∧ i = .int .i64 (k : Int) ∧ n = .int .i64 (m : Int) ∧ m ≤ 140737488351232 * 3 + 140737488351232 + 3000 ∧ Hid (m + k = ps.length + tot (ps.take k)))
  case atStart => exact ⟨⟨0, rfl⟩, 0, ps.length, rfl, by omega, rfl, rfl, by omega, Lib.hid rfl⟩
  case round =>
    obtain ⟨⟨nq, rfl⟩, k, m, hgk, hk, rfl, rfl, hmb, hmt⟩ := hrel
    have Hgk := Lib.hid hgk; clear hgk
    by_cases hgo : k < ps.length ∧ m ≤ 3000
    · obtain ⟨hlt, hm2⟩ := hgo
      have hpk : ps[k]? = some ps[k] := List.getElem?_eq_getElem hlt
      generalize ps[k] = p at hpk
      obtain ⟨bb, off, rfl, hc⟩ := h.2 (by intro e; simp [e] at hlt)
      have c2 : w.cell? ⟨bb, off + k * 9 + 2, none⟩ = some (.slice p.nA p.ns.length p.nc) := hc k p hpk 2 _ rfl
      have c3 : w.cell? ⟨bb, off + k * 9 + 3, none⟩ = some (.slice p.tA p.ts.length p.tc) := hc k p hpk 3 _ rfl
      have c7 : w.cell? ⟨bb, off + k * 9 + 7, none⟩ = some (.slice p.bA p.ent.body.length p.bc) := hc k p hpk 7 _ rfl
      have hpl := (h.1 p (List.mem_of_getElem? hpk)).len
      have Hpk := Lib.hid hpk
      obtain ⟨l1, l2, l3⟩ := hpl
      clear hpk hc
      go_wp2_with fail
      go_quiet (fail)
      go_wp2_with fail
      go_roundg (ps.length - (k + 1))
      case measure => rw [Hgk.out]; omega
      case rel => exact ⟨⟨_, rfl⟩, k + 1, m + p.ns.length + p.ts.length + p.ent.body.length, rfl, by omega, by go_num, by go_num, by omega, Lib.hid (by rw [tot_snoc ps k p Hpk.out]; have := hmt.out; omega)⟩
    · by_cases hbig : m > 3000
      · have hb1 : decide ((m : Int) ≤ 3000) = false := decide_eq_false (by omega)
        clear hgo
        by_cases hlt : k < ps.length
        all_goals
          go_wp2_with fail
          go_ret
          exact ⟨m, rfl, by omega, fun h => by omega, _, rfl⟩
      · obtain rfl : k = ps.length := by omega
        clear hgo
        rw [List.take_length] at hmt
        have hmt' := hmt.out
        have hm3 : m ≤ 3000 := by omega
        have Hmm := Lib.hid (show m = tot ps by omega)
        clear hmt'
        go_wp2_with fail
        go_ret
        exact ⟨m, rfl, by omega, fun _ => Hmm.out, _, rfl⟩
end Go.Proofs.YtifoiiaddcgngaaGreatDoor
