/- The document's disk: Read, Stored, Hurts. -/
import Derived.Test.YtgjdoiblgbdebaaDoorRef3Write
import Derived.Test.YtgjdoiblgbdebaaDoorDevStat
namespace Go.Proofs.YtgjdoiblgbdebaaDoor
open Go.RowKit
/-- These bytes were told. -/
def OutB (w : World) (v : Value) (bs : List Int) : Prop := ∃ A c, v = .slice A bs.length c ∧ BytesAt w A bs
section
variable {w : World} {T : Nat → Prop} {h : Nat} {D : DM}
theorem RefM.stored {C : List RC} {L : List RL} {ar tu cr : Int} {dn : Bool} (m : RefM D C L ar tu cr dn) {n : Nat} (hn : n < C.length) : D.stored n = C[n].b.bs := by
  unfold DM.stored
  rw [m.cells, getD_m _ _ hn]; rfl
set_option maxRecDepth 100000 in
set_option maxHeartbeats 2000000 in
theorem stored3_any (k : RefAt3 w T h D) (n : Int) :
    Calls Tryd.prog 42 #[.pointer (some ⟨h, 0, none⟩), .int .i64 n] w fun e w' => ∃ v, e = .returned v ∧ OutB w' v (D.storedI n) ∧ Below w.heap.size w w' := by
  obtain ⟨cv, wv, C, L, ar, tu, cr, dn, R, M⟩ := k
  have HT := Lib.hid (there_any R n)
  rw [M.there] at HT
  by_cases hn : D.has n
  · rw [decide_eq_true hn] at HT
    have Hw0 : D.storedI n = D.stored n.toNat := by unfold DM.storedI; rw [if_pos hn]
    unfold DM.has at hn
    obtain ⟨m, rfl⟩ := Int.eq_ofNat_of_zero_le hn.1
    have hm : m < C.length := by have := M.cells; have h1 := hn.2; rw [this, List.length_map] at h1; omega
    rw [Int.toNat_natCast, M.stored hm] at Hw0
    obtain ⟨g, cap, hcv, h1, h2⟩ := R.cform (by omega)
    have hb := R.cb C[m] (List.getElem_mem hm)
    have c0 := R.cell6.1
    rw [hcv] at c0
    have e0 := (R.cat hm hcv).1
    have Hw := Lib.hid Hw0
    have Hb := Lib.hid hb
    have hM := R.many
    have hi1 : (0 : Int) ≤ (m : Int) := by omega
    have hi2 : (m : Int) < (C.length : Int) := by omega
    have hbn := below_new w (.cells #[] 5)
    have c0' := cell_below c0 hbn
    have e0' := cell_below e0 hbn
    have H1 := Lib.hid (And.intro hbn (And.intro (BlockIs.made w 5 #[]) (hb.bytes.below hbn)))
    clear R M hcv hn Hw0 hb hbn c0 e0
    generalize C[m].b = b at *
    have Hl := Lib.hid Hb.out.bd.1
    unfold RB.v at *
    go_enter Tryd.func42, Tryd.ntmps42
    go_wp2_with fail
    refine HT.out.mono ?_
    rintro e w' ⟨rfl, rfl⟩
    go_wp2_with (refine wpList_clone8 rfl (.tmp 9) (.tmp 17) rfl w.heap.size rfl H1.out.2.1 (some ⟨b.g, 0, none⟩) b.bs 256 b.cap rfl Hl.out (by decide) H1.out.2.2 (by decide) ?_; intro g3 cap3 w3 ho3 hg3 hc3 hm3 hgr3)
    go_ret
    rw [Hw.out]
    refine ⟨.slice (some ⟨g3, 0, none⟩) 256 cap3, rfl, ⟨some ⟨g3, 0, none⟩, cap3, by rw [Hl.out], own_bytes ho3 Hb.out.bd.2⟩, H1.out.1.grown hgr3 (by simp) (fun k e => by cases e; exact Nat.le_refl _)⟩
  · have Hw : Hid (D.storedI n = []) := Lib.hid (by unfold DM.storedI; rw [if_neg hn])
    rw [decide_eq_false hn] at HT
    clear R M
    go_enter Tryd.func42, Tryd.ntmps42
    go_wp2_with fail
    refine HT.out.mono ?_
    rintro e w' ⟨rfl, rfl⟩
    go_wp2_with fail
    go_ret
    rw [Hw.out]
    exact ⟨_, rfl, ⟨none, 0, rfl, BytesAt.nil _ _⟩, Below.refl _ _⟩
theorem hurts_take (C : List RC) (k : Nat) (hk : k < C.length) : (C.take (k + 1)).countP (·.hurt) = (C.take k).countP (·.hurt) + (if C[k].hurt then 1 else 0) := by
  rw [List.take_add_one, List.getElem?_eq_getElem hk, List.countP_append]
  simp [List.countP_cons]
theorem hurts_map (C : List RC) : hurts (C.map RC.m) = C.countP (·.hurt) := by unfold hurts; rw [List.countP_map]; rfl
set_option maxRecDepth 100000 in
set_option maxHeartbeats 2000000 in
theorem hurts3_any (k : RefAt3 w T h D) :
    Calls Tryd.prog 41 #[.pointer (some ⟨h, 0, none⟩)] w fun e w' => e = .returned (.int .i64 (hurts D.cells : Int)) ∧ w = w' := by
  obtain ⟨cv, wv, C, L, ar, tu, cr, dn, R, M⟩ := k
  have Hw := Lib.hid (show hurts D.cells = C.countP (·.hurt) by rw [M.cells, hurts_map])
  obtain ⟨X, cap, hcv, h1, h2⟩ := R.cslice
  have c0 := R.cell6.1
  rw [hcv] at c0
  have HR := Lib.hid R
  have hM := R.many
  clear R M hcv
  go_enter Tryd.func41, Tryd.ntmps41
  go_wp2_with fail
  go_loopg [3, 4] C.length (fun gk s i wx => wx = w ∧ ∃ q : Nat, gk = C.length - q ∧ q ≤ C.length ∧ i = .int .i64 (q : Int) ∧ s = .int .i64 (((C.take q).countP (·.hurt) : Nat) : Int))
  case atStart => exact ⟨rfl, 0, rfl, Nat.zero_le _, rfl, rfl⟩
  case round =>
    obtain ⟨rfl, q, hgk, hq, rfl, rfl⟩ := hrel
    have Hgk := Lib.hid hgk
    clear hgk
    by_cases hlt : q < C.length
    · obtain ⟨g, cap2, hcv, h3, h4⟩ := HR.out.cform (by omega)
      have e1 := (HR.out.cat hlt hcv).2
      have c1 := HR.out.cell6.1
      rw [hcv] at c1
      have hbd : (C.take q).countP (·.hurt) ≤ 4096 := Nat.le_trans List.countP_le_length (by rw [List.length_take]; omega)
      have HS := Lib.hid (hurts_take C q hlt)
      clear hcv c0
      cases hh : C[q].hurt with
      | true =>
        rw [hh] at e1 HS
        clear hh
        go_wp2_with fail
        go_roundg (C.length - (q + 1))
        case measure => rw [Hgk.out]; omega
        case rel => exact ⟨rfl, q + 1, rfl, by omega, by go_num, by rw [HS.out]; go_num⟩
      | false =>
        rw [hh] at e1 HS
        clear hh
        go_wp2_with fail
        go_roundg (C.length - (q + 1))
        case measure => rw [Hgk.out]; omega
        case rel => exact ⟨rfl, q + 1, rfl, by omega, by go_num, by rw [HS.out]; go_num⟩
    · obtain rfl : q = C.length := by omega
      go_wp2_with fail
      go_ret
      exact ⟨ret_int (by rw [Hw.out, List.take_of_length_le (Nat.le_refl _)]), rfl⟩
theorem seenAt_step {L : List RL} {n k : Nat} {b : List Int} (h : k < L.length) : seenAt (L.map RL.m) n b (k + 1) = if L[k].n = n then L[k].b.bs else seenAt (L.map RL.m) n b k := by
  conv => lhs; unfold seenAt
  rw [List.getElem?_map, List.getElem?_eq_getElem h]; rfl
set_option maxRecDepth 100000 in
set_option maxHeartbeats 4000000 in
theorem read3_any (k : RefAt3 w T h D) (hF : D.Few 1000000) (n : Int) :
    Calls Tryd.prog 29 #[.pointer (some ⟨h, 0, none⟩), .int .i64 n] w fun e w' => ∃ v, e = .returned (.tuple #[v, .int .i64 (D.read n).2]) ∧ OutB w' v (D.read n).1 ∧ Below w.heap.size w w' := by
  obtain ⟨cv, wv, C, L, ar, tu, cr, dn, R, M⟩ := k
  have HT := Lib.hid (there_any R n)
  rw [M.there] at HT
  have c5 := R.cell6.2.2.2.2.2
  have HM := Lib.hid M
  have HR := Lib.hid R
  have hLl : L.length ≤ 1000000 := by have h1 := hF.ws; rw [HM.out.waits, List.length_map] at h1; exact h1
  clear R M hF
  cases hd : D.down with
  | true =>
    have Hw : Hid (D.read n = ([], 11)) := Lib.hid (by unfold DM.read; rw [if_pos hd])
    rw [HM.out.dn, hd] at c5
    clear hd
    go_enter Tryd.func29, Tryd.ntmps29
    go_wp2_with fail
    go_ret2
    rw [Hw.out]
    exact ⟨_, rfl, ⟨none, 0, rfl, BytesAt.nil _ _⟩, Below.refl _ _⟩
  | false =>
    rw [HM.out.dn, hd] at c5
    by_cases hn : D.has n
    · rw [decide_eq_true hn] at HT
      have Hw0 : D.read n = (D.seen n.toNat, 0) := by unfold DM.read; rw [if_neg (by rw [hd]; decide), if_pos hn]
      unfold DM.has at hn
      obtain ⟨m, rfl⟩ := Int.eq_ofNat_of_zero_le hn.1
      have hm : m < C.length := by have := HM.out.cells; have h1 := hn.2; rw [this, List.length_map] at h1; omega
      have hse : D.seen m = seenAt (L.map RL.m) m C[m].b.bs L.length := by unfold DM.seen; rw [HM.out.waits, HM.out.stored hm, List.length_map]
      rw [Int.toNat_natCast, hse] at Hw0
      have Hw := Lib.hid Hw0
      obtain ⟨g, cap, hcv, h1, h2⟩ := HR.out.cform (by omega)
      obtain ⟨X, wcap, hwv, h3, h4⟩ := HR.out.wslice
      have c0 := HR.out.cell6.1
      rw [hcv] at c0
      have e0 := (HR.out.cat hm hcv).1
      have c1 := HR.out.cell6.2.1
      rw [hwv] at c1
      have Hm := Lib.hid hm
      have hi1 : (0 : Int) ≤ (m : Int) := by omega
      have hi2 : (m : Int) < (C.length : Int) := by omega
      have hM := HR.out.many
      clear hd hn Hw0 hse hcv hwv
      go_enter Tryd.func29, Tryd.ntmps29
      go_wp2_with fail
      refine HT.out.mono ?_
      rintro e w' ⟨rfl, rfl⟩
      go_wp2_with fail
      go_loopg [6, 7] L.length (fun gk s i wx => wx = w ∧ ∃ (q : Nat) (b : RB), gk = L.length - q ∧ q ≤ L.length ∧ i = .int .i64 (q : Int) ∧ s = b.v ∧ Hid (b.ok w T ∧ b.bs = seenAt (L.map RL.m) m C[m].b.bs q))
      case atStart => exact ⟨rfl, 0, C[m].b, rfl, Nat.zero_le _, rfl, rfl, Lib.hid ⟨HR.out.cb C[m] (List.getElem_mem Hm.out), rfl⟩⟩
      case round =>
        obtain ⟨rfl, q, b, hgk, hq, rfl, rfl, hB⟩ := hrel
        have Hgk := Lib.hid hgk
        clear hgk
        by_cases hlt : q < L.length
        · obtain ⟨g2, cap2, hwv, h5, h6⟩ := HR.out.wform (by omega)
          obtain ⟨k0, k1⟩ := HR.out.wat hlt hwv
          have c2 := HR.out.cell6.2.1
          rw [hwv] at c2
          have hj1 : (0 : Int) ≤ (q : Int) := by omega
          have hj2 : (q : Int) < (L.length : Int) := by omega
          have HS := Lib.hid (seenAt_step (n := m) (b := C[m].b.bs) hlt)
          have Hwb := Lib.hid (HR.out.wb L[q] (List.getElem_mem hlt)).2
          clear hwv c1
          generalize L[q] = l at *
          unfold RB.v at *
          by_cases hlm : l.n = m
          · subst hlm
            have hq1 : ((l.n : Int) == (l.n : Int)) = true := beq_self_eq_true _
            go_wp2_with fail
            go_roundg (L.length - (q + 1))
            case measure => rw [Hgk.out]; omega
            case rel => exact ⟨rfl, q + 1, l.b, rfl, by omega, by go_num, rfl, Lib.hid ⟨Hwb.out, by rw [HS.out]; simp⟩⟩
          · have hq1 : ((l.n : Int) == (m : Int)) = false := beq_eq_false_iff_ne.2 (by omega)
            go_wp2_with fail
            go_roundg (L.length - (q + 1))
            case measure => rw [Hgk.out]; omega
            case rel => exact ⟨rfl, q + 1, b, rfl, by omega, by go_num, rfl, Lib.hid ⟨hB.out.1, by rw [HS.out, if_neg hlm]; exact hB.out.2⟩⟩
        · obtain rfl : q = L.length := by omega
          have hbn := below_new wr (.cells #[] 5)
          have H1 := Lib.hid (And.intro hbn (And.intro (BlockIs.made wr 5 #[]) (hB.out.1.bytes.below hbn)))
          have Hl := Lib.hid hB.out.1.bd.1
          clear hbn
          unfold RB.v at *
          go_wp2_with (refine wpList_clone8 rfl (.tmp 51) (.tmp 52) rfl wr.heap.size rfl H1.out.2.1 (some ⟨b.g, 0, none⟩) b.bs 256 b.cap rfl Hl.out (by decide) H1.out.2.2 (by decide) ?_; intro g3 cap3 w3 ho3 hg3 hc3 hm3 hgr3)
          go_ret2
          rw [Hw.out]
          refine ⟨.slice (some ⟨g3, 0, none⟩) 256 cap3, rfl, ⟨some ⟨g3, 0, none⟩, cap3, ?_, ?_⟩, H1.out.1.grown hgr3 (by simp) (fun k e => by cases e; exact Nat.le_refl _)⟩
          · show _ = Value.slice _ (seenAt (L.map RL.m) m C[m].b.bs L.length).length _
            rw [← hB.out.2, Hl.out]
          · show BytesAt _ _ (seenAt (L.map RL.m) m C[m].b.bs L.length)
            rw [← hB.out.2]; exact own_bytes ho3 hB.out.1.bd.2
    · have Hw : Hid (D.read n = ([], 2)) := Lib.hid (by unfold DM.read; rw [if_neg (by rw [hd]; decide), if_neg hn])
      rw [decide_eq_false hn] at HT
      clear hd
      go_enter Tryd.func29, Tryd.ntmps29
      go_wp2_with fail
      refine HT.out.mono ?_
      rintro e w' ⟨rfl, rfl⟩
      go_wp2_with fail
      go_ret2
      rw [Hw.out]
      exact ⟨_, rfl, ⟨none, 0, rfl, BytesAt.nil _ _⟩, Below.refl _ _⟩
end
end Go.Proofs.YtgjdoiblgbdebaaDoor
