/- The document's disk: Sync, Wake. -/
import Derived.Test.YtgjdoiblgbdebaaDoorRef3Write
import Derived.Test.YtgjdoiblgbdebaaDoorDevWake
namespace Go.Proofs.YtgjdoiblgbdebaaDoor
open Go.RowKit
theorem settleK_step {cs : List (List Int × Bool)} {L : List RL} {f : Nat → Nat} {k : Nat} (h : k < L.length) : settleK cs (L.map RL.m) f (k + 1) = (settleK cs (L.map RL.m) f k).set L[k].n (storeS ((settleK cs (L.map RL.m) f k).getD L[k].n ([], false)) L[k].b.bs (f k)) := by
  conv => lhs; unfold settleK
  rw [List.getElem?_map, List.getElem?_eq_getElem h]; rfl
section
variable {w : World} {T : Nat → Prop} {h : Nat} {cv wv : Value} {C : List RC} {L : List RL} {ar tu cr : Int} {dn : Bool}
/-- A disk whose writes are being stored, one by one. -/
structure Upto (w : World) (T : Nat → Prop) (h : Nat) (cv wv : Value) (C : List RC) (L : List RL) (ar tu cr : Int) (dn : Bool) (f : Nat → Nat) (k : Nat) (w' : World) (C' : List RC) : Prop where
  at_ : RefR w' (grow T w w') h cv wv C' L ar tu cr dn
  fr : Chg T w w'
  cells : C'.map RC.m = settleK (C.map RC.m) (L.map RL.m) f k
theorem Upto.begin (R : RefR w T h cv wv C L ar tu cr dn) (f : Nat → Nat) : Upto w T h cv wv C L ar tu cr dn f 0 w C :=
  ⟨R.mono (fun _ hj => .inl hj) (grow_lt R.foot (Nat.le_refl _)), Chg.refl _ _, rfl⟩
theorem Upto.len {w' : World} {C' : List RC} {f : Nat → Nat} {k : Nat} (u : Upto w T h cv wv C L ar tu cr dn f k w' C') : C'.length = C.length := by
  have := congrArg List.length u.cells
  rw [settleK_len, List.length_map, List.length_map] at this
  exact this
theorem Upto.skip {w' : World} {C' : List RC} {f : Nat → Nat} {k : Nat} (u : Upto w T h cv wv C L ar tu cr dn f k w' C') (hk : k < L.length) (h0 : f k = 0) : Upto w T h cv wv C L ar tu cr dn f (k + 1) w' C' := by
  refine ⟨u.at_, u.fr, ?_⟩
  have hn := (u.at_.wb L[k] (List.getElem_mem hk)).1
  have hl : L[k].n < (settleK (C.map RC.m) (L.map RL.m) f k).length := by rw [settleK_len, List.length_map, ← u.len]; exact hn
  rw [settleK_step hk, h0, storeS_zero, u.cells, List.getD_eq_getElem?_getD, List.getElem?_eq_getElem hl]
  exact (List.set_getElem_self hl).symm
theorem Upto.drewN {w' : World} {C' : List RC} {f : Nat → Nat} {k : Nat} (u : Upto w T h cv wv C L ar tu cr dn f k w' C') (n : Nat) : Upto w T h cv wv C L ar tu cr dn f k (w'.drewN n) C' :=
  ⟨(u.at_.drewN n).mono (fun _ hj => hj) u.at_.foot, u.fr.drewN n, u.cells⟩
/-- One more is stored. -/
theorem Upto.store {w' : World} {C' : List RC} {f : Nat → Nat} {k : Nat} (u : Upto w T h cv wv C L ar tu cr dn f k w' C') (hf : ∀ j, T j → j < w.heap.size) (hk : k < L.length) (s : Nat) (hs : s ≤ 8) (h0 : f k = s) :
    Calls Tryd.prog 66 #[.pointer (some ⟨h, 0, none⟩), .agg #[.int .i64 (L[k].n : Int), L[k].b.v], .int .i64 (s : Int)] w' fun e w2 => e = .returned (.tuple #[]) ∧ ∃ C2, Upto w T h cv wv C L ar tu cr dn f (k + 1) w2 C2 := by
  have hl := u.at_.wb L[k] (List.getElem_mem hk)
  refine (store3_any u.at_ L[k] hl.1 hl.2 s hs).mono ?_
  rintro e w2 ⟨rfl, C2, h1, h2, h3⟩
  refine ⟨rfl, C2, h1.mono (grow_trans u.fr.size h2.size) (grow_lt hf (Nat.le_trans u.fr.size h2.size)), u.fr.trans h2, ?_⟩
  rw [h3, u.cells, settleK_step hk, h0]
end
section
variable {w : World} {T : Nat → Prop} {h : Nat} {D : DM}
theorem Upto.end_ {w' : World} {cv wv : Value} {C C' : List RC} {L : List RL} {ar tu cr : Int} {dn : Bool} {f : Nat → Nat} (u : Upto w T h cv wv C L ar tu cr dn f L.length w' C') {D : DM} (m1 : D.cells = C.map RC.m) (m2 : D.waits = L.map RL.m) : (D.settle f).cells = C'.map RC.m := by
  show settleK D.cells D.waits f D.waits.length = _
  rw [u.cells, m1, m2, List.length_map]
set_option maxRecDepth 100000 in
set_option maxHeartbeats 2000000 in
theorem sync3_any (k : RefAt3 w T h D) (hF : D.Few 1000000) :
    Calls Tryd.prog 34 #[.pointer (some ⟨h, 0, none⟩)] w fun e w' => e = .returned (.int .i64 D.sync.1) ∧ Ref3 w T h D.sync.2 w' := by
  have Hk := Lib.hid k
  obtain ⟨cv, wv, C, L, ar, tu, cr, dn, R, M⟩ := k
  have c5 := R.cell6.2.2.2.2.2
  have HR := Lib.hid R
  have HM := Lib.hid M
  have HF := Lib.hid hF
  clear R M hF
  cases hd : D.down with
  | true =>
    have Hw : Hid (D.sync = (11, D)) := Lib.hid (by unfold DM.sync; rw [if_pos hd])
    rw [HM.out.dn, hd] at c5
    clear hd
    go_enter Tryd.func34, Tryd.ntmps34
    go_wp2_with fail
    go_ret
    rw [Hw.out]
    exact ⟨rfl, Ref3.same Hk.out⟩
  | false =>
    rw [HM.out.dn, hd] at c5
    have hw0 : D.sync = if D.armed = 1 then (11, D.trips) else (0, D.turned.settle fun _ => 8) := by unfold DM.sync; rw [if_neg (by rw [hd]; decide)]
    by_cases ha : D.armed = 1
    · rw [if_pos ha] at hw0
      have Hw := Lib.hid hw0
      have h3 := HR.out
      rw [show ar = 1 by rw [HM.out.ar, ha]; rfl] at h3
      have HTn := Lib.hid (turn3_trips h3 ⟨by rw [HM.out.cr]; omega, by rw [HM.out.cr]; have := HF.out.cr; omega⟩)
      clear h3 hw0 ha hd
      go_enter Tryd.func34, Tryd.ntmps34
      go_wp2_with fail
      refine HTn.out.mono ?_
      rintro e w4 ⟨rfl, hd4, hc4⟩
      have HD4 := Lib.hid (And.intro hd4 hc4)
      clear hd4 hc4
      go_wp2_with fail
      go_ret
      rw [Hw.out]
      refine ⟨rfl, Ref3.of (HD4.out.1.mono (fun _ hj => .inl hj) (grow_lt HR.out.foot HD4.out.2.size)) ⟨HM.out.cells, HM.out.waits, rfl, HM.out.tu, ?_, rfl, Nat.zero_le _⟩ HD4.out.2⟩
      rw [HM.out.cr]; rfl
    · rw [if_neg ha] at hw0
      have Hw := Lib.hid hw0
      have HTn := Lib.hid (turn3_done HR.out (by rw [HM.out.ar]; omega) ⟨by rw [HM.out.ar]; omega, by rw [HM.out.ar]; have := HM.out.lo; omega⟩ ⟨by rw [HM.out.tu]; omega, by rw [HM.out.tu]; have := HF.out.tu; omega⟩)
      have Hd := Lib.hid hd
      have Hha := Lib.hid ha
      clear hw0 ha hd
      have hLl : L.length ≤ 1000000 := by have h1 := HF.out.ws; rw [HM.out.waits, List.length_map] at h1; exact h1
      go_enter Tryd.func34, Tryd.ntmps34
      go_wp2_with fail
      refine HTn.out.mono ?_
      rintro e w4 ⟨rfl, hd4, hc4⟩
      have HD4 := Lib.hid (And.intro hd4 hc4)
      clear hd4 hc4 c5
      go_wp2_with fail
      go_loopg [3] L.length (fun gk i wx => ∃ (q : Nat) (C' : List RC), gk = L.length - q ∧ q ≤ L.length ∧ i = .int .i64 (q : Int) ∧ Hid (Upto w4 T h cv wv C L (if 0 < ar then ar - 1 else 0) (tu + 1) cr dn (fun _ => 8) q wx C'))
      case atStart => exact ⟨0, C, rfl, Nat.zero_le _, rfl, Lib.hid (Upto.begin HD4.out.1 _)⟩
      case round =>
        obtain ⟨q, C', hgk, hq, rfl, hU⟩ := hrel
        have Hgk := Lib.hid hgk
        clear hgk
        by_cases hlt : q < L.length
        · obtain ⟨g, cap, hwv, h1, h2⟩ := hU.out.at_.wform (by omega)
          have c1 := hU.out.at_.cell6.2.1
          rw [hwv] at c1
          obtain ⟨e0, e1⟩ := hU.out.at_.wat hlt hwv
          have HS := Lib.hid (hU.out.store HD4.out.1.foot hlt 8 (by decide) rfl)
          have hi1 : (0 : Int) ≤ (q : Int) := by omega
          have hi2 : (q : Int) < (L.length : Int) := by omega
          clear hwv
          unfold RB.v at *
          go_wp2_with fail
          refine HS.out.mono ?_
          rintro e w2 ⟨rfl, C2, hU2⟩
          have HU2 := Lib.hid hU2
          clear hU2
          go_wp2_with fail
          go_roundg (L.length - (q + 1))
          case measure => rw [Hgk.out]; omega
          case rel => exact ⟨q + 1, C2, rfl, by omega, by go_num, HU2⟩
        · obtain rfl : q = L.length := by omega
          obtain ⟨X, cap, hwv, h1, h2⟩ := hU.out.at_.wslice
          have c1 := hU.out.at_.cell6.2.1
          have f1 := hU.out.at_.blk.free 1
          rw [hwv] at c1
          clear hwv
          go_wp2_with fail
          go_ret
          rw [Hw.out]
          have hR2 := hU.out.at_.setW0
          have hC2 : Chg T w (wr.setCell ⟨h, 1, none⟩ (.slice none 0 0)) := HD4.out.2.trans ((hU.out.fr.set (b := h) (i := 1) (.inl HD4.out.1.self) (.slice none 0 0)).mono (fun _ hj => .inl hj))
          refine ⟨rfl, Ref3.of (hR2.mono ?_ (grow_lt HR.out.foot hC2.size)) ⟨?_, rfl, ?_, ?_, HM.out.cr, HM.out.dn, ?_⟩ hC2⟩
          · rintro j (hj | hj)
            · exact .inl hj
            · exact .inr ⟨Nat.le_trans HD4.out.2.size hj.1, by rw [set_size]; exact hj.2⟩
          · exact hU.out.end_ (D := D) HM.out.cells HM.out.waits
          · show _ = (((D.armed - 1 : Nat)) : Int)
            rw [HM.out.ar]; split <;> omega
          · show _ = (((D.turns + 1 : Nat)) : Int)
            rw [HM.out.tu]; omega
          · show D.armed - 1 ≤ _
            have := HM.out.lo; omega
set_option maxRecDepth 100000 in
set_option maxHeartbeats 2000000 in
theorem wake3_any (k : RefAt3 w T h D) (hF : D.Few 1000000) (stay torn sectors : Int) :
    Calls Tryd.prog 38 #[.pointer (some ⟨h, 0, none⟩), .int .i64 stay, .int .i64 torn, .int .i64 sectors] w fun e w' => e = .returned (.int .i64 (D.wake stay torn sectors).1) ∧ Ref3 w T h (D.wake stay torn sectors).2 w' := by
  have Hk := Lib.hid k
  obtain ⟨cv, wv, C, L, ar, tu, cr, dn, R, M⟩ := k
  have c5 := R.cell6.2.2.2.2.2
  have HR := Lib.hid R
  have HM := Lib.hid M
  have HF := Lib.hid hF
  clear R M hF
  cases hd : D.down with
  | false =>
    have Hw : Hid (D.wake stay torn sectors = (16, D)) := Lib.hid (by unfold DM.wake; rw [if_neg (by rw [hd]; decide)])
    rw [HM.out.dn, hd] at c5
    clear hd
    go_enter Tryd.func38, Tryd.ntmps38
    go_wp2_with fail
    go_ret
    rw [Hw.out]
    exact ⟨rfl, Ref3.same Hk.out⟩
  | true =>
    rw [HM.out.dn, hd] at c5
    have Hw : Hid (D.wake stay torn sectors = (0, { D.settle (fate stay torn sectors) with armed := 0, down := false })) := Lib.hid (by unfold DM.wake; rw [if_pos hd])
    have Hd := Lib.hid hd
    clear hd
    have hLl : L.length ≤ 1000000 := by have h1 := HF.out.ws; rw [HM.out.waits, List.length_map] at h1; exact h1
    go_enter Tryd.func38, Tryd.ntmps38
    go_wp2_with fail
    clear c5
    go_loopg [9] L.length (fun gk i wx => ∃ (q : Nat) (C' : List RC), gk = L.length - q ∧ q ≤ L.length ∧ i = .int .i64 (q : Int) ∧ Hid (Upto w T h cv wv C L ar tu cr dn (fate stay torn sectors) q wx C'))
    case atStart => exact ⟨0, C, rfl, Nat.zero_le _, rfl, Lib.hid (Upto.begin HR.out _)⟩
    case round =>
      obtain ⟨q, C', hgk, hq, rfl, hU⟩ := hrel
      have Hgk := Lib.hid hgk
      clear hgk
      by_cases hlt : q < L.length
      · obtain ⟨g, cap, hwv, h1, h2⟩ := hU.out.at_.wform (by omega)
        have c1 := hU.out.at_.cell6.2.1
        rw [hwv] at c1
        obtain ⟨e0, e1⟩ := hU.out.at_.wat hlt hwv
        have hi1 : (0 : Int) ≤ (q : Int) := by omega
        have hi2 : (q : Int) < (L.length : Int) := by omega
        have hf8 := fate_le stay torn sectors q
        clear hwv
        unfold RB.v at *
        by_cases ht : (q : Int) = torn
        · subst ht
          have hfe : fate stay (q : Int) sectors q = (sectors % 9).toNat := by unfold fate; rw [if_pos rfl]
          have HS := Lib.hid (hU.out.store HR.out.foot hlt (sectors % 9).toNat (by omega) hfe)
          have hnn : (((sectors % 9).toNat : Nat) : Int) = sectors % 9 := Int.toNat_of_nonneg (Int.emod_nonneg _ (by decide))
          rw [hnn] at HS
          clear hfe hnn hf8
          have m3 := mod9 sectors
          obtain ⟨m4, m5⟩ := tmod_bd sectors 9 (by decide)
          go_wp2_with fail
          refine HS.out.mono ?_
          rintro e w2 ⟨rfl, C2, hU2⟩
          have HU2 := Lib.hid hU2
          clear hU2
          go_wp2_with fail
          go_roundg (L.length - (q + 1))
          case measure => rw [Hgk.out]; omega
          case rel => exact ⟨q + 1, C2, rfl, by omega, by go_num, HU2⟩
        · by_cases hbit : bits .and .i64 (stay / 2 ^ (q % 60)) 1 = 1
          · have hfe : fate stay torn sectors q = 8 := by unfold fate; rw [if_neg ht, if_pos hbit]
            have HS := Lib.hid (hU.out.store HR.out.foot hlt 8 (by decide) hfe)
            clear hfe hf8
            go_wp2_with fail
            refine HS.out.mono ?_
            rintro e w2 ⟨rfl, C2, hU2⟩
            have HU2 := Lib.hid hU2
            clear hU2
            go_wp2_with fail
            go_roundg (L.length - (q + 1))
            case measure => rw [Hgk.out]; omega
            case rel => exact ⟨q + 1, C2, rfl, by omega, by go_num, HU2⟩
          · have hfe : fate stay torn sectors q = 0 := by unfold fate; rw [if_neg ht, if_neg hbit]
            have HU2 := Lib.hid (hU.out.skip hlt hfe)
            clear hfe hf8
            go_wp2_with fail
            go_roundg (L.length - (q + 1))
            case measure => rw [Hgk.out]; omega
            case rel => exact ⟨q + 1, C', rfl, by omega, by go_num, HU2⟩
      · obtain rfl : q = L.length := by omega
        obtain ⟨X, cap, hwv, h1, h2⟩ := hU.out.at_.wslice
        have c1 := hU.out.at_.cell6.2.1
        have f1 := hU.out.at_.blk.free 1
        rw [hwv] at c1
        have k1 := hU.out.at_.setW0
        have k2 := k1.setA 0
        have k3 := k2.setD false
        have hc3 := ((hU.out.fr.set (b := h) (i := 1) (.inl HR.out.self) (.slice none 0 0)).set (b := h) (i := 2) (.inl HR.out.self) (.int .i64 0)).set (b := h) (i := 5) (.inl HR.out.self) (.bool false)
        have d2 := k1.cell6.2.2.1
        have g2 := k1.blk.free 2
        have d5 := k2.cell6.2.2.2.2.2
        have g5 := k2.blk.free 5
        have H3 := Lib.hid (And.intro k3 hc3)
        clear hwv k1 k2 k3 hc3
        go_wp2_with fail
        go_ret
        rw [Hw.out]
        refine ⟨rfl, Ref3.of (H3.out.1.mono ?_ (grow_lt HR.out.foot H3.out.2.size)) ⟨?_, rfl, rfl, HM.out.tu, HM.out.cr, rfl, Nat.zero_le _⟩ H3.out.2⟩
        · rintro j (hj | hj)
          · exact .inl hj
          · exact .inr ⟨hj.1, by rw [set_size, set_size, set_size]; exact hj.2⟩
        · exact hU.out.end_ (D := D) HM.out.cells HM.out.waits
end
end Go.Proofs.YtgjdoiblgbdebaaDoor
