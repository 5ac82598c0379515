/- A part taken into a sum: the words of four bytes, and what is left over. -/
import Derived.Test.YtdmomeeilibnmaaDoorMixTable
namespace Go.Proofs.YtdmomeeilibnmaaDoor
open Go.RowKit
theorem BytesAt.tail4 {w : World} {b off : Nat} {z0 z1 z2 z3 : Int} {rest : List Int} (h : BytesAt w (some ⟨b, off, none⟩) (z0 :: z1 :: z2 :: z3 :: rest)) : BytesAt w (some ⟨b, off + 4, none⟩) rest := by
  refine ⟨fun z hz => h.1 z (by simp [hz]), fun _ => ⟨b, off + 4, rfl, fun i hi => ?_⟩⟩
  obtain ⟨b', off', e, hc⟩ := h.2 (by simp)
  obtain ⟨rfl, rfl⟩ : b = b' ∧ off = off' := by simpa using e
  have := hc (i + 4) (by simp; omega)
  rw [show off + 4 + i = off + (i + 4) by omega]
  simpa using this
theorem BytesAt.nil (w : World) (A : Option Addr) : BytesAt w A [] := ⟨(fun z hz => by cases hz), (fun h => absurd rfl h)⟩
theorem BytesAt.one {w : World} {b off : Nat} {zs : List Int} (h : BytesAt w (some ⟨b, off, none⟩) zs) (i : Nat) (hi : i < zs.length) : w.cell? ⟨b, off + i, none⟩ = some (.int .u8 (zs.getD i 0)) := by
  obtain ⟨b', off', e, hc⟩ := h.2 (by intro e; simp [e] at hi)
  obtain ⟨rfl, rfl⟩ : b = b' ∧ off = off' := by simpa using e
  exact hc i hi
theorem BytesAt.some_ {w : World} {A : Option Addr} {zs : List Int} (h : BytesAt w A zs) (hne : zs ≠ []) : ∃ b off, A = some ⟨b, off, none⟩ := by
  obtain ⟨b, off, e, _⟩ := h.2 hne
  exact ⟨b, off, e⟩
set_option maxRecDepth 100000 in
set_option maxHeartbeats 1000000 in
theorem addPart_any (c : BitVec 32) (zs : List Int) (A : Option Addr) (tb cap : Nat) (w : World) (hz : BytesAt w A zs) (ht : TabAt w tb) (hcap : zs.length ≤ cap) (hm : cap ≤ 9223372036854775807) :
    Calls Tryd.prog 23 #[.pointer (some ⟨tb, 0, none⟩), .int .u32 (c.toNat : Int), .slice A zs.length cap] w fun e w' => e = .returned (.int .u32 ((Mx.crc c zs).toNat : Int)) ∧ ∃ n, w' = w.drewN n := by
  go_enter Tryd.func23, Tryd.ntmps23
  go_wp2_with fail
  go_loopg [1, 2] zs.length (fun g s v wx => (∃ nq, wx = w.drewN nq) ∧ ∃ (d : BitVec 32) (ys : List Int) (B : Option Addr) (k : Nat), g = ys.length ∧ s = .int .u32 (d.toNat : Int) ∧ v = .slice B ys.length k ∧ ys.length ≤ k ∧ k ≤ cap ∧ BytesAt w B ys ∧ Hid (Mx.crc d ys = Mx.crc c zs))
  case atStart => exact ⟨⟨0, rfl⟩, c, zs, A, cap, rfl, rfl, rfl, hcap, Nat.le_refl _, hz, Lib.hid rfl⟩
  case round =>
    obtain ⟨⟨nq, rfl⟩, d, ys, B, k, hg, rfl, rfl, hk, hkc, hb, hd⟩ := hrel
    have Hg := Lib.hid hg; clear hg
    match ys, hb with
    | z0 :: z1 :: z2 :: z3 :: rest, hb =>
      obtain ⟨b, off, rfl⟩ := hb.some_ (by simp)
      have c0 := hb.one 0 (by simp)
      have c1 := hb.one 1 (by simp)
      have c2 := hb.one 2 (by simp)
      have c3 := hb.one 3 (by simp)
      simp only [Nat.add_zero, List.getD_cons_zero, List.getD_cons_succ] at c0 c1 c2 c3
      have g0 := hb.1 z0 (by simp)
      have g1 := hb.1 z1 (by simp)
      have g2 := hb.1 z2 (by simp)
      have g3 := hb.1 z3 (by simp)
      simp only [List.length_cons] at hk ⊢
      by_cases h4 : k = 4
      · subst h4
        obtain rfl : rest = [] := List.eq_nil_of_length_eq_zero (by omega)
        go_wp2_with fail
        refine (addWord_any d z0 z1 z2 z3 tb b off _ _ (w.drewN nq) g0 g1 g2 g3 ?_ c0 c1 c2 c3 (ht.drewN _)).mono ?_
        · exact Nat.le_refl _
        rintro e w' ⟨rfl, n2, rfl⟩
        go_wp2_with fail
        go_roundg 0
        case measure => rw [Hg.out]; simp
        case rel => exact ⟨⟨_, rfl⟩, Mx.crc d [z0, z1, z2, z3], [], some ⟨b, off, none⟩, 0, rfl, rfl, rfl, by simp, by omega, BytesAt.nil _ _, Lib.hid hd.out⟩
      · go_wp2_with fail
        refine (addWord_any d z0 z1 z2 z3 tb b off _ _ (w.drewN nq) g0 g1 g2 g3 ?_ c0 c1 c2 c3 (ht.drewN _)).mono ?_
        · omega
        rintro e w' ⟨rfl, n2, rfl⟩
        go_wp2_with fail
        go_roundg rest.length
        case measure => rw [Hg.out]; simp; omega
        case rel => exact ⟨⟨_, rfl⟩, Mx.crc d [z0, z1, z2, z3], rest, some ⟨b, off + 4, none⟩, k - 4, rfl, rfl, rfl, by omega, by omega, BytesAt.tail4 hb, Lib.hid hd.out⟩
    | [z0, z1, z2], hb =>
      obtain ⟨b, off, rfl⟩ := hb.some_ (by simp)
      have c0 := hb.one 0 (by simp)
      have c1 := hb.one 1 (by simp)
      have c2 := hb.one 2 (by simp)
      simp only [Nat.add_zero, List.getD_cons_zero, List.getD_cons_succ] at c0 c1 c2
      have g0 := hb.1 z0 (by simp)
      have g1 := hb.1 z1 (by simp)
      have g2 := hb.1 z2 (by simp)
      simp only [List.length_cons, List.length_nil] at hk ⊢
      go_wp2_with fail
      refine (addByte_any d z0 tb _ g0.1 g0.2 (ht.drewN _)).mono ?_
      rintro e w' ⟨rfl, n2, rfl⟩
      go_wp2_with fail
      refine (addByte_any _ z1 tb _ g1.1 g1.2 (ht.drewN _)).mono ?_
      rintro e w' ⟨rfl, n3, rfl⟩
      go_wp2_with fail
      refine (addByte_any _ z2 tb _ g2.1 g2.2 (ht.drewN _)).mono ?_
      rintro e w' ⟨rfl, n4, rfl⟩
      go_wp2_with fail
      go_ret
      exact ⟨ret_int (by rw [← hd.out]; rfl), _, rfl⟩
    | [z0, z1], hb =>
      obtain ⟨b, off, rfl⟩ := hb.some_ (by simp)
      have c0 := hb.one 0 (by simp)
      have c1 := hb.one 1 (by simp)
      simp only [Nat.add_zero, List.getD_cons_zero, List.getD_cons_succ] at c0 c1
      have g0 := hb.1 z0 (by simp)
      have g1 := hb.1 z1 (by simp)
      simp only [List.length_cons, List.length_nil] at hk ⊢
      go_wp2_with fail
      refine (addByte_any d z0 tb _ g0.1 g0.2 (ht.drewN _)).mono ?_
      rintro e w' ⟨rfl, n2, rfl⟩
      go_wp2_with fail
      refine (addByte_any _ z1 tb _ g1.1 g1.2 (ht.drewN _)).mono ?_
      rintro e w' ⟨rfl, n3, rfl⟩
      go_wp2_with fail
      go_ret
      exact ⟨ret_int (by rw [← hd.out]; rfl), _, rfl⟩
    | [z0], hb =>
      obtain ⟨b, off, rfl⟩ := hb.some_ (by simp)
      have c0 := hb.one 0 (by simp)
      simp only [Nat.add_zero, List.getD_cons_zero] at c0
      have g0 := hb.1 z0 (by simp)
      simp only [List.length_cons, List.length_nil] at hk ⊢
      go_wp2_with fail
      refine (addByte_any d z0 tb _ g0.1 g0.2 (ht.drewN _)).mono ?_
      rintro e w' ⟨rfl, n2, rfl⟩
      go_wp2_with fail
      go_ret
      exact ⟨ret_int (by rw [← hd.out]; rfl), _, rfl⟩
    | [], hb =>
      simp only [List.length_nil] at hk ⊢
      go_wp2_with fail
      go_ret
      exact ⟨ret_int (by rw [← hd.out]; rfl), _, rfl⟩
end Go.Proofs.YtdmomeeilibnmaaDoor
