/- The statements' own helpers: a row of bytes that was handed out is written over. -/
import Derived.Test.YtgjdoiblgbdebaaDoorKitApart
import Derived.Test.YtgjdoiblgbdebaaDoorKitBlock
namespace Go.Proofs.YtgjdoiblgbdebaaDoor
open Go.RowKit
theorem own_wide {w : World} {B n m cap g : Nat} {e : TypeId} {xs : List Value} (h : w.ownsRow B e 1 (.slice (some ⟨g, 0, none⟩) n cap) n xs) (hm : m ≤ cap) : ∃ ys, w.ownsRow B e 1 (.slice (some ⟨g, 0, none⟩) m cap) m ys := by
  rcases h.2 with ⟨h0, _⟩ | ⟨g1, cap1, cur, e1, hb, hg, hnc, hcm, hcs, ht⟩
  · cases h0
  · obtain ⟨rfl, rfl⟩ : g = g1 ∧ cap = cap1 := by simpa using e1
    refine ⟨cur.toList.take m, by rw [List.length_take, Array.length_toList]; omega, .inr ⟨g, cap, cur, rfl, hb, hg, hm, hcm, hcs, by rw [Nat.mul_one]⟩⟩
set_option maxRecDepth 100000 in
set_option maxHeartbeats 2000000 in
theorem overBytes_any (w : World) (B n : Nat) (v : Value) (xs : List Value) (h : w.ownsRow B 5 1 v n xs) (hn : n ≤ 140737488351232) :
    Calls Tryd.prog 30 #[v] w fun e w' => e = .returned (.tuple #[]) ∧ w.grownBy w' v.ownBlock := by
  rcases h.2 with ⟨rfl, hn0⟩ | ⟨g, cap, cur, rfl, hb, hg, hnc, hcm, hcs, ht⟩
  · obtain rfl : n = 0 := by omega
    clear h
    go_enter Tryd.func30, Tryd.ntmps30
    go_wp2_with fail
    go_loopg [3] 0 (fun g i wx => g = 0 ∧ i = .int .i64 0 ∧ wx = w)
    case atStart => exact ⟨rfl, rfl, rfl⟩
    case round =>
      obtain ⟨_, rfl, rfl⟩ := hrel
      go_wp2_with fail
      go_end0
      exact ⟨rfl, World.grownBy.refl _ _⟩
  · unfold maxLen at hcm
    by_cases hc : cap ≤ n + 12
    · obtain ⟨ys, hys⟩ := own_wide h (Nat.le_refl cap)
      have H := Lib.hid hys
      have hci : (cap : Int) ≤ (n : Int) + 12 := by omega
      clear h hys hg hcs ht
      go_enter Tryd.func30, Tryd.ntmps30
      go_wp2_with fail
      go_loopg [3] cap (fun gk i wx => ∃ (q : Nat) (zs : List Value), gk = cap - q ∧ q ≤ cap ∧ i = .int .i64 (q : Int) ∧ wx.ownsRow B 5 1 (.slice (some ⟨g, 0, none⟩) cap cap) cap zs ∧ Hid (w.grownBy wx (some g)))
      case atStart => exact ⟨0, ys, rfl, Nat.zero_le _, rfl, H.out, Lib.hid (World.grownBy.refl _ _)⟩
      case round =>
        obtain ⟨q, zs, hgk, hq, rfl, hown, hgr⟩ := hrel
        have Hgk := Lib.hid hgk; clear hgk
        by_cases hlt : q < cap
        · have HMk := Lib.hid (markByte_any 2 q wr (by decide) (by omega))
          obtain ⟨z, hz⟩ : ∃ z, wr.cell? ⟨g, q, none⟩ = some z := by
            rw [hown.cellAt q (by omega)]
            exact ⟨_, List.getElem?_eq_getElem (by have := hown.1; omega)⟩
          have f1 := hown.frozenAt q
          have HS := Lib.hid (And.intro (hown.stored q (.int .u8 (mkB 2 q))).1 (hgr.out.trans (hown.stored q (.int .u8 (mkB 2 q))).2))
          clear hown
          go_wp2_with fail
          refine HMk.out.mono ?_
          rintro e w' ⟨rfl, rfl⟩
          go_wp2_with fail
          go_roundg (cap - (q + 1))
          case measure => rw [Hgk.out]; omega
          case rel => exact ⟨q + 1, _, rfl, by omega, by go_num, HS.out.1, Lib.hid HS.out.2⟩
        · obtain rfl : q = cap := by omega
          go_wp2_with fail
          go_end0
          exact ⟨rfl, hgr.out⟩
    · obtain ⟨ys, hys⟩ := own_wide h (show n + 12 ≤ cap by omega)
      have H := Lib.hid hys
      have hci : ¬ (cap : Int) ≤ (n : Int) + 12 := by omega
      have hci2 : (n : Int) + 12 < (cap : Int) := by omega
      have htn : ((n : Int) + 12).toNat = n + 12 := by omega
      clear h hys hg hcs ht
      go_enter Tryd.func30, Tryd.ntmps30
      go_wp2_with fail
      go_loopg [3] (n + 12) (fun gk i wx => ∃ (q : Nat) (zs : List Value), gk = (n + 12) - q ∧ q ≤ n + 12 ∧ i = .int .i64 (q : Int) ∧ wx.ownsRow B 5 1 (.slice (some ⟨g, 0, none⟩) (n + 12) cap) (n + 12) zs ∧ Hid (w.grownBy wx (some g)))
      case atStart => exact ⟨0, ys, rfl, Nat.zero_le _, rfl, H.out, Lib.hid (World.grownBy.refl _ _)⟩
      case round =>
        obtain ⟨q, zs, hgk, hq, rfl, hown, hgr⟩ := hrel
        have Hgk := Lib.hid hgk; clear hgk
        by_cases hlt : q < n + 12
        · have HMk := Lib.hid (markByte_any 2 q wr (by decide) (by omega))
          obtain ⟨z, hz⟩ : ∃ z, wr.cell? ⟨g, q, none⟩ = some z := by
            rw [hown.cellAt q (by omega)]
            exact ⟨_, List.getElem?_eq_getElem (by have := hown.1; omega)⟩
          have f1 := hown.frozenAt q
          have HS := Lib.hid (And.intro (hown.stored q (.int .u8 (mkB 2 q))).1 (hgr.out.trans (hown.stored q (.int .u8 (mkB 2 q))).2))
          clear hown
          go_wp2_with fail
          refine HMk.out.mono ?_
          rintro e w' ⟨rfl, rfl⟩
          go_wp2_with fail
          go_roundg ((n + 12) - (q + 1))
          case measure => rw [Hgk.out]; omega
          case rel => exact ⟨q + 1, _, rfl, by omega, by go_num, HS.out.1, Lib.hid HS.out.2⟩
        · obtain rfl : q = n + 12 := by omega
          go_wp2_with fail
          go_end0
          exact ⟨rfl, hgr.out⟩
end Go.Proofs.YtgjdoiblgbdebaaDoor
