/- The statements' own helpers: a row of bytes of a block of any type is written over. -/
import Derived.Test.YtgjdoiblgbdebaaDoorKitOver
import Derived.Test.YtgjdoiblgbdebaaDoorKitB
namespace Go.Proofs.YtgjdoiblgbdebaaDoor
open Go.RowKit
set_option maxRecDepth 100000 in
set_option maxHeartbeats 2000000 in
theorem overRow_any (w : World) (g n cap : Nat) (cs : Array Value) (t : TypeId) (hg : BlockIs w g t cs) (hm : (if cap ≤ n + 12 then cap else n + 12) ≤ cs.size) (hn : n ≤ 140737488351232) (hc : cap ≤ 9223372036854775807) :
    Calls Tryd.prog 30 #[.slice (some ⟨g, 0, none⟩) n cap] w fun e w' => e = .returned (.tuple #[]) ∧ w.grownBy w' (some g) := by
  have H := Lib.hid hg
  clear hg
  by_cases hcc : cap ≤ n + 12
  · rw [if_pos hcc] at hm
    have hci : (cap : Int) ≤ (n : Int) + 12 := by omega
    go_enter Tryd.func30, Tryd.ntmps30
    go_wp2_with fail
    go_loopg [3] cap (fun gk i wx => ∃ (q : Nat) (zs : Array Value), gk = cap - q ∧ q ≤ cap ∧ i = .int .i64 (q : Int) ∧ zs.size = cs.size ∧ BlockIs wx g t zs ∧ Hid (w.grownBy wx (some g)))
    case atStart => exact ⟨0, cs, rfl, Nat.zero_le _, rfl, rfl, H.out, Lib.hid (World.grownBy.refl _ _)⟩
    case round =>
      obtain ⟨q, zs, hgk, hq, rfl, hsz, hb, hgr⟩ := hrel
      have Hgk := Lib.hid hgk; clear hgk
      by_cases hlt : q < cap
      · have HMk := Lib.hid (markByte_any 2 q wr (by decide) (by omega))
        obtain ⟨z, hz⟩ : ∃ z, wr.cell? ⟨g, q, none⟩ = some z := by
          rw [hb.cell]
          exact ⟨_, Array.getElem?_eq_getElem (by omega)⟩
        have f1 := hb.free q
        have HS := Lib.hid (And.intro (hb.set1 q (.int .u8 (mkB 2 q))) (And.intro (grown_at hgr.out q (.int .u8 (mkB 2 q))) hsz))
        clear hb hsz
        go_wp2_with fail
        refine HMk.out.mono ?_
        rintro e w' ⟨rfl, rfl⟩
        go_wp2_with fail
        go_roundg (cap - (q + 1))
        case measure => rw [Hgk.out]; omega
        case rel => exact ⟨q + 1, _, rfl, by omega, by go_num, by rw [Array.size_setIfInBounds]; exact HS.out.2.2, HS.out.1, Lib.hid HS.out.2.1⟩
      · obtain rfl : q = cap := by omega
        go_wp2_with fail
        go_end0
        exact ⟨rfl, hgr.out⟩
  · rw [if_neg hcc] at hm
    have hci : ¬ (cap : Int) ≤ (n : Int) + 12 := by omega
    have hci2 : (n : Int) + 12 < (cap : Int) := by omega
    have htn : ((n : Int) + 12).toNat = n + 12 := by omega
    go_enter Tryd.func30, Tryd.ntmps30
    go_wp2_with fail
    go_loopg [3] (n + 12) (fun gk i wx => ∃ (q : Nat) (zs : Array Value), gk = (n + 12) - q ∧ q ≤ n + 12 ∧ i = .int .i64 (q : Int) ∧ zs.size = cs.size ∧ BlockIs wx g t zs ∧ Hid (w.grownBy wx (some g)))
    case atStart => exact ⟨0, cs, rfl, Nat.zero_le _, rfl, rfl, H.out, Lib.hid (World.grownBy.refl _ _)⟩
    case round =>
      obtain ⟨q, zs, hgk, hq, rfl, hsz, hb, hgr⟩ := hrel
      have Hgk := Lib.hid hgk; clear hgk
      by_cases hlt : q < n + 12
      · have HMk := Lib.hid (markByte_any 2 q wr (by decide) (by omega))
        obtain ⟨z, hz⟩ : ∃ z, wr.cell? ⟨g, q, none⟩ = some z := by
          rw [hb.cell]
          exact ⟨_, Array.getElem?_eq_getElem (by omega)⟩
        have f1 := hb.free q
        have HS := Lib.hid (And.intro (hb.set1 q (.int .u8 (mkB 2 q))) (And.intro (grown_at hgr.out q (.int .u8 (mkB 2 q))) hsz))
        clear hb hsz
        go_wp2_with fail
        refine HMk.out.mono ?_
        rintro e w' ⟨rfl, rfl⟩
        go_wp2_with fail
        go_roundg ((n + 12) - (q + 1))
        case measure => rw [Hgk.out]; omega
        case rel => exact ⟨q + 1, _, rfl, by omega, by go_num, by rw [Array.size_setIfInBounds]; exact HS.out.2.2, HS.out.1, Lib.hid HS.out.2.1⟩
      · obtain rfl : q = n + 12 := by omega
        go_wp2_with fail
        go_end0
        exact ⟨rfl, hgr.out⟩
set_option maxRecDepth 100000 in
theorem overNil_any (w : World) : Calls Tryd.prog 30 #[.slice none 0 0] w fun e w' => e = .returned (.tuple #[]) ∧ w = w' := by
  go_enter Tryd.func30, Tryd.ntmps30
  go_wp2_with fail
  go_loopg [3] 0 (fun g i wx => g = 0 ∧ i = .int .i64 0 ∧ wx = w)
  case atStart => exact ⟨rfl, rfl, rfl⟩
  case round =>
    obtain ⟨_, rfl, rfl⟩ := hrel
    go_wp2_with fail
    go_end0
    exact ⟨rfl, rfl⟩
/-- What was lent is written over. -/
theorem overLent_any (w : World) (v : Value) (zs : List Int) (h : LentAt w v zs) (hl : zs.length ≤ 140737488351232) :
    Calls Tryd.prog 30 #[v] w fun e w' => e = .returned (.tuple #[]) ∧ w.grownBy w' v.ownBlock := by
  obtain ⟨g, cap, cs, rfl, h1, h2, h3, h4, h5⟩ := h
  refine overRow_any w g zs.length cap cs 5 h3 ?_ hl h2
  have := congrArg List.length h4
  rw [List.length_take, u8s_len, List.length_append, marksTo_len] at this
  have h6 : cs.toList.length = cs.size := Array.length_toList
  split <;> omega
end Go.Proofs.YtgjdoiblgbdebaaDoor
