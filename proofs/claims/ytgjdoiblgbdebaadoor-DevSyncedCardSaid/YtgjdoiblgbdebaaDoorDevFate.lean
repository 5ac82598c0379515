/- What becomes of a write that waits: the closures of Sync, of Wake. -/
import Derived.Test.YtgjdoiblgbdebaaDoorDevStore
namespace Go.Proofs.YtgjdoiblgbdebaaDoor
open Go.RowKit
set_option maxRecDepth 100000 in
theorem fate_sync (i : Nat) (w : World) : Calls Tryd.prog 51 #[.int .i64 (i : Int)] w fun e w' => e = .returned (.int .i64 ((8 : Nat) : Int)) ∧ w = w' := by
  go_enter Tryd.func51, Tryd.ntmps51
  go_wp2
  go_ret
  exact ⟨rfl, rfl⟩
theorem ret_nat {a b : Nat} (h : a = b) : Ending.returned (.int .i64 (a : Int)) = .returned (.int .i64 (b : Int)) := by rw [h]
set_option maxRecDepth 100000 in
theorem fate_wake (i : Nat) (hi : i ≤ 1000000000) (stay torn sectors : Int) (part : Nat) (hp : part = (sectors % 9).toNat) (bt bp bs : Nat) (w : World) (c1 : w.cell? ⟨bt, 0, none⟩ = some (.int .i64 torn)) (c2 : w.cell? ⟨bp, 0, none⟩ = some (.int .i64 (part : Int))) (c3 : w.cell? ⟨bs, 0, none⟩ = some (.int .i64 stay)) :
    Calls Tryd.prog 56 #[.int .i64 (i : Int), .pointer (some ⟨bt, 0, none⟩), .pointer (some ⟨bp, 0, none⟩), .pointer (some ⟨bs, 0, none⟩)] w fun e w' => e = .returned (.int .i64 ((fate stay torn sectors i : Nat) : Int)) ∧ w = w' := by
  obtain ⟨x, hx⟩ : ∃ x, fate stay torn sectors i = x := ⟨_, rfl⟩
  rw [hx]
  by_cases h1 : (i : Int) = torn
  · have Hx : Hid (part = x) := Lib.hid (by rw [← hx, hp]; unfold fate; rw [if_pos h1])
    clear hx hp
    go_enter Tryd.func56, Tryd.ntmps56
    go_wp2
    go_ret
    exact ⟨ret_nat Hx.out, rfl⟩
  · by_cases h2 : bits .and .i64 (stay / 2 ^ (i % 60)) 1 = 1
    · have Hx : Hid (8 = x) := Lib.hid (by rw [← hx]; unfold fate; rw [if_neg h1, if_pos h2])
      clear hx hp
      go_enter Tryd.func56, Tryd.ntmps56
      go_wp2
      go_ret
      exact ⟨ret_nat Hx.out, rfl⟩
    · have Hx : Hid (0 = x) := Lib.hid (by rw [← hx]; unfold fate; rw [if_neg h1, if_neg h2])
      clear hx hp
      go_enter Tryd.func56, Tryd.ntmps56
      go_wp2
      go_ret
      exact ⟨ret_nat Hx.out, rfl⟩
end Go.Proofs.YtgjdoiblgbdebaaDoor
