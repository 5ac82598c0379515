/- The statements' own helpers: a row of bytes that was lent is, with its marks, as it was. -/
import Derived.Test.YtbkecaenjjlmoaaGreatDoorKitB
namespace Go.Proofs.YtbkecaenjjlmoaaGreatDoor
open Go.RowKit
theorem lent_cell {w : World} {g n : Nat} {cs : Array Value} {zs : List Int} {t : TypeId} (hg : w.heap[g]? = some (.cells cs t (0, 0))) (ht : cs.toList.take n = u8s zs) (i : Nat) (hi : i < zs.length) : w.cell? ⟨g, i, none⟩ = some (.int .u8 (zs.getD i 0)) := by
  rw [cell_of_row _ _ _ _ _ _ hg]
  have hl : (u8s zs)[i]? = some (.int .u8 (zs.getD i 0)) := by
    simp [u8s, List.getD_eq_getElem?_getD, List.getElem?_eq_getElem hi]
  rw [← ht] at hl
  have hn : i < n := by
    rcases Nat.lt_or_ge i n with h | h
    · exact h
    · rw [List.getElem?_take_eq_none h] at hl; cases hl
  rw [List.getElem?_take_of_lt hn, Array.getElem?_toList] at hl
  exact hl
theorem marks_at (zs : List Int) (k : Nat) (hk : k < 12) : (zs ++ marksTo 12).getD (zs.length + k) 0 = mk k := by
  rw [List.getD_eq_getElem?_getD, List.getElem?_append_right (Nat.le_add_right _ _), Nat.add_sub_cancel_left]
  unfold marksTo
  simp [hk]
theorem front_at (zs ms : List Int) (i : Nat) (hi : i < zs.length) : (zs ++ ms).getD i 0 = zs.getD i 0 := by
  rw [List.getD_eq_getElem?_getD, List.getD_eq_getElem?_getD, List.getElem?_append_left hi]
theorem markByte_quiet (x : Int) (i : Nat) (w : World) (hi : i < 12) (hx : x = (i : Int)) :
    Calls Tryz.prog 19 #[.int .i64 1, .int .i64 x] w fun e w' => e = .returned (.int .u8 (mk i)) ∧ w' = w := by
  subst hx
  exact (markByte_at i w hi).mono fun _ _ h => ⟨h.1, h.2.symm⟩
theorem sub_back (n k : Nat) : ((n : Int) + (k : Int) - (n : Int)) = (k : Int) := by omega
set_option maxRecDepth 100000 in
set_option maxHeartbeats 800000 in
theorem keptBytes_any (zs : List Int) (v : Value) (A : Option Addr) (c : Nat) (w : World) (hv : LentAt w v zs) (hz : BytesAt w A zs) (hl : zs.length ≤ 140737488351232) :
    Calls Tryz.prog 14 #[v, .slice A zs.length c] w fun e w' => e = .returned (.bool true) ∧ ∃ n, w' = w.drewN n := by
  obtain ⟨g, cap, cs, rfl, hcap, hcm, hg, ht, hr⟩ := hv
  have hne : ((zs.length : Int) != (zs.length : Int)) = false := by simp
  go_enter Tryz.func14, Tryz.ntmps14
  go_wp2_with fail
  go_loopg [6] (zs.length + 12) (fun gg i wx => (∃ nq, wx = w.drewN nq) ∧ ∃ k : Nat, gg = zs.length + 12 - k ∧ k ≤ zs.length + 12 ∧ i = .int .i64 (k : Int))
  case atStart => exact ⟨⟨0, rfl⟩, 0, rfl, by omega, rfl⟩
  case round =>
    obtain ⟨⟨nq, rfl⟩, k, hgk, hk, rfl⟩ := hrel
    have Hgk := Lib.hid hgk; clear hgk
    by_cases hlt : k < zs.length
    · obtain ⟨b, off, rfl⟩ := hz.some_ (by intro e; simp [e] at hlt)
      have c1 := lent_cell hg ht k (by rw [List.length_append, marksTo_len]; omega)
      have c2 := hz.one k hlt
      rw [front_at _ _ _ hlt] at c1
      generalize zs.getD k 0 = z at c1 c2
      have hge : ¬ zs.length ≤ k := by omega
      have hlt12 : k < zs.length + 12 := by omega
      go_wp2_with fail
      go_quiet (fail)
      go_wp2_with fail
      go_roundg (zs.length + 12 - (k + 1))
      case measure => rw [Hgk.out]; omega
      case rel => exact ⟨⟨_, rfl⟩, k + 1, rfl, by omega, by go_num⟩
    · by_cases hlt12 : k < zs.length + 12
      · obtain ⟨j, rfl⟩ : ∃ j, k = zs.length + j := ⟨k - zs.length, by omega⟩
        have hj : j < 12 := by omega
        have hgW : (w.drewN nq).heap[g]? = some (.cells cs 5 (0, 0)) := hg
        obtain ⟨W, hW⟩ : ∃ W, w.drewN nq = W := ⟨_, rfl⟩
        rw [hW] at hgW ⊢
        have HW := Lib.hid hW
        clear hW hg hz
        have c1 := lent_cell hgW ht (zs.length + j) (by rw [List.length_append, marksTo_len]; omega)
        rw [marks_at _ _ hj] at c1
        have hge : decide ((zs.length : Int) ≤ (zs.length : Int) + (j : Int)) = true := decide_eq_true (by omega)
        have hnl : decide ((zs.length : Int) + (j : Int) < (zs.length : Int)) = false := decide_eq_false (by omega)
        go_wp2_with fail
        go_quiet ((go_at_call 19; exact Calls.quiet_of_same (markByte_quiet _ j _ hj (by omega))))
        go_wp2_with fail
        go_roundg (zs.length + 12 - (zs.length + j + 1))
        case measure => rw [Hgk.out]; omega
        case rel => exact ⟨⟨_, by rw [← HW.out]; exact World.drewN_drewN _ _ _⟩, zs.length + j + 1, rfl, by omega, by go_num⟩
      · obtain rfl : k = zs.length + 12 := by omega
        go_wp2_with fail
        go_ret
        exact ⟨rfl, _, rfl⟩
end Go.Proofs.YtbkecaenjjlmoaaGreatDoor
