/- The statements' own helpers: a number brought into a range; are two rows of bytes the same. -/
import Derived.Test.YtgjdoiblgbdebaaDoorKitBase
namespace Go.Proofs.YtgjdoiblgbdebaaDoor
open Go.RowKit
theorem ret_bool {a b : Bool} (h : a = b) : Ending.returned (.bool a) = .returned (.bool b) := by rw [h]
theorem pick_neg (x n : Int) (hn : 0 < n) (h : x.tmod n < 0) : x.tmod n + n = x % n := by
  have h1 := Int.tmod_eq_emod (a := x) (b := n)
  have h2 := Int.emod_nonneg x (show n ≠ 0 by omega)
  have h3 := Int.emod_lt_of_pos x hn
  by_cases hc : 0 ≤ x ∨ n ∣ x
  · rw [if_pos hc] at h1; omega
  · rw [if_neg hc] at h1; omega
theorem pick_pos (x n : Int) (hn : 0 < n) (h : ¬ x.tmod n < 0) : x.tmod n = x % n := by
  have h1 := Int.tmod_eq_emod (a := x) (b := n)
  have h2 := Int.emod_nonneg x (show n ≠ 0 by omega)
  have h3 := Int.emod_lt_of_pos x hn
  by_cases hc : 0 ≤ x ∨ n ∣ x
  · rw [if_pos hc] at h1; omega
  · rw [if_neg hc] at h1; omega
theorem tmod_bd (x n : Int) (hn : 0 < n) : -n < x.tmod n ∧ x.tmod n < n := by
  have h1 := Int.tmod_eq_emod (a := x) (b := n)
  have h2 := Int.emod_nonneg x (show n ≠ 0 by omega)
  have h3 := Int.emod_lt_of_pos x hn
  by_cases hc : 0 ≤ x ∨ n ∣ x
  · rw [if_pos hc] at h1; omega
  · rw [if_neg hc] at h1
    by_cases h0 : x % n = 0
    · exact absurd (.inr (Int.dvd_of_emod_eq_zero h0)) hc
    · omega
set_option maxRecDepth 100000 in
theorem pick_any (x n : Int) (w : World) (hn : 1 ≤ n) (_hu : n ≤ 9223372036854775807) :
    Calls Tryd.prog 17 #[.int .i64 x, .int .i64 n] w fun e w' => e = .returned (.int .i64 (x % n)) ∧ w = w' := by
  have hb := tmod_bd x n (by omega)
  have h1 : ¬ n < 1 := by omega
  by_cases hneg : x.tmod n < 0
  · have He := Lib.hid (pick_neg x n (by omega) hneg)
    go_enter Tryd.func17, Tryd.ntmps17
    go_wp2
    go_ret
    exact ⟨ret_int He.out, rfl⟩
  · have He := Lib.hid (pick_pos x n (by omega) hneg)
    go_enter Tryd.func17, Tryd.ntmps17
    go_wp2
    go_ret
    exact ⟨ret_int He.out, rfl⟩
def sameB (xs ys : List Int) : Bool := decide (xs = ys)
theorem same_len (xs ys : List Int) (h : xs.length ≠ ys.length) : sameB xs ys = false := by unfold sameB; exact decide_eq_false (fun e => h (by rw [e]))
theorem same_all (xs ys : List Int) (k : Nat) (h : xs.take k = ys.take k) (hx : k = xs.length) (hy : xs.length = ys.length) : sameB xs ys = true := by
  unfold sameB; rw [hx, List.take_length, hy, List.take_length] at h; exact decide_eq_true h
theorem same_not (xs ys : List Int) (k : Nat) (_ : k < xs.length) (_ : k < ys.length) (h : (xs.getD k 0 != ys.getD k 0) = true) : sameB xs ys = false := by
  unfold sameB; refine decide_eq_false (fun e => ?_); subst e; simp at h
theorem same_next (xs ys : List Int) (k : Nat) (hx : k < xs.length) (hy : k < ys.length) (hp : xs.take k = ys.take k) (h : (xs.getD k 0 != ys.getD k 0) = false) : xs.take (k + 1) = ys.take (k + 1) := by
  rw [List.take_add_one, List.take_add_one, hp, List.getElem?_eq_getElem hx, List.getElem?_eq_getElem hy]
  simp only [List.getD_eq_getElem?_getD, List.getElem?_eq_getElem hx, List.getElem?_eq_getElem hy, Option.getD_some] at h
  have : xs[k] = ys[k] := by simpa using h
  rw [this]
set_option maxRecDepth 100000 in
set_option maxHeartbeats 1000000 in
theorem sameBytes_any (xs ys : List Int) (A B : Option Addr) (ca cb : Nat) (w : World) (ha : BytesAt w A xs) (hb : BytesAt w B ys) (_hx : xs.length ≤ 9223372036854775807) :
    Calls Tryd.prog 24 #[.slice A xs.length ca, .slice B ys.length cb] w fun e w' => e = .returned (.bool (sameB xs ys)) ∧ ∃ n, w' = w.drewN n := by
  by_cases hl : xs.length = ys.length
  · have hne : ((xs.length : Int) != (ys.length : Int)) = false := by rw [hl]; simp
    have Hl := Lib.hid hl; clear hl
    go_enter Tryd.func24, Tryd.ntmps24
    go_wp2_with fail
    go_loopg [5] xs.length (fun g i wx => (∃ nq, wx = w.drewN nq) ∧ ∃ k : Nat, k ≤ xs.length ∧ g = xs.length - k ∧ i = .int .i64 (k : Int) ∧ Hid (xs.take k = ys.take k))
    case atStart => exact ⟨⟨0, rfl⟩, 0, by omega, rfl, rfl, Lib.hid rfl⟩
    case round =>
      obtain ⟨⟨nq, rfl⟩, k, hk, hg, rfl, hp⟩ := hrel
      have Hg := Lib.hid hg; clear hg
      by_cases hlt : k < xs.length
      · have hly : k < ys.length := by have := Hl.out; omega
        obtain ⟨b1, o1, rfl⟩ := ha.some_ (by intro e; simp [e] at hlt)
        obtain ⟨b2, o2, rfl⟩ := hb.some_ (by intro e; simp [e] at hly)
        have c1 := ha.one k hlt
        have c2 := hb.one k hly
        have Hs : ∀ x y, xs.getD k 0 = x → ys.getD k 0 = y → Hid (((x != y) = true → sameB xs ys = false) ∧ ((x != y) = false → xs.take (k + 1) = ys.take (k + 1))) := fun x y h1 h2 =>
          Lib.hid ⟨fun h => same_not xs ys k hlt hly (by rw [h1, h2]; exact h), fun h => same_next xs ys k hlt hly hp.out (by rw [h1, h2]; exact h)⟩
        generalize xs.getD k 0 = x at c1 Hs
        generalize ys.getD k 0 = y at c2 Hs
        have Hs := Hs x y rfl rfl
        go_wp2_with fail
        go_quiet (fail)
        go_wp2_with fail
        · go_ret
          exact ⟨ret_bool (Hs.out.1 (by assumption)).symm, _, World.drewN_drewN _ _ _⟩
        · go_roundg (xs.length - (k + 1))
          case measure => rw [Hg.out]; omega
          case rel => exact ⟨⟨_, rfl⟩, k + 1, by omega, rfl, by go_num, Lib.hid (Hs.out.2 (by assumption))⟩
      · have hkk : k = xs.length := by omega
        have Hk := Lib.hid hkk; clear hkk
        go_wp2_with fail
        go_ret
        exact ⟨ret_bool (same_all xs ys k hp.out Hk.out Hl.out).symm, _, rfl⟩
  · have hne : ((xs.length : Int) != (ys.length : Int)) = true := by simp; omega
    have Hl := Lib.hid hl; clear hl
    go_enter Tryd.func24, Tryd.ntmps24
    go_wp2_with fail
    go_ret
    exact ⟨ret_bool (same_len xs ys Hl.out).symm, 0, rfl⟩
end Go.Proofs.YtgjdoiblgbdebaaDoor
