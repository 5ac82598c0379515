/- slices.Reverse at rows of bytes. -/
import Derived.Test.YtoddcjpfldpnfaaDoorCodeRow
import Derived.RegionTactic
import Derived.ChangeAlike
namespace Go.Proofs.YtoddcjpfldpnfaaDoor
open Go.RowKit
theorem setCell_drew' (w : World) (a : Addr) (u : Value) : w.drew.setCell a u = (w.setCell a u).drew := rfl
theorem get_some {α : Type} (xs : List α) (k : Nat) (h : k < xs.length) : ∃ x, xs[k]? = some x := ⟨xs[k], List.getElem?_eq_getElem h⟩
set_option maxRecDepth 100000 in
set_option maxHeartbeats 1000000 in
theorem reverse_some (w : World) (B g n cap : Nat) (xs : List Value) (h : w.ownsRow B 25 1 (.slice (some ⟨g, 0, none⟩) n cap) n xs) (hn : n ≤ 9223372036854775807) (hx : ∀ x ∈ xs, ∃ A m c, x = .slice A m c) :
    Calls Tryd.prog 38 #[.slice (some ⟨g, 0, none⟩) n cap] w fun e w' => e = .returned (.tuple #[]) ∧ w'.ownsRow B 25 1 (.slice (some ⟨g, 0, none⟩) n cap) n xs.reverse ∧ w.grownBy w' (some g) := by
  have hlen : xs.length = n := by have := h.1; omega
  have Hlen := Lib.hid hlen; clear hlen
  have H := Lib.hid h; clear h
  go_enter Tryd.func38, Tryd.ntmps38
  go_wp2_with fail
  go_loopg [2, 3] n (fun gg i j wx => ∃ (k : Nat) (ys : List Value), gg = n - k ∧ 2 * k ≤ n + 1 ∧ i = .int .i64 (k : Int) ∧ j = .int .i64 ((n : Int) - 1 - (k : Int)) ∧ wx.ownsRow B 25 1 (.slice (some ⟨g, 0, none⟩) n cap) n ys ∧ w.grownBy wx (some g) ∧ Hid (∀ i, i < n → ys[i]? = if i < k ∨ n ≤ i + k then xs[n - 1 - i]? else xs[i]?))
  case atStart => exact ⟨0, xs, rfl, by omega, rfl, by go_num, H.out, World.grownBy.refl _ _, Lib.hid (fun i hi => by rw [if_neg (by omega)])⟩
  case round =>
    obtain ⟨k, ys, hgk, hk, rfl, rfl, hown, hgr, hys⟩ := hrel
    have Hgk := Lib.hid hgk; clear hgk
    by_cases hlt : (k : Int) < (n : Int) - 1 - (k : Int)
    · have hkx : ys[k]? = xs[k]? := by rw [hys.out k (by omega), if_neg (by omega)]
      have hjx : ys[n - 1 - k]? = xs[n - 1 - k]? := by rw [hys.out (n - 1 - k) (by omega), if_neg (by omega)]
      obtain ⟨x1, hk1⟩ := get_some xs k (by have := Hlen.out; omega)
      obtain ⟨x2, hj1⟩ := get_some xs (n - 1 - k) (by have := Hlen.out; omega)
      obtain ⟨A1, m1, q1, e1⟩ := hx _ (List.mem_of_getElem? hk1)
      obtain ⟨A2, m2, q2, e2⟩ := hx _ (List.mem_of_getElem? hj1)
      have c1 : wr.cell? ⟨g, k, none⟩ = some (.slice A1 m1 q1) := by rw [hown.cellAt k (by omega), hkx, hk1, e1]
      have c2 : wr.cell? ⟨g, n - 1 - k, none⟩ = some (.slice A2 m2 q2) := by rw [hown.cellAt (n - 1 - k) (by omega), hjx, hj1, e2]
      have hf : ∀ i, wr.frozen? ⟨g, i, none⟩ = false := fun i => hown.frozenAt i
      have hne : n - 1 - k ≠ k := by omega
      subst e1 e2
      have HE := Lib.hid (And.intro hk1 hj1)
      clear hkx hjx hk1 hj1
      have hm : (n : Int) - 1 - (k : Int) = ((n - 1 - k : Nat) : Int) := by omega
      have hmn : n - 1 - k < n := by omega
      have hkm : k < n - 1 - k := by omega
      have hkn : k < n := by omega
      rw [hm]
      have Hm := Lib.hid (And.intro hm (show n - 1 - k + 1 + k = n by omega)); clear hm hlt
      generalize n - 1 - k = m at *
      have i0 : (0 : Int) ≤ (k : Int) := by omega
      have i1 : (k : Int) < (n : Int) := by omega
      have i2 : (0 : Int) ≤ (m : Int) := by omega
      have i3 : (m : Int) < (n : Int) := by omega
      have i4 : (k : Int) < (m : Int) := by omega
      go_wp2_with fail
      go_region
      go_wp2_with fail
      go_roundg (n - (k + 1))
      case measure => rw [Hgk.out]; omega
      case rel =>
        have s1 := hown.stored k (.slice A2 m2 q2)
        have s2 := s1.1.stored m (.slice A1 m1 q1)
        have hl1 : ys.length = n := by have := hown.1; omega
        have hmm := Hm.out
        exact ⟨k + 1, (ys.set k (.slice A2 m2 q2)).set m (.slice A1 m1 q1), rfl, by omega, by go_num, by congr 1; omega, s2.1.drew, grown_drewN ((hgr.trans s1.2).trans s2.2) 1, Lib.hid (fun i hi => by
          rw [List.getElem?_set, List.getElem?_set]
          by_cases h1 : m = i
          · subst h1
            rw [if_pos rfl, if_pos (by simpa [hl1] using hi), if_pos (.inr (by omega)), show n - 1 - m = k by omega]
            exact HE.out.1.symm
          · rw [if_neg h1]
            by_cases h2 : k = i
            · subst h2
              rw [if_pos rfl, if_pos (by omega), if_pos (.inl (by omega)), show n - 1 - k = m by omega]
              exact HE.out.2.symm
            · rw [if_neg h2, hys.out i hi]
              by_cases h3 : i < k ∨ n ≤ i + k
              · rw [if_pos h3, if_pos (by omega)]
              · rw [if_neg h3, if_neg (by omega)])⟩
    · have hfin : ys = xs.reverse := by
        have hl1 : ys.length = n := by have := hown.1; omega
        apply List.ext_getElem?
        intro i
        by_cases hi : i < n
        · rw [hys.out i hi, List.getElem?_reverse (by rw [Hlen.out]; exact hi), Hlen.out]
          by_cases h3 : i < k ∨ n ≤ i + k
          · rw [if_pos h3]
          · rw [if_neg h3, show n - 1 - i = i by omega]
        · rw [List.getElem?_eq_none (by omega), List.getElem?_eq_none (by rw [List.length_reverse, Hlen.out]; omega)]
      subst hfin
      have hge : decide ((k : Int) < (n : Int) - 1 - (k : Int)) = false := decide_eq_false hlt
      go_wp2_with fail
      go_end0
      exact ⟨rfl, hown, hgr⟩
set_option maxRecDepth 100000 in
theorem reverse_none (w : World) :
    Calls Tryd.prog 38 #[.slice none 0 0] w fun e w' => e = .returned (.tuple #[]) ∧ w = w' := by
  go_enter Tryd.func38, Tryd.ntmps38
  go_wp2_with fail
  refine wp_loop_rounds 1 ?_
  rw [rounds_succ]
  go_wp2_with fail
  go_end0
  exact ⟨rfl, rfl⟩
theorem reverse_any (w : World) (B n : Nat) (v : Value) (xs : List Value) (h : w.ownsRow B 25 1 v n xs) (hn : n ≤ 9223372036854775807) (hx : ∀ x ∈ xs, ∃ A m c, x = .slice A m c) :
    Calls Tryd.prog 38 #[v] w fun e w' => e = .returned (.tuple #[]) ∧ w'.ownsRow B 25 1 v n xs.reverse ∧ w.grownBy w' v.ownBlock := by
  rcases h.2 with ⟨rfl, rfl⟩ | ⟨g, cap, cur, rfl, _⟩
  · have hx0 : xs = [] := List.eq_nil_of_length_eq_zero (by simpa using h.1)
    subst hx0
    exact (reverse_none w).mono fun e w' ⟨he, hw⟩ => ⟨he, hw ▸ h, hw ▸ World.grownBy.refl _ _⟩
  · exact reverse_some w B g n cap xs h hn hx
end Go.Proofs.YtoddcjpfldpnfaaDoor
