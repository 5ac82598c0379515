/- The statements' own helpers: a number brought into a range; are two rows of bytes the same. -/
/- The statements' own helpers: a row of bytes lent out, with marks behind its end; is it, with its marks, as it was. -/
/- The statements' own helpers: a row of bytes that was lent is, with its marks, as it was. -/
import Derived.Test.YtifoiiaddcgngaaGreatDoorKitBase
import Derived.Laws.AppendOwnNone
import Derived.Maps.AppendAt
namespace Go.Proofs.YtifoiiaddcgngaaGreatDoor
open Go.RowKit
theorem ret_bool {a b : Bool} (h : a = b) : Ending.returned (.bool a) = .returned (.bool b) := by rw [h]
theorem pick_neg (x n : Int) (hn : 0 < n) (h : x.tmod n < 0) : x.tmod n + n = x % n := by
  have h1 := Int.tmod_eq_emod (a := x) (b := n)
  have h2 := Int.emod_nonneg x (show n ≠ 0 by omega)
  have h3 := Int.emod_lt_of_pos x hn
  by_cases hc : 0 ≤ x ∨ n ∣ x
  · rw [if_pos hc] at h1; omega
  · rw [if_neg hc] at h1; omega
theorem pick_pos (x n : Int) (hn : 0 < n) (h : ¬ x.tmod n < 0) : x.tmod n = x % n := by
  have h1 := Int.tmod_eq_emod (a := x) (b := n)
  have h2 := Int.emod_nonneg x (show n ≠ 0 by omega)
  have h3 := Int.emod_lt_of_pos x hn
  by_cases hc : 0 ≤ x ∨ n ∣ x
  · rw [if_pos hc] at h1; omega
  · rw [if_neg hc] at h1; omega
theorem tmod_bd (x n : Int) (hn : 0 < n) : -n < x.tmod n ∧ x.tmod n < n := by
  have h1 := Int.tmod_eq_emod (a := x) (b := n)
  have h2 := Int.emod_nonneg x (show n ≠ 0 by omega)
  have h3 := Int.emod_lt_of_pos x hn
  by_cases hc : 0 ≤ x ∨ n ∣ x
  · rw [if_pos hc] at h1; omega
  · rw [if_neg hc] at h1
    by_cases h0 : x % n = 0
    · exact absurd (.inr (Int.dvd_of_emod_eq_zero h0)) hc
    · omega
set_option maxRecDepth 100000 in
theorem pick_any (x n : Int) (w : World) (hn : 1 ≤ n) (_hu : n ≤ 9223372036854775807) :
    Calls Tryz.prog 12 #[.int .i64 x, .int .i64 n] w fun e w' => e = .returned (.int .i64 (x % n)) ∧ w = w' := by
  have hb := tmod_bd x n (by omega)
  have h1 : ¬ n < 1 := by omega
  by_cases hneg : x.tmod n < 0
  · have He := Lib.hid (pick_neg x n (by omega) hneg)
    go_enter Tryz.func12, Tryz.ntmps12
    go_wp2
    go_ret
    exact ⟨ret_int He.out, rfl⟩
  · have He := Lib.hid (pick_pos x n (by omega) hneg)
    go_enter Tryz.func12, Tryz.ntmps12
    go_wp2
    go_ret
    exact ⟨ret_int He.out, rfl⟩
def sameB (xs ys : List Int) : Bool := decide (xs = ys)
theorem same_len (xs ys : List Int) (h : xs.length ≠ ys.length) : sameB xs ys = false := by unfold sameB; exact decide_eq_false (fun e => h (by rw [e]))
theorem same_all (xs ys : List Int) (k : Nat) (h : xs.take k = ys.take k) (hx : k = xs.length) (hy : xs.length = ys.length) : sameB xs ys = true := by
  unfold sameB; rw [hx, List.take_length, hy, List.take_length] at h; exact decide_eq_true h
theorem same_not (xs ys : List Int) (k : Nat) (_ : k < xs.length) (_ : k < ys.length) (h : (xs.getD k 0 != ys.getD k 0) = true) : sameB xs ys = false := by
  unfold sameB; refine decide_eq_false (fun e => ?_); subst e; simp at h
theorem same_next (xs ys : List Int) (k : Nat) (hx : k < xs.length) (hy : k < ys.length) (hp : xs.take k = ys.take k) (h : (xs.getD k 0 != ys.getD k 0) = false) : xs.take (k + 1) = ys.take (k + 1) := by
  rw [List.take_add_one, List.take_add_one, hp, List.getElem?_eq_getElem hx, List.getElem?_eq_getElem hy]
  simp only [List.getD_eq_getElem?_getD, List.getElem?_eq_getElem hx, List.getElem?_eq_getElem hy, Option.getD_some] at h
  have : xs[k] = ys[k] := by simpa using h
  rw [this]
set_option maxRecDepth 100000 in
set_option maxHeartbeats 1000000 in
theorem sameBytes_any (xs ys : List Int) (A B : Option Addr) (ca cb : Nat) (w : World) (ha : BytesAt w A xs) (hb : BytesAt w B ys) (_hx : xs.length ≤ 9223372036854775807) :
    Calls Tryz.prog 23 #[.slice A xs.length ca, .slice B ys.length cb] w fun e w' => e = .returned (.bool (sameB xs ys)) ∧ ∃ n, w' = w.drewN n := by
  by_cases hl : xs.length = ys.length
  · have hne : ((xs.length : Int) != (ys.length : Int)) = false := by rw [hl]; simp
    have Hl := Lib.hid hl; clear hl
    go_enter Tryz.func23, Tryz.ntmps23
    go_wp2_with fail
    go_loopg [5] xs.length (fun g i wx => (∃ nq, wx = w.drewN nq) ∧ ∃ k : Nat, k ≤ xs.length ∧ g = xs.length - k ∧ i = .int .i64 (k : Int) ∧ Hid (xs.take k = ys.take k))
    case atStart => exact ⟨⟨0, rfl⟩, 0, by omega, rfl, rfl, Lib.hid rfl⟩
    case round =>
      obtain ⟨⟨nq, rfl⟩, k, hk, hg, rfl, hp⟩ := hrel
      have Hg := Lib.hid hg; clear hg
      by_cases hlt : k < xs.length
      · have hly : k < ys.length := by have := Hl.out; omega
        obtain ⟨b1, o1, rfl⟩ := ha.some_ (by intro e; simp [e] at hlt)
        obtain ⟨b2, o2, rfl⟩ := hb.some_ (by intro e; simp [e] at hly)
        have c1 := ha.one k hlt
        have c2 := hb.one k hly
        have Hs : ∀ x y, xs.getD k 0 = x → ys.getD k 0 = y → Hid (((x != y) = true → sameB xs ys = false) ∧ ((x != y) = false → xs.take (k + 1) = ys.take (k + 1))) := fun x y h1 h2 =>
          Lib.hid ⟨fun h => same_not xs ys k hlt hly (by rw [h1, h2]; exact h), fun h => same_next xs ys k hlt hly hp.out (by rw [h1, h2]; exact h)⟩
        generalize xs.getD k 0 = x at c1 Hs
        generalize ys.getD k 0 = y at c2 Hs
        have Hs := Hs x y rfl rfl
        go_wp2_with fail
        go_quiet (fail)
        go_wp2_with fail
        · go_ret
          exact ⟨ret_bool (Hs.out.1 (by assumption)).symm, _, World.drewN_drewN _ _ _⟩
        · go_roundg (xs.length - (k + 1))
          case measure => rw [Hg.out]; omega
          case rel => exact ⟨⟨_, rfl⟩, k + 1, by omega, rfl, by go_num, Lib.hid (Hs.out.2 (by assumption))⟩
      · have hkk : k = xs.length := by omega
        have Hk := Lib.hid hkk; clear hkk
        go_wp2_with fail
        go_ret
        exact ⟨ret_bool (same_all xs ys k hp.out Hk.out Hl.out).symm, _, rfl⟩
  · have hne : ((xs.length : Int) != (ys.length : Int)) = true := by simp; omega
    have Hl := Lib.hid hl; clear hl
    go_enter Tryz.func23, Tryz.ntmps23
    go_wp2_with fail
    go_ret
    exact ⟨ret_bool (same_len xs ys Hl.out).symm, 0, rfl⟩
end Go.Proofs.YtifoiiaddcgngaaGreatDoor
namespace Go.Proofs.YtifoiiaddcgngaaGreatDoor
open Go.RowKit
def mk (i : Nat) : Int := IntKind.u64.wrap ((8000024 + (i : Int)) * 11400714819323198485) / 72057594037927936 % 256
def marksTo (k : Nat) : List Int := (List.range k).map mk
theorem mk_bd (i : Nat) : 0 ≤ mk i ∧ mk i < 256 := by
  unfold mk; omega
theorem marksTo_succ (k : Nat) : marksTo (k + 1) = marksTo k ++ [mk k] := by unfold marksTo; rw [List.range_succ, List.map_append]; rfl
theorem marksTo_len (k : Nat) : (marksTo k).length = k := by unfold marksTo; simp
theorem marksTo_bd (k : Nat) : ∀ z ∈ marksTo k, 0 ≤ z ∧ z < 256 := by
  intro z hz
  unfold marksTo at hz
  rw [List.mem_map] at hz
  obtain ⟨i, _, rfl⟩ := hz
  exact mk_bd i
theorem markByte_at (i : Nat) (w : World) (_hi : i < 12) :
    Calls Tryz.prog 46 #[.int .i64 1, .int .i64 (i : Int)] w fun e w' => e = .returned (.int .u8 (mk i)) ∧ w = w' := by
  go_enter Tryz.func46, Tryz.ntmps46
  go_wp2
  go_ret
  exact ⟨rfl, rfl⟩
/-- A row that was lent: these bytes, and the twelve marks behind them, at the head of a block of bytes. -/
def LentAt (w : World) (v : Value) (zs : List Int) : Prop :=
  ∃ g cap cs, v = .slice (some ⟨g, 0, none⟩) zs.length cap ∧ zs.length + 12 ≤ cap ∧ cap ≤ 9223372036854775807 ∧ w.heap[g]? = some (.cells cs 5 (0, 0)) ∧ cs.toList.take (zs.length + 12) = u8s (zs ++ marksTo 12) ∧ ∀ z ∈ zs, 0 ≤ z ∧ z < 256
theorem lent_of_own {w : World} {B g cap : Nat} {zs : List Int} (h : w.ownsRow B 5 1 (.slice (some ⟨g, 0, none⟩) (zs.length + 12) cap) (zs.length + 12) (u8s (zs ++ marksTo 12))) (hz : ∀ z ∈ zs, 0 ≤ z ∧ z < 256) :
    LentAt w (.slice (some ⟨g, 0, none⟩) zs.length cap) zs := by
  rcases h.2 with ⟨h', _⟩ | ⟨g', cap', cs, h', _, hg, hc, hm, _, ht⟩
  · cases h'
  · obtain ⟨rfl, rfl⟩ : g = g' ∧ cap = cap' := by simpa using h'
    exact ⟨g, cap, cs, rfl, hc, hm, hg, by simpa using ht, hz⟩
set_option maxRecDepth 100000 in
set_option maxHeartbeats 4000000 in
theorem lentBytes_new (zs : List Int) (A : Option Addr) (c : Nat) (w : World) (hz : BytesAt w A zs) (hl : zs.length ≤ 140737488351232) (hA : A = none → c = 0) :
    Calls Tryz.prog 11 #[.slice A zs.length c] w fun e w' => ∃ v, e = .returned v ∧ LentAt w' v zs ∧ Below w.heap.size w w' ∧ ∀ b, v.ownBlock = some b → w.heap.size ≤ b := by
  obtain ⟨i0, hi, hz0, hz1, hz2⟩ := info_parts infoByte
  rcases A with _ | ad
  · obtain rfl : c = 0 := hA rfl
    have hnil : zs = [] := by
      apply Classical.byContradiction
      intro hne
      obtain ⟨b, off, e⟩ := hz.some_ hne
      cases e
    subst hnil
    clear hA
    go_enter Tryz.func11, Tryz.ntmps11
    go_wp2_with (refine wpList_make_own _ rfl _ _ _ rfl w.heap.size 5 i0 (.int .u8 0) 1 Tryz.underlying23 hi hz0 hz1 .i64 .i64 _ 12 rfl rfl rfl (by rw [hz2]; decide) (by decide) (Nat.le_refl _) ?_; intro w1 hown1 hgrow1)
    have hb2 := (Below.refl w.heap.size w).grown hgrow1 (Nat.le_refl _) (fun j e => by cases e)
    have hown2 := hown1
    go_wp2_with (at_builtin; refine wpList_append_own_none rfl _ _ 23 rfl w.heap.size 5 i0 1 Tryz.underlying23 hi _ _ _ rfl hown1 rfl ?_)
    · skip
      go_wp2_with fail
      go_loopg [3, 4] 12 (fun g v i wx => ∃ k : Nat, g = 12 - k ∧ k ≤ 12 ∧ i = .int .i64 (k : Int) ∧ wx.ownsRow w.heap.size 5 1 v (0 + k) (u8s ([] ++ marksTo k)) ∧ Below w.heap.size w wx)
      case atStart => exact ⟨0, rfl, by omega, rfl, own_same hown2 (by simp) (by simp [marksTo, u8s]), hb2⟩
      case round =>
        obtain ⟨k, hgk, hk, rfl, hown3, hb3⟩ := hrel
        have Hgk := Lib.hid hgk; clear hgk
        by_cases hlt : k < 12
        · go_wp2_with fail
          refine (markByte_at k _ hlt).mono ?_
          rintro e w' ⟨rfl, rfl⟩
          have hsz := hb3.size
          go_wp2_with (at_builtin; refine wpList_append_own _ rfl _ _ 23 rfl w.heap.size 5 i0 (.int .u8 0) 1 1 Tryz.underlying23 hi hz0 hz1 hz2 rfl (by decide) _ _ _ rfl (hown3.alloc _) ⟨wr.heap.size, 0, none⟩ 1 1 [.int .u8 (mk k)] rfl rfl (cell_one_new _ _ _) ?c3 ?c4 ?c5 ?c6 ?_)
          case c3 => intro u hu; rw [List.mem_singleton.1 hu]; rfl
          case c4 => unfold maxLen; omega
          case c5 => omega
          case c6 => simp; omega
          intro v3 w3 hown4 hgrow3 _
          go_wp2_with fail
          go_roundg (12 - (k + 1))
          case measure => rw [Hgk.out]; omega
          case rel => exact ⟨k + 1, rfl, by omega, by go_num, own_same hown4 (by omega) (by rw [marksTo_succ]; simp [u8s]), (hb3.alloc hb3.size _).grown hgrow3 (by simp; omega) (fun j e => (hown3.lt j e).1)⟩
        · obtain rfl : k = 12 := by omega
          obtain ⟨g, cap, hv, hgb, hglt, hncap, hcapm⟩ := own_form hown3 (by omega)
          rw [hv] at hown3 ⊢
          have hcm : cap ≤ 9223372036854775807 := hcapm
          have hlt2 : 0 ≤ cap := by omega
          clear hv
          go_wp2_with fail
          go_ret
          exact ⟨_, rfl, lent_of_own hown3 hz.1, hb3, fun b e => by cases e; exact hgb⟩
  · have hsrc : ∀ j u, (u8s zs)[j]? = some u → w.cell? (ad.add j) = some u := fun j u hj => by
      have hne : zs ≠ [] := by intro e; subst e; simp [u8s] at hj
      obtain ⟨b, off, e, hc⟩ := hz.2 hne
      obtain rfl : ad = ⟨b, off, none⟩ := by simpa using e
      simp only [u8s, List.getElem?_map] at hj
      cases hq : zs[j]? with
      | none => simp [hq] at hj
      | some z =>
        obtain rfl : Value.int .u8 z = u := by simpa [hq] using hj
        have h1 := hc j (List.getElem?_eq_some_iff.1 hq).1
        rw [List.getD_eq_getElem?_getD, hq] at h1
        have hadd : (⟨b, off, none⟩ : Addr).add j = ⟨b, off + j, none⟩ := by unfold Addr.add; split <;> simp_all
        rw [hadd]; exact h1
    have Hsrc := Lib.hid hsrc
    clear hA hsrc
    go_enter Tryz.func11, Tryz.ntmps11
    go_wp2_with (first | (refine wpList_make_own _ rfl _ _ _ rfl w.heap.size 5 i0 (.int .u8 0) 1 Tryz.underlying23 hi hz0 hz1 .i64 .i64 _ (zs.length + 12) rfl rfl (by omega) (by rw [hz2]; omega) (by unfold maxLen; omega) (Nat.le_refl _) ?_; intro w1 hown1 hgrow1) | (at_builtin; refine wpList_append_own _ rfl _ _ 23 rfl w.heap.size 5 i0 (.int .u8 0) 1 1 Tryz.underlying23 hi hz0 hz1 hz2 rfl (by decide) _ _ _ rfl hown1 ad zs.length c (u8s zs) rfl ?c1 ?c2 ?c3 ?c4 ?c5 ?c6 ?_))
    case c1 => rw [u8s_len]; omega
    case c2 =>
      intro j u hj
      have h1 := Hsrc.out j u hj
      exact (World.cell?_of_block (hgrow1.block _ (World.block_lt_of_cell? _ _ h1) (by simp))).trans h1
    case c3 => exact u8s_one zs
    case c4 => unfold maxLen; omega
    case c5 => omega
    case c6 => exact hgrow1.size
    intro v2 w2 hown2 hgrow2 _
    · have hb1 := (Below.refl w.heap.size w).grown hgrow1 (Nat.le_refl _) (fun j e => by cases e)
      have hb2 := hb1.grown hgrow2 hgrow1.size (fun j e => by simp [Value.ownBlock] at e; omega)
      go_wp2_with fail
      go_loopg [3, 4] 12 (fun g v i wx => ∃ k : Nat, g = 12 - k ∧ k ≤ 12 ∧ i = .int .i64 (k : Int) ∧ wx.ownsRow w.heap.size 5 1 v (zs.length + k) (u8s (zs ++ marksTo k)) ∧ Below w.heap.size w wx)
      case atStart => exact ⟨0, rfl, by omega, rfl, own_same hown2 (by simp) (by simp [marksTo, u8s]), hb2⟩
      case round =>
        obtain ⟨k, hgk, hk, rfl, hown3, hb3⟩ := hrel
        have Hgk := Lib.hid hgk; clear hgk
        by_cases hlt : k < 12
        · go_wp2_with fail
          refine (markByte_at k _ hlt).mono ?_
          rintro e w' ⟨rfl, rfl⟩
          have hsz := hb3.size
          go_wp2_with (at_builtin; refine wpList_append_own _ rfl _ _ 23 rfl w.heap.size 5 i0 (.int .u8 0) 1 1 Tryz.underlying23 hi hz0 hz1 hz2 rfl (by decide) _ _ _ rfl (hown3.alloc _) ⟨wr.heap.size, 0, none⟩ 1 1 [.int .u8 (mk k)] rfl rfl (cell_one_new _ _ _) ?c3 ?c4 ?c5 ?c6 ?_)
          case c3 => intro u hu; rw [List.mem_singleton.1 hu]; rfl
          case c4 => unfold maxLen; omega
          case c5 => omega
          case c6 => simp; omega
          intro v3 w3 hown4 hgrow3 _
          go_wp2_with fail
          go_roundg (12 - (k + 1))
          case measure => rw [Hgk.out]; omega
          case rel => exact ⟨k + 1, rfl, by omega, by go_num, own_same hown4 (by omega) (by rw [marksTo_succ]; simp [u8s]), (hb3.alloc hb3.size _).grown hgrow3 (by simp; omega) (fun j e => (hown3.lt j e).1)⟩
        · obtain rfl : k = 12 := by omega
          obtain ⟨g, cap, hv, hgb, hglt, hncap, hcapm⟩ := own_form hown3 (by omega)
          rw [hv] at hown3 ⊢
          have hcm : cap ≤ 9223372036854775807 := hcapm
          have hlt2 : zs.length ≤ cap := by omega
          clear hv
          go_wp2_with fail
          go_ret
          exact ⟨_, rfl, lent_of_own hown3 hz.1, hb3, fun b e => by cases e; exact hgb⟩
theorem lentBytes_any (zs : List Int) (A : Option Addr) (c : Nat) (w : World) (hz : BytesAt w A zs) (hl : zs.length ≤ 140737488351232) (hA : A = none → c = 0) :
    Calls Tryz.prog 11 #[.slice A zs.length c] w fun e w' => ∃ v, e = .returned v ∧ LentAt w' v zs ∧ Below w.heap.size w w' :=
  (lentBytes_new zs A c w hz hl hA).mono fun _ _ ⟨v, h1, h2, h3, _⟩ => ⟨v, h1, h2, h3⟩
end Go.Proofs.YtifoiiaddcgngaaGreatDoor
namespace Go.Proofs.YtifoiiaddcgngaaGreatDoor
open Go.RowKit
theorem lent_cell {w : World} {g n : Nat} {cs : Array Value} {zs : List Int} {t : TypeId} (hg : w.heap[g]? = some (.cells cs t (0, 0))) (ht : cs.toList.take n = u8s zs) (i : Nat) (hi : i < zs.length) : w.cell? ⟨g, i, none⟩ = some (.int .u8 (zs.getD i 0)) := by
  rw [cell_of_row _ _ _ _ _ _ hg]
  have hl : (u8s zs)[i]? = some (.int .u8 (zs.getD i 0)) := by
    simp [u8s, List.getD_eq_getElem?_getD, List.getElem?_eq_getElem hi]
  rw [← ht] at hl
  have hn : i < n := by
    rcases Nat.lt_or_ge i n with h | h
    · exact h
    · rw [List.getElem?_take_eq_none h] at hl; cases hl
  rw [List.getElem?_take_of_lt hn, Array.getElem?_toList] at hl
  exact hl
theorem marks_at (zs : List Int) (k : Nat) (hk : k < 12) : (zs ++ marksTo 12).getD (zs.length + k) 0 = mk k := by
  rw [List.getD_eq_getElem?_getD, List.getElem?_append_right (Nat.le_add_right _ _), Nat.add_sub_cancel_left]
  unfold marksTo
  simp [hk]
theorem front_at (zs ms : List Int) (i : Nat) (hi : i < zs.length) : (zs ++ ms).getD i 0 = zs.getD i 0 := by
  rw [List.getD_eq_getElem?_getD, List.getD_eq_getElem?_getD, List.getElem?_append_left hi]
theorem markByte_quiet (x : Int) (i : Nat) (w : World) (hi : i < 12) (hx : x = (i : Int)) :
    Calls Tryz.prog 46 #[.int .i64 1, .int .i64 x] w fun e w' => e = .returned (.int .u8 (mk i)) ∧ w' = w := by
  subst hx
  exact (markByte_at i w hi).mono fun _ _ h => ⟨h.1, h.2.symm⟩
theorem sub_back (n k : Nat) : ((n : Int) + (k : Int) - (n : Int)) = (k : Int) := by omega
set_option maxRecDepth 100000 in
set_option maxHeartbeats 800000 in
theorem keptBytes_any (zs : List Int) (v : Value) (A : Option Addr) (c : Nat) (w : World) (hv : LentAt w v zs) (hz : BytesAt w A zs) (hl : zs.length ≤ 140737488351232) :
    Calls Tryz.prog 26 #[v, .slice A zs.length c] w fun e w' => e = .returned (.bool true) ∧ ∃ n, w' = w.drewN n := by
  obtain ⟨g, cap, cs, rfl, hcap, hcm, hg, ht, hr⟩ := hv
  have hne : ((zs.length : Int) != (zs.length : Int)) = false := by simp
  go_enter Tryz.func26, Tryz.ntmps26
  go_wp2_with fail
  go_loopg [6] (zs.length + 12) (fun gg i wx => (∃ nq, wx = w.drewN nq) ∧ ∃ k : Nat, gg = zs.length + 12 - k ∧ k ≤ zs.length + 12 ∧ i = .int .i64 (k : Int))
  case atStart => exact ⟨⟨0, rfl⟩, 0, rfl, by omega, rfl⟩
  case round =>
    obtain ⟨⟨nq, rfl⟩, k, hgk, hk, rfl⟩ := hrel
    have Hgk := Lib.hid hgk; clear hgk
    by_cases hlt : k < zs.length
    · obtain ⟨b, off, rfl⟩ := hz.some_ (by intro e; simp [e] at hlt)
      have c1 := lent_cell hg ht k (by rw [List.length_append, marksTo_len]; omega)
      have c2 := hz.one k hlt
      rw [front_at _ _ _ hlt] at c1
      generalize zs.getD k 0 = z at c1 c2
      have hge : ¬ zs.length ≤ k := by omega
      have hlt12 : k < zs.length + 12 := by omega
      go_wp2_with fail
      go_quiet (fail)
      go_wp2_with fail
      go_roundg (zs.length + 12 - (k + 1))
      case measure => rw [Hgk.out]; omega
      case rel => exact ⟨⟨_, rfl⟩, k + 1, rfl, by omega, by go_num⟩
    · by_cases hlt12 : k < zs.length + 12
      · obtain ⟨j, rfl⟩ : ∃ j, k = zs.length + j := ⟨k - zs.length, by omega⟩
        have hj : j < 12 := by omega
        have hgW : (w.drewN nq).heap[g]? = some (.cells cs 5 (0, 0)) := hg
        obtain ⟨W, hW⟩ : ∃ W, w.drewN nq = W := ⟨_, rfl⟩
        rw [hW] at hgW ⊢
        have HW := Lib.hid hW
        clear hW hg hz
        have c1 := lent_cell hgW ht (zs.length + j) (by rw [List.length_append, marksTo_len]; omega)
        rw [marks_at _ _ hj] at c1
        have hge : decide ((zs.length : Int) ≤ (zs.length : Int) + (j : Int)) = true := decide_eq_true (by omega)
        have hnl : decide ((zs.length : Int) + (j : Int) < (zs.length : Int)) = false := decide_eq_false (by omega)
        go_wp2_with fail
        go_quiet ((go_at_call 46; exact Calls.quiet_of_same (markByte_quiet _ j _ hj (by omega))))
        go_wp2_with fail
        go_roundg (zs.length + 12 - (zs.length + j + 1))
        case measure => rw [Hgk.out]; omega
        case rel => exact ⟨⟨_, by rw [← HW.out]; exact World.drewN_drewN _ _ _⟩, zs.length + j + 1, rfl, by omega, by go_num⟩
      · obtain rfl : k = zs.length + 12 := by omega
        go_wp2_with fail
        go_ret
        exact ⟨rfl, _, rfl⟩
end Go.Proofs.YtifoiiaddcgngaaGreatDoor
