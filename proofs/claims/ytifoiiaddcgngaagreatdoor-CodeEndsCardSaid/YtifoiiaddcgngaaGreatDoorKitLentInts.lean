/- The statements' own helpers: a row of numbers lent out, with marks behind its end; is it, with its marks, as it was. -/
import Derived.Test.YtifoiiaddcgngaaGreatDoorKitApart
import Derived.Test.YtifoiiaddcgngaaGreatDoorKitInts
import Derived.Laws.AppendOwnNone
import Derived.Maps.AppendAt
namespace Go.Proofs.YtifoiiaddcgngaaGreatDoor
open Go.RowKit
def mkI (i : Nat) : Int := 8000024 + (i : Int)
def marksI (k : Nat) : List Int := (List.range k).map mkI
theorem marksI_succ (k : Nat) : marksI (k + 1) = marksI k ++ [mkI k] := by unfold marksI; rw [List.range_succ, List.map_append]; rfl
theorem marksI_len (k : Nat) : (marksI k).length = k := by unfold marksI; simp
theorem markI_at (i : Nat) (w : World) (_hi : i < 12) :
    Calls Tryz.prog 45 #[.int .i64 1, .int .i64 (i : Int)] w fun e w' => e = .returned (.int .i64 (mkI i)) ∧ w = w' :=
  (mark_any 1 i w (by decide) (by omega)).mono fun _ _ h => ⟨by rw [h.1]; rfl, h.2⟩
theorem i64s_one (zs : List Int) : ∀ u ∈ i64s zs, u.oneCell' = true := by
  intro u hu
  simp only [i64s, List.mem_map] at hu
  obtain ⟨z, _, rfl⟩ := hu
  rfl
/-- A row that was lent: these bytes, and the twelve marks behind them, at the head of a block of bytes. -/
def LentIntsAt (w : World) (v : Value) (zs : List Int) : Prop :=
  ∃ g cap cs, v = .slice (some ⟨g, 0, none⟩) zs.length cap ∧ zs.length + 12 ≤ cap ∧ cap ≤ 9223372036854775807 ∧ w.heap[g]? = some (.cells cs 3 (0, 0)) ∧ cs.toList.take (zs.length + 12) = i64s (zs ++ marksI 12) ∧ ∀ z ∈ zs, -9223372036854775808 ≤ z ∧ z ≤ 9223372036854775807
theorem lentInts_of_own {w : World} {B g cap : Nat} {zs : List Int} (h : w.ownsRow B 3 1 (.slice (some ⟨g, 0, none⟩) (zs.length + 12) cap) (zs.length + 12) (i64s (zs ++ marksI 12))) (hz : ∀ z ∈ zs, -9223372036854775808 ≤ z ∧ z ≤ 9223372036854775807) :
    LentIntsAt w (.slice (some ⟨g, 0, none⟩) zs.length cap) zs := by
  rcases h.2 with ⟨h', _⟩ | ⟨g', cap', cs, h', _, hg, hc, hm, _, ht⟩
  · cases h'
  · obtain ⟨rfl, rfl⟩ : g = g' ∧ cap = cap' := by simpa using h'
    exact ⟨g, cap, cs, rfl, hc, hm, hg, by simpa using ht, hz⟩
set_option maxRecDepth 100000 in
set_option maxHeartbeats 4000000 in
theorem lentInts_new (zs : List Int) (A : Option Addr) (c : Nat) (w : World) (hz : IntsAt w A zs) (hl : zs.length ≤ 1000000) (hA : A = none → c = 0) :
    Calls Tryz.prog 10 #[.slice A zs.length c] w fun e w' => ∃ v, e = .returned v ∧ LentIntsAt w' v zs ∧ Below w.heap.size w w' ∧ ∀ b, v.ownBlock = some b → w.heap.size ≤ b := by
  obtain ⟨i0, hi, hz0, hz1, hz2⟩ := info_parts infoInt
  rcases A with _ | ad
  · obtain rfl : c = 0 := hA rfl
    have hnil : zs = [] := by
      apply Classical.byContradiction
      intro hne
      obtain ⟨b, off, e⟩ := hz.some_ hne
      cases e
    subst hnil
    clear hA
    go_enter Tryz.func10, Tryz.ntmps10
    go_wp2_with (refine wpList_make_own _ rfl _ _ _ rfl w.heap.size 3 i0 (.int .i64 0) 1 Tryz.underlying22 hi hz0 hz1 .i64 .i64 _ 12 rfl rfl rfl (by rw [hz2]; decide) (by decide) (Nat.le_refl _) ?_; intro w1 hown1 hgrow1)
    have hb2 := (Below.refl w.heap.size w).grown hgrow1 (Nat.le_refl _) (fun j e => by cases e)
    have hown2 := hown1
    go_wp2_with (at_builtin; refine wpList_append_own_none rfl _ _ 22 rfl w.heap.size 3 i0 1 Tryz.underlying22 hi _ _ _ rfl hown1 rfl ?_)
    · skip
      go_wp2_with fail
      go_loopg [3, 4] 12 (fun g v i wx => ∃ k : Nat, g = 12 - k ∧ k ≤ 12 ∧ i = .int .i64 (k : Int) ∧ wx.ownsRow w.heap.size 3 1 v (0 + k) (i64s ([] ++ marksI k)) ∧ Below w.heap.size w wx)
      case atStart => exact ⟨0, rfl, by omega, rfl, own_same hown2 (by simp) (by simp [marksI, i64s]), hb2⟩
      case round =>
        obtain ⟨k, hgk, hk, rfl, hown3, hb3⟩ := hrel
        have Hgk := Lib.hid hgk; clear hgk
        by_cases hlt : k < 12
        · go_wp2_with fail
          refine (markI_at k _ hlt).mono ?_
          rintro e w' ⟨rfl, rfl⟩
          have hsz := hb3.size
          go_wp2_with (at_builtin; refine wpList_append_own _ rfl _ _ 22 rfl w.heap.size 3 i0 (.int .i64 0) 1 8 Tryz.underlying22 hi hz0 hz1 hz2 rfl (by decide) _ _ _ rfl (hown3.alloc _) ⟨wr.heap.size, 0, none⟩ 1 1 [.int .i64 (mkI k)] rfl rfl (cell_one_new _ _ _) ?c3 ?c4 ?c5 ?c6 ?_)
          case c3 => intro u hu; rw [List.mem_singleton.1 hu]; rfl
          case c4 => unfold maxLen; omega
          case c5 => omega
          case c6 => simp; omega
          intro v3 w3 hown4 hgrow3 _
          go_wp2_with fail
          go_roundg (12 - (k + 1))
          case measure => rw [Hgk.out]; omega
          case rel => exact ⟨k + 1, rfl, by omega, by go_num, own_same hown4 (by omega) (by rw [marksI_succ]; simp [i64s]), (hb3.alloc hb3.size _).grown hgrow3 (by simp; omega) (fun j e => (hown3.lt j e).1)⟩
        · obtain rfl : k = 12 := by omega
          obtain ⟨g, cap, hv, hgb, hglt, hncap, hcapm⟩ := own_form hown3 (by omega)
          rw [hv] at hown3 ⊢
          have hcm : cap ≤ 9223372036854775807 := hcapm
          have hlt2 : 0 ≤ cap := by omega
          clear hv
          go_wp2_with fail
          go_ret
          exact ⟨_, rfl, lentInts_of_own hown3 hz.1, hb3, fun b e => by cases e; exact hgb⟩
  · have hsrc : ∀ j u, (i64s zs)[j]? = some u → w.cell? (ad.add j) = some u := fun j u hj => by
      have hne : zs ≠ [] := by intro e; subst e; simp [i64s] at hj
      obtain ⟨b, off, e, hc⟩ := hz.2 hne
      obtain rfl : ad = ⟨b, off, none⟩ := by simpa using e
      simp only [i64s, List.getElem?_map] at hj
      cases hq : zs[j]? with
      | none => simp [hq] at hj
      | some z =>
        obtain rfl : Value.int .i64 z = u := by simpa [hq] using hj
        have h1 := hc j (List.getElem?_eq_some_iff.1 hq).1
        rw [List.getD_eq_getElem?_getD, hq] at h1
        have hadd : (⟨b, off, none⟩ : Addr).add j = ⟨b, off + j, none⟩ := by unfold Addr.add; split <;> simp_all
        rw [hadd]; exact h1
    have Hsrc := Lib.hid hsrc
    clear hA hsrc
    go_enter Tryz.func10, Tryz.ntmps10
    go_wp2_with (first | (refine wpList_make_own _ rfl _ _ _ rfl w.heap.size 3 i0 (.int .i64 0) 1 Tryz.underlying22 hi hz0 hz1 .i64 .i64 _ (zs.length + 12) rfl rfl (by omega) (by rw [hz2]; omega) (by unfold maxLen; omega) (Nat.le_refl _) ?_; intro w1 hown1 hgrow1) | (at_builtin; refine wpList_append_own _ rfl _ _ 22 rfl w.heap.size 3 i0 (.int .i64 0) 1 8 Tryz.underlying22 hi hz0 hz1 hz2 rfl (by decide) _ _ _ rfl hown1 ad zs.length c (i64s zs) rfl ?c1 ?c2 ?c3 ?c4 ?c5 ?c6 ?_))
    case c1 => rw [i64s_len]; omega
    case c2 =>
      intro j u hj
      have h1 := Hsrc.out j u hj
      exact (World.cell?_of_block (hgrow1.block _ (World.block_lt_of_cell? _ _ h1) (by simp))).trans h1
    case c3 => exact i64s_one zs
    case c4 => unfold maxLen; omega
    case c5 => omega
    case c6 => exact hgrow1.size
    intro v2 w2 hown2 hgrow2 _
    · have hb1 := (Below.refl w.heap.size w).grown hgrow1 (Nat.le_refl _) (fun j e => by cases e)
      have hb2 := hb1.grown hgrow2 hgrow1.size (fun j e => by simp [Value.ownBlock] at e; omega)
      go_wp2_with fail
      go_loopg [3, 4] 12 (fun g v i wx => ∃ k : Nat, g = 12 - k ∧ k ≤ 12 ∧ i = .int .i64 (k : Int) ∧ wx.ownsRow w.heap.size 3 1 v (zs.length + k) (i64s (zs ++ marksI k)) ∧ Below w.heap.size w wx)
      case atStart => exact ⟨0, rfl, by omega, rfl, own_same hown2 (by simp) (by simp [marksI, i64s]), hb2⟩
      case round =>
        obtain ⟨k, hgk, hk, rfl, hown3, hb3⟩ := hrel
        have Hgk := Lib.hid hgk; clear hgk
        by_cases hlt : k < 12
        · go_wp2_with fail
          refine (markI_at k _ hlt).mono ?_
          rintro e w' ⟨rfl, rfl⟩
          have hsz := hb3.size
          go_wp2_with (at_builtin; refine wpList_append_own _ rfl _ _ 22 rfl w.heap.size 3 i0 (.int .i64 0) 1 8 Tryz.underlying22 hi hz0 hz1 hz2 rfl (by decide) _ _ _ rfl (hown3.alloc _) ⟨wr.heap.size, 0, none⟩ 1 1 [.int .i64 (mkI k)] rfl rfl (cell_one_new _ _ _) ?c3 ?c4 ?c5 ?c6 ?_)
          case c3 => intro u hu; rw [List.mem_singleton.1 hu]; rfl
          case c4 => unfold maxLen; omega
          case c5 => omega
          case c6 => simp; omega
          intro v3 w3 hown4 hgrow3 _
          go_wp2_with fail
          go_roundg (12 - (k + 1))
          case measure => rw [Hgk.out]; omega
          case rel => exact ⟨k + 1, rfl, by omega, by go_num, own_same hown4 (by omega) (by rw [marksI_succ]; simp [i64s]), (hb3.alloc hb3.size _).grown hgrow3 (by simp; omega) (fun j e => (hown3.lt j e).1)⟩
        · obtain rfl : k = 12 := by omega
          obtain ⟨g, cap, hv, hgb, hglt, hncap, hcapm⟩ := own_form hown3 (by omega)
          rw [hv] at hown3 ⊢
          have hcm : cap ≤ 9223372036854775807 := hcapm
          have hlt2 : zs.length ≤ cap := by omega
          clear hv
          go_wp2_with fail
          go_ret
          exact ⟨_, rfl, lentInts_of_own hown3 hz.1, hb3, fun b e => by cases e; exact hgb⟩
theorem lentI_cell {w : World} {g n : Nat} {cs : Array Value} {zs : List Int} {t : TypeId} (hg : w.heap[g]? = some (.cells cs t (0, 0))) (ht : cs.toList.take n = i64s zs) (i : Nat) (hi : i < zs.length) : w.cell? ⟨g, i, none⟩ = some (.int .i64 (zs.getD i 0)) := by
  rw [cell_of_row _ _ _ _ _ _ hg]
  have hl : (i64s zs)[i]? = some (.int .i64 (zs.getD i 0)) := by
    simp [i64s, List.getD_eq_getElem?_getD, List.getElem?_eq_getElem hi]
  rw [← ht] at hl
  have hn : i < n := by
    rcases Nat.lt_or_ge i n with h | h
    · exact h
    · rw [List.getElem?_take_eq_none h] at hl; cases hl
  rw [List.getElem?_take_of_lt hn, Array.getElem?_toList] at hl
  exact hl
theorem marksI_at (zs : List Int) (k : Nat) (hk : k < 12) : (zs ++ marksI 12).getD (zs.length + k) 0 = mkI k := by
  rw [List.getD_eq_getElem?_getD, List.getElem?_append_right (Nat.le_add_right _ _), Nat.add_sub_cancel_left]
  unfold marksI
  simp [hk]
theorem frontI_at (zs ms : List Int) (i : Nat) (hi : i < zs.length) : (zs ++ ms).getD i 0 = zs.getD i 0 := by
  rw [List.getD_eq_getElem?_getD, List.getD_eq_getElem?_getD, List.getElem?_append_left hi]
theorem markI_quiet (x : Int) (i : Nat) (w : World) (hi : i < 12) (hx : x = (i : Int)) :
    Calls Tryz.prog 45 #[.int .i64 1, .int .i64 x] w fun e w' => e = .returned (.int .i64 (mkI i)) ∧ w' = w := by
  subst hx
  exact (markI_at i w hi).mono fun _ _ h => ⟨h.1, h.2.symm⟩
theorem subI_back (n k : Nat) : ((n : Int) + (k : Int) - (n : Int)) = (k : Int) := by omega
set_option maxRecDepth 100000 in
set_option maxHeartbeats 800000 in
theorem keptInts_any (zs : List Int) (v : Value) (A : Option Addr) (c : Nat) (w : World) (hv : LentIntsAt w v zs) (hz : IntsAt w A zs) (hl : zs.length ≤ 1000000) :
    Calls Tryz.prog 25 #[v, .slice A zs.length c] w fun e w' => e = .returned (.bool true) ∧ ∃ n, w' = w.drewN n := by
  obtain ⟨g, cap, cs, rfl, hcap, hcm, hg, ht, hr⟩ := hv
  have hne : ((zs.length : Int) != (zs.length : Int)) = false := by simp
  go_enter Tryz.func25, Tryz.ntmps25
  go_wp2_with fail
  go_loopg [6] (zs.length + 12) (fun gg i wx => (∃ nq, wx = w.drewN nq) ∧ ∃ k : Nat, gg = zs.length + 12 - k ∧ k ≤ zs.length + 12 ∧ i = .int .i64 (k : Int))
  case atStart => exact ⟨⟨0, rfl⟩, 0, rfl, by omega, rfl⟩
  case round =>
    obtain ⟨⟨nq, rfl⟩, k, hgk, hk, rfl⟩ := hrel
    have Hgk := Lib.hid hgk; clear hgk
    by_cases hlt : k < zs.length
    · obtain ⟨b, off, rfl⟩ := hz.some_ (by intro e; simp [e] at hlt)
      have c1 := lentI_cell hg ht k (by rw [List.length_append, marksI_len]; omega)
      have c2 := hz.one k hlt
      rw [frontI_at _ _ _ hlt] at c1
      generalize zs.getD k 0 = z at c1 c2
      have hge : ¬ zs.length ≤ k := by omega
      have hlt12 : k < zs.length + 12 := by omega
      go_wp2_with fail
      go_quiet (fail)
      go_wp2_with fail
      go_roundg (zs.length + 12 - (k + 1))
      case measure => rw [Hgk.out]; omega
      case rel => exact ⟨⟨_, rfl⟩, k + 1, rfl, by omega, by go_num⟩
    · by_cases hlt12 : k < zs.length + 12
      · obtain ⟨j, rfl⟩ : ∃ j, k = zs.length + j := ⟨k - zs.length, by omega⟩
        have hj : j < 12 := by omega
        have hgW : (w.drewN nq).heap[g]? = some (.cells cs 3 (0, 0)) := hg
        obtain ⟨W, hW⟩ : ∃ W, w.drewN nq = W := ⟨_, rfl⟩
        rw [hW] at hgW ⊢
        have HW := Lib.hid hW
        clear hW hg hz
        have c1 := lentI_cell hgW ht (zs.length + j) (by rw [List.length_append, marksI_len]; omega)
        rw [marksI_at _ _ hj] at c1
        have hge : decide ((zs.length : Int) ≤ (zs.length : Int) + (j : Int)) = true := decide_eq_true (by omega)
        have hnl : decide ((zs.length : Int) + (j : Int) < (zs.length : Int)) = false := decide_eq_false (by omega)
        go_wp2_with fail
        go_quiet ((go_at_call 45; exact Calls.quiet_of_same (markI_quiet _ j _ hj (by omega))))
        go_wp2_with fail
        go_roundg (zs.length + 12 - (zs.length + j + 1))
        case measure => rw [Hgk.out]; omega
        case rel => exact ⟨⟨_, by rw [← HW.out]; exact World.drewN_drewN _ _ _⟩, zs.length + j + 1, rfl, by omega, by go_num⟩
      · obtain rfl : k = zs.length + 12 := by omega
        go_wp2_with fail
        go_ret
        exact ⟨rfl, _, rfl⟩
theorem lentInts_any (zs : List Int) (A : Option Addr) (c : Nat) (w : World) (hz : IntsAt w A zs) (hl : zs.length ≤ 1000000) (hA : A = none → c = 0) :
    Calls Tryz.prog 10 #[.slice A zs.length c] w fun e w' => ∃ v, e = .returned v ∧ LentIntsAt w' v zs ∧ Below w.heap.size w w' :=
  (lentInts_new zs A c w hz hl hA).mono fun _ _ ⟨v, h1, h2, h3, _⟩ => ⟨v, h1, h2, h3⟩
end Go.Proofs.YtifoiiaddcgngaaGreatDoor
