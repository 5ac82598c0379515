/- The statements' own helpers: a row of bytes lent out, with marks behind its end; is it, with its marks, as it was. -/
import Derived.Test.YtbkecaenjjlmoaaGreatDoorKitChg
import Derived.Laws.AppendOwnNone
import Derived.Maps.AppendAt
namespace Go.Proofs.YtbkecaenjjlmoaaGreatDoor
open Go.RowKit
def mk (i : Nat) : Int := IntKind.u64.wrap ((8000024 + (i : Int)) * 11400714819323198485) / 72057594037927936 % 256
def marksTo (k : Nat) : List Int := (List.range k).map mk
theorem mk_bd (i : Nat) : 0 ≤ mk i ∧ mk i < 256 := by
  unfold mk; omega
theorem marksTo_succ (k : Nat) : marksTo (k + 1) = marksTo k ++ [mk k] := by unfold marksTo; rw [List.range_succ, List.map_append]; rfl
theorem marksTo_len (k : Nat) : (marksTo k).length = k := by unfold marksTo; simp
theorem marksTo_bd (k : Nat) : ∀ z ∈ marksTo k, 0 ≤ z ∧ z < 256 := by
  intro z hz
  unfold marksTo at hz
  rw [List.mem_map] at hz
  obtain ⟨i, _, rfl⟩ := hz
  exact mk_bd i
theorem markByte_at (i : Nat) (w : World) (_hi : i < 12) :
    Calls Tryz.prog 19 #[.int .i64 1, .int .i64 (i : Int)] w fun e w' => e = .returned (.int .u8 (mk i)) ∧ w = w' := by
  go_enter Tryz.func19, Tryz.ntmps19
  go_wp2
  go_ret
  exact ⟨rfl, rfl⟩
/-- A row that was lent: these bytes, and the twelve marks behind them, at the head of a block of bytes. -/
def LentAt (w : World) (v : Value) (zs : List Int) : Prop :=
  ∃ g cap cs, v = .slice (some ⟨g, 0, none⟩) zs.length cap ∧ zs.length + 12 ≤ cap ∧ cap ≤ 9223372036854775807 ∧ w.heap[g]? = some (.cells cs 5 (0, 0)) ∧ cs.toList.take (zs.length + 12) = u8s (zs ++ marksTo 12) ∧ ∀ z ∈ zs, 0 ≤ z ∧ z < 256
theorem lent_of_own {w : World} {B g cap : Nat} {zs : List Int} (h : w.ownsRow B 5 1 (.slice (some ⟨g, 0, none⟩) (zs.length + 12) cap) (zs.length + 12) (u8s (zs ++ marksTo 12))) (hz : ∀ z ∈ zs, 0 ≤ z ∧ z < 256) :
    LentAt w (.slice (some ⟨g, 0, none⟩) zs.length cap) zs := by
  rcases h.2 with ⟨h', _⟩ | ⟨g', cap', cs, h', _, hg, hc, hm, _, ht⟩
  · cases h'
  · obtain ⟨rfl, rfl⟩ : g = g' ∧ cap = cap' := by simpa using h'
    exact ⟨g, cap, cs, rfl, hc, hm, hg, by simpa using ht, hz⟩
set_option maxRecDepth 100000 in
set_option maxHeartbeats 4000000 in
theorem lentBytes_new (zs : List Int) (A : Option Addr) (c : Nat) (w : World) (hz : BytesAt w A zs) (hl : zs.length ≤ 140737488351232) (hA : A = none → c = 0) :
    Calls Tryz.prog 6 #[.slice A zs.length c] w fun e w' => ∃ v, e = .returned v ∧ LentAt w' v zs ∧ Below w.heap.size w w' ∧ ∀ b, v.ownBlock = some b → w.heap.size ≤ b := by
  obtain ⟨i0, hi, hz0, hz1, hz2⟩ := info_parts infoByte
  rcases A with _ | ad
  · obtain rfl : c = 0 := hA rfl
    have hnil : zs = [] := by
      apply Classical.byContradiction
      intro hne
      obtain ⟨b, off, e⟩ := hz.some_ hne
      cases e
    subst hnil
    clear hA
    go_enter Tryz.func6, Tryz.ntmps6
    go_wp2_with (refine wpList_make_own _ rfl _ _ _ rfl w.heap.size 5 i0 (.int .u8 0) 1 Tryz.underlying22 hi hz0 hz1 .i64 .i64 _ 12 rfl rfl rfl (by rw [hz2]; decide) (by decide) (Nat.le_refl _) ?_; intro w1 hown1 hgrow1)
    have hb2 := (Below.refl w.heap.size w).grown hgrow1 (Nat.le_refl _) (fun j e => by cases e)
    have hown2 := hown1
    go_wp2_with (at_builtin; refine wpList_append_own_none rfl _ _ 22 rfl w.heap.size 5 i0 1 Tryz.underlying22 hi _ _ _ rfl hown1 rfl ?_)
    · skip
      go_wp2_with fail
      go_loopg [3, 4] 12 (fun g v i wx => ∃ k : Nat, g = 12 - k ∧ k ≤ 12 ∧ i = .int .i64 (k : Int) ∧ wx.ownsRow w.heap.size 5 1 v (0 + k) (u8s ([] ++ marksTo k)) ∧ Below w.heap.size w wx)
      case atStart => exact ⟨0, rfl, by omega, rfl, own_same hown2 (by simp) (by simp [marksTo, u8s]), hb2⟩
      case round =>
        obtain ⟨k, hgk, hk, rfl, hown3, hb3⟩ := hrel
        have Hgk := Lib.hid hgk; clear hgk
        by_cases hlt : k < 12
        · go_wp2_with fail
          refine (markByte_at k _ hlt).mono ?_
          rintro e w' ⟨rfl, rfl⟩
          have hsz := hb3.size
          go_wp2_with (at_builtin; refine wpList_append_own _ rfl _ _ 22 rfl w.heap.size 5 i0 (.int .u8 0) 1 1 Tryz.underlying22 hi hz0 hz1 hz2 rfl (by decide) _ _ _ rfl (hown3.alloc _) ⟨wr.heap.size, 0, none⟩ 1 1 [.int .u8 (mk k)] rfl rfl (cell_one_new _ _ _) ?c3 ?c4 ?c5 ?c6 ?_)
          case c3 => intro u hu; rw [List.mem_singleton.1 hu]; rfl
          case c4 => unfold maxLen; omega
          case c5 => omega
          case c6 => simp; omega
          intro v3 w3 hown4 hgrow3 _
          go_wp2_with fail
          go_roundg (12 - (k + 1))
          case measure => rw [Hgk.out]; omega
          case rel => exact ⟨k + 1, rfl, by omega, by go_num, own_same hown4 (by omega) (by rw [marksTo_succ]; simp [u8s]), (hb3.alloc hb3.size _).grown hgrow3 (by simp; omega) (fun j e => (hown3.lt j e).1)⟩
        · obtain rfl : k = 12 := by omega
          obtain ⟨g, cap, hv, hgb, hglt, hncap, hcapm⟩ := own_form hown3 (by omega)
          rw [hv] at hown3 ⊢
          have hcm : cap ≤ 9223372036854775807 := hcapm
          have hlt2 : 0 ≤ cap := by omega
          clear hv
          go_wp2_with fail
          go_ret
          exact ⟨_, rfl, lent_of_own hown3 hz.1, hb3, fun b e => by cases e; exact hgb⟩
  · have hsrc : ∀ j u, (u8s zs)[j]? = some u → w.cell? (ad.add j) = some u := fun j u hj => by
      have hne : zs ≠ [] := by intro e; subst e; simp [u8s] at hj
      obtain ⟨b, off, e, hc⟩ := hz.2 hne
      obtain rfl : ad = ⟨b, off, none⟩ := by simpa using e
      simp only [u8s, List.getElem?_map] at hj
      cases hq : zs[j]? with
      | none => simp [hq] at hj
      | some z =>
        obtain rfl : Value.int .u8 z = u := by simpa [hq] using hj
        have h1 := hc j (List.getElem?_eq_some_iff.1 hq).1
        rw [List.getD_eq_getElem?_getD, hq] at h1
        have hadd : (⟨b, off, none⟩ : Addr).add j = ⟨b, off + j, none⟩ := by unfold Addr.add; split <;> simp_all
        rw [hadd]; exact h1
    have Hsrc := Lib.hid hsrc
    clear hA hsrc
    go_enter Tryz.func6, Tryz.ntmps6
    go_wp2_with (first | (refine wpList_make_own _ rfl _ _ _ rfl w.heap.size 5 i0 (.int .u8 0) 1 Tryz.underlying22 hi hz0 hz1 .i64 .i64 _ (zs.length + 12) rfl rfl (by omega) (by rw [hz2]; omega) (by unfold maxLen; omega) (Nat.le_refl _) ?_; intro w1 hown1 hgrow1) | (at_builtin; refine wpList_append_own _ rfl _ _ 22 rfl w.heap.size 5 i0 (.int .u8 0) 1 1 Tryz.underlying22 hi hz0 hz1 hz2 rfl (by decide) _ _ _ rfl hown1 ad zs.length c (u8s zs) rfl ?c1 ?c2 ?c3 ?c4 ?c5 ?c6 ?_))
    case c1 => rw [u8s_len]; omega
    case c2 =>
      intro j u hj
      have h1 := Hsrc.out j u hj
      exact (World.cell?_of_block (hgrow1.block _ (World.block_lt_of_cell? _ _ h1) (by simp))).trans h1
    case c3 => exact u8s_one zs
    case c4 => unfold maxLen; omega
    case c5 => omega
    case c6 => exact hgrow1.size
    intro v2 w2 hown2 hgrow2 _
    · have hb1 := (Below.refl w.heap.size w).grown hgrow1 (Nat.le_refl _) (fun j e => by cases e)
      have hb2 := hb1.grown hgrow2 hgrow1.size (fun j e => by simp [Value.ownBlock] at e; omega)
      go_wp2_with fail
      go_loopg [3, 4] 12 (fun g v i wx => ∃ k : Nat, g = 12 - k ∧ k ≤ 12 ∧ i = .int .i64 (k : Int) ∧ wx.ownsRow w.heap.size 5 1 v (zs.length + k) (u8s (zs ++ marksTo k)) ∧ Below w.heap.size w wx)
      case atStart => exact ⟨0, rfl, by omega, rfl, own_same hown2 (by simp) (by simp [marksTo, u8s]), hb2⟩
      case round =>
        obtain ⟨k, hgk, hk, rfl, hown3, hb3⟩ := hrel
        have Hgk := Lib.hid hgk; clear hgk
        by_cases hlt : k < 12
        · go_wp2_with fail
          refine (markByte_at k _ hlt).mono ?_
          rintro e w' ⟨rfl, rfl⟩
          have hsz := hb3.size
          go_wp2_with (at_builtin; refine wpList_append_own _ rfl _ _ 22 rfl w.heap.size 5 i0 (.int .u8 0) 1 1 Tryz.underlying22 hi hz0 hz1 hz2 rfl (by decide) _ _ _ rfl (hown3.alloc _) ⟨wr.heap.size, 0, none⟩ 1 1 [.int .u8 (mk k)] rfl rfl (cell_one_new _ _ _) ?c3 ?c4 ?c5 ?c6 ?_)
          case c3 => intro u hu; rw [List.mem_singleton.1 hu]; rfl
          case c4 => unfold maxLen; omega
          case c5 => omega
          case c6 => simp; omega
          intro v3 w3 hown4 hgrow3 _
          go_wp2_with fail
          go_roundg (12 - (k + 1))
          case measure => rw [Hgk.out]; omega
          case rel => exact ⟨k + 1, rfl, by omega, by go_num, own_same hown4 (by omega) (by rw [marksTo_succ]; simp [u8s]), (hb3.alloc hb3.size _).grown hgrow3 (by simp; omega) (fun j e => (hown3.lt j e).1)⟩
        · obtain rfl : k = 12 := by omega
          obtain ⟨g, cap, hv, hgb, hglt, hncap, hcapm⟩ := own_form hown3 (by omega)
          rw [hv] at hown3 ⊢
          have hcm : cap ≤ 9223372036854775807 := hcapm
          have hlt2 : zs.length ≤ cap := by omega
          clear hv
          go_wp2_with fail
          go_ret
          exact ⟨_, rfl, lent_of_own hown3 hz.1, hb3, fun b e => by cases e; exact hgb⟩
theorem lentBytes_any (zs : List Int) (A : Option Addr) (c : Nat) (w : World) (hz : BytesAt w A zs) (hl : zs.length ≤ 140737488351232) (hA : A = none → c = 0) :
    Calls Tryz.prog 6 #[.slice A zs.length c] w fun e w' => ∃ v, e = .returned v ∧ LentAt w' v zs ∧ Below w.heap.size w w' :=
  (lentBytes_new zs A c w hz hl hA).mono fun _ _ ⟨v, h1, h2, h3, _⟩ => ⟨v, h1, h2, h3⟩
end Go.Proofs.YtbkecaenjjlmoaaGreatDoor
