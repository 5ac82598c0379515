/- The table made. -/
/- The sum of any parts. -/
/- The sum of a block: the package's. -/
import Derived.Test.YtpdfmpegcejmkaaGreatDoorMixNewMath
import Derived.RegionTactic
import Derived.BigRegion
import Derived.Deep.WholeRow
import Derived.Below
import Derived.Test.YtpdfmpegcejmkaaGreatDoorUnitModel
namespace Go.Proofs.YtpdfmpegcejmkaaGreatDoor
open Go.RowKit
/-- 128 cells. -/
def tcells (f : Nat → BitVec 32) : Array Value := ((List.range 128).map fun i => Value.int .u32 ((f i).toNat : Int)).toArray
theorem tcells_get (f : Nat → BitVec 32) (i : Nat) (hi : i < 128) : (tcells f)[i]? = some (.int .u32 ((f i).toNat : Int)) := by
  unfold tcells; simp [hi]
theorem tcells_set (f h : Nat → BitVec 32) (k : Nat) (x : BitVec 32) (hk : k < 128) (hh : ∀ i, i < 128 → h i = if i = k then x else f i) :
    (tcells f).setIfInBounds k (.int .u32 (x.toNat : Int)) = tcells h := by
  apply Array.ext_getElem?
  intro i
  rw [Array.getElem?_setIfInBounds]
  by_cases hi : i < 128
  · rw [tcells_get h i hi, tcells_get f i hi, hh i hi]
    by_cases e : k = i
    · subst e; rw [if_pos rfl, if_pos rfl]; simp [tcells, hk]
    · rw [if_neg e, if_neg (fun e' => e e'.symm)]
  · have n1 : (tcells f)[i]? = none := by unfold tcells; simp; omega
    have n2 : (tcells h)[i]? = none := by unfold tcells; simp; omega
    rw [n1, n2, if_neg (by omega)]
theorem tcells_congr (f h : Nat → BitVec 32) (hh : ∀ i, i < 128 → f i = h i) : tcells f = tcells h := by
  unfold tcells
  congr 1
  apply List.map_congr_left
  intro i hi
  rw [hh i (List.mem_range.1 hi)]
def lift32 (s : Nat → Nat) (i : Nat) : BitVec 32 := Mx.shN 32 (BitVec.ofNat 32 (s i))
theorem zeroTab (w : World) : (zeroValue 219).run Tryz.prog w = .ok (.agg (tcells fun _ => 0#32)) w := by kernel_rfl
theorem tcells_size (f : Nat → BitVec 32) : (tcells f).size = 128 := by unfold tcells; simp
theorem tcells_one (f : Nat → BitVec 32) : (tcells f).all (·.oneCell') = true := by
  unfold tcells
  rw [Array.all_eq_true_iff_forall_mem]
  intro v hv
  simp at hv
  obtain ⟨i, _, rfl⟩ := hv
  rfl
theorem Below.setRow {B : Nat} {a w : World} (h : Below B a w) {g : Nat} (hg : B ≤ g) (cs : Array Value) : Below B a (w.setRow g cs) :=
  ⟨h.os, h.tape, h.output, by rw [size_setRow]; exact h.size, fun k hk => (setRow_other w g k cs (by omega)).trans (h.block k hk)⟩
/-- Two new blocks of 128 cells: nothing, and these. -/
def twoTabs (w : World) (f : Nat → BitVec 32) (n : Nat) : World := ((w.alloc (.cells (tcells fun _ => 0#32) 219)).alloc (.cells (tcells f) 219)).drewN n
theorem twoTabs_set (w : World) (f h : Nat → BitVec 32) (n k : Nat) (x : BitVec 32) (hk : k < 128) (hh : ∀ i, i < 128 → h i = if i = k then x else f i) :
    (twoTabs w f n).setCell ⟨w.heap.size + 1, k, none⟩ (.int .u32 (x.toNat : Int)) = twoTabs w h n := by
  show (((w.alloc _).alloc _).setCell _ _).drewN n = _
  rw [World.setCell_alloc_at (w := w.alloc (.cells (tcells fun _ => 0#32) 219)) _ _ _ _ _ (by simp), tcells_set f h k x hk hh]
  rfl
theorem twoTabs_below (w : World) (f : Nat → BitVec 32) (n : Nat) : Below w.heap.size w (twoTabs w f n) :=
  Below.drewN (((Below.refl _ _).alloc (Nat.le_refl _) _).alloc (by simp) _) n
theorem twoTabs_old (w : World) (f : Nat → BitVec 32) (n : Nat) : (twoTabs w f n).heap[w.heap.size]? = some (.cells (tcells fun _ => 0#32) 219 (0, 0)) := heap_alloc2_old w _ _
theorem twoTabs_new (w : World) (f : Nat → BitVec 32) (n : Nat) : (twoTabs w f n).heap[w.heap.size + 1]? = some (.cells (tcells f) 219 (0, 0)) := heap_alloc2_new w _ _
theorem step_value (b k m r W : Nat) (h : Nat → BitVec 32) (hb : b < 32) (hr : r = b / 4) (hW : Mx.wt b = W) (hm : m = 2 * Mx.wt b * k) (hlt : m < 16)
    (hh : ∀ i, i < 128 → h i = lift32 (Mx.midway b m) i) :
    ∀ i, i < 128 → lift32 (Mx.midway b (m + 2 * W)) i = if i = r * 16 + (m + W) then (h (r * 16 + m) ^^^ Mx.shN (31 - b) 0x82F63B78#32) else h i := by
  intro i hi
  have hs := Mx.step_at b k i hb (by omega) hi
  rw [show 2 * Mx.wt b * (k + 1) = m + 2 * W by rw [hm, ← hW, Nat.mul_add]; omega, ← hm, hW] at hs
  unfold lift32
  rw [hs, hr, Nat.mul_comm (b / 4) 16]
  by_cases e : i = 16 * (b / 4) + (m + W)
  · rw [if_pos e, if_pos e, Mx.ofNat_xor, Mx.shN_xor, ← Mx.shifted_at b hb, hh _ (by omega)]; rfl
  · rw [if_neg e, if_neg e, hh _ hi]; rfl
theorem twoTabs_draw (w : World) (h : Nat → BitVec 32) (nq n k : Nat) {a : Int} {x : BitVec 32} {h2 : Nat → BitVec 32} (ha : a = (x.toNat : Int)) (hk : k < 128) (hh : ∀ i, i < 128 → h2 i = if i = k then x else h i) :
    ((twoTabs w h nq).drewN n).setCell ⟨w.heap.size + 1, k, none⟩ (.int .u32 a) = twoTabs w h2 (nq + n) := by
  subst ha
  have h0 := twoTabs_set w h h2 (nq + n) k x hk hh
  have e : (twoTabs w h nq).drewN n = twoTabs w h (nq + n) := World.drewN_drewN _ _ _
  rw [e]; exact h0
theorem heap_setRow_old (w : World) (f : Nat → BitVec 32) (n : Nat) : ((twoTabs w f n).setRow w.heap.size (tcells f)).heap[w.heap.size]? = some (.cells (tcells f) 219 (0, 0)) := setRow_heap _ _ _ _ _ _ (twoTabs_old w f n)
theorem bits_tab (x y : BitVec 32) : bits .xor .u32 (x.toNat : Int) (y.toNat : Int) = ((x ^^^ y).toNat : Int) := xor_val x y
set_option maxRecDepth 100000 in
set_option maxHeartbeats 4000000 in
theorem newTable_any (w : World) :
    Calls Tryz.prog 148 #[] w fun e w' => e = .returned (.agg (tcells fun i => Mx.tab (i / 16) (i % 16))) ∧ Below w.heap.size w w' := by
  have hz := zeroTab
  go_enter Tryz.func148, Tryz.ntmps148
  go_wp2_with fail
  go_loopg [2, 3, 4, 5] 32 (fun g s b _ _ wx => ∃ (f : Nat → BitVec 32) (nq : Nat) (bit : Int), wx = twoTabs w f nq ∧ g ≤ 32 ∧ Hid (bit = (g : Int) - 1) ∧ b = .int .i64 bit ∧ s = .int .u32 ((Mx.shN (32 - g) 0x82F63B78#32).toNat : Int) ∧ Hid (∀ i, i < 128 → f i = lift32 (Mx.filled g) i))
  case atStart => exact ⟨fun _ => 0#32, 0, 31, rfl, by omega, Lib.hid rfl, rfl, rfl, Lib.hid (fun i hi => by unfold lift32; rw [Mx.filled_top i hi]; exact (Mx.shN_zero 32).symm)⟩
  case round =>
    obtain ⟨f, nq, bit, rfl, hg, hb, rfl, rfl, hf⟩ := hrel
    by_cases h0 : gk = 0
    · subst h0
      obtain rfl : bit = -1 := by have := hb.out; omega
      have hinfo : (Tryz.prog.info? 219).map (·.size) = some 128 := by kernel_rfl
      have hg1 := twoTabs_new w f nq
      have hg0 := heap_setRow_old w f nq
      go_wp2_with (first | (refine wpList_load_row rfl 219 _ rfl (w.heap.size + 1) rfl 219 (tcells f) (0, 0) _ hg1 Tryz.underlying219 rfl (by rw [tcells_size]; exact hinfo) ?_) | (refine wpList_store_row rfl 219 _ _ rfl w.heap.size (tcells f) rfl rfl 219 (tcells fun _ => 0#32) (twoTabs_old w f nq) (by rw [tcells_size]; exact hinfo) (by rw [tcells_size, tcells_size]) (tcells_one f) ?_))
      refine bodyPost_ret (v := .agg (tcells f)) (results_cell_row rfl _ _ w.heap.size 219 (tcells f) (0, 0) _ rfl hg0 Tryz.underlying219 rfl (by rw [tcells_size]; exact hinfo)) rfl ⟨?_, Below.setRow (twoTabs_below w f nq) (Nat.le_refl _) _⟩
      rw [tcells_congr f (fun i => Mx.tab (i / 16) (i % 16)) (fun i hi => by rw [hf.out i hi]; unfold lift32; rw [Mx.filled_done i hi, Mx.tab_word (i / 16) (i % 16) (by omega), Nat.div_add_mod])]
    · obtain ⟨b, rfl⟩ : ∃ b, gk = b + 1 := ⟨gk - 1, by omega⟩
      obtain rfl : bit = (b : Int) := by have := hb.out; omega
      clear h0
      obtain ⟨r, hr⟩ : ∃ r, r = b / 4 := ⟨_, rfl⟩
      have hq : (b : Int) / 4 = (r : Int) := by omega
      have hr8 : r < 8 := by omega
      have Hr := Lib.hid hr
      have hj : b % 4 = 0 ∨ b % 4 = 1 ∨ b % 4 = 2 ∨ b % 4 = 3 := by omega
      rcases hj with hj | hj | hj | hj
      · have hm : (b : Int) % 4 = 0 := by omega
        have hwt : Mx.wt b = 2 ^ 0 := by unfold Mx.wt; rw [hj]
        simp only [Nat.reducePow] at hwt
        have Hwt := Lib.hid hwt
        clear hr hj hwt
        go_wp2_with fail
        go_loopg [5] 8 (fun g n wx => ∃ (h : Nat → BitVec 32) (nq m k : Nat), wx = twoTabs w h nq ∧ n = .int .i64 (m : Int) ∧ m ≤ 16 ∧ Hid (m = 2 * Mx.wt b * k) ∧ Hid (g + k = 8) ∧ Hid (∀ i, i < 128 → h i = lift32 (Mx.midway b m) i))
        case atStart => exact ⟨f, nq, 0, 0, rfl, rfl, by omega, Lib.hid rfl, Lib.hid rfl, Lib.hid (fun i hi => by rw [hf.out i hi]; unfold lift32; rw [Mx.row_start b i (by omega) hi])⟩
        case round =>
          obtain ⟨h, nq, m, k, rfl, rfl, hm16, hmk, hgk, hh⟩ := hrel
          by_cases hlt : m < 16
          · have hlim : m + 1 < 16 := by have h1 := hmk.out; rw [Hwt.out] at h1; omega
            have hlim2 : m + 2 ≤ 16 := by have h1 := hmk.out; rw [Hwt.out] at h1; omega
            have hd : r * 16 + m < 128 := by omega
            have hd2 : r * 16 + (m + 1) < 128 := by omega
            have c1 : (twoTabs w h nq).cell? ⟨w.heap.size + 1, r * 16 + m, none⟩ = some (.int .u32 ((h (r * 16 + m)).toNat : Int)) := (cell_of_row _ _ _ _ _ _ (twoTabs_new w h nq)).trans (tcells_get h _ hd)
            have c2 : (twoTabs w h nq).cell? ⟨w.heap.size + 1, r * 16 + (m + 1), none⟩ = some (.int .u32 ((h (r * 16 + (m + 1))).toNat : Int)) := (cell_of_row _ _ _ _ _ _ (twoTabs_new w h nq)).trans (tcells_get h _ hd2)
            have c3 : (twoTabs w h nq).frozen? ⟨w.heap.size + 1, r * 16 + (m + 1), none⟩ = false := frozen_of_row _ _ _ _ _ (twoTabs_new w h nq)
            go_wp2_with fail
            go_region
            go_wp2_with fail
            go_roundg (gk - 1)
            case measure => have h1 := hmk.out; have h2 := hgk.out; rw [Hwt.out] at h1; omega
            case rel => exact ⟨lift32 (Mx.midway b (m + 2)), _, m + 2, k + 1, twoTabs_draw w h nq _ _ (bits_tab _ _) hd2 (step_value b k m r 1 h (by omega) Hr.out Hwt.out hmk.out hlt hh.out), rfl, by omega, Lib.hid (by rw [Nat.mul_add, ← hmk.out, Hwt.out]), Lib.hid (by have := hgk.out; have h1 := hmk.out; rw [Hwt.out] at h1; omega), Lib.hid (fun i _ => rfl)⟩
          · obtain rfl : m = 16 := by omega
            go_wp2_with fail
            refine (shift_any _ _).mono ?_
            rintro e w' ⟨rfl, rfl⟩
            go_wp2_with fail
            go_roundg b
            case measure => omega
            case rel => exact ⟨h, nq, (b : Int) - 1, rfl, by omega, Lib.hid rfl, rfl, val_int (by rw [← Mx.shN_succ, show 31 - b + 1 = 32 - b by omega]), Lib.hid (fun i hi => by rw [hh.out i hi]; unfold lift32; rw [Mx.row_end b i (by omega) hi])⟩
      · have hm : (b : Int) % 4 = 1 := by omega
        have hwt : Mx.wt b = 2 ^ 1 := by unfold Mx.wt; rw [hj]
        simp only [Nat.reducePow] at hwt
        have Hwt := Lib.hid hwt
        clear hr hj hwt
        go_wp2_with fail
        go_loopg [5] 8 (fun g n wx => ∃ (h : Nat → BitVec 32) (nq m k : Nat), wx = twoTabs w h nq ∧ n = .int .i64 (m : Int) ∧ m ≤ 16 ∧ Hid (m = 2 * Mx.wt b * k) ∧ Hid (g + k = 8) ∧ Hid (∀ i, i < 128 → h i = lift32 (Mx.midway b m) i))
        case atStart => exact ⟨f, nq, 0, 0, rfl, rfl, by omega, Lib.hid rfl, Lib.hid rfl, Lib.hid (fun i hi => by rw [hf.out i hi]; unfold lift32; rw [Mx.row_start b i (by omega) hi])⟩
        case round =>
          obtain ⟨h, nq, m, k, rfl, rfl, hm16, hmk, hgk, hh⟩ := hrel
          by_cases hlt : m < 16
          · have hlim : m + 2 < 16 := by have h1 := hmk.out; rw [Hwt.out] at h1; omega
            have hlim2 : m + 4 ≤ 16 := by have h1 := hmk.out; rw [Hwt.out] at h1; omega
            have hd : r * 16 + m < 128 := by omega
            have hd2 : r * 16 + (m + 2) < 128 := by omega
            have c1 : (twoTabs w h nq).cell? ⟨w.heap.size + 1, r * 16 + m, none⟩ = some (.int .u32 ((h (r * 16 + m)).toNat : Int)) := (cell_of_row _ _ _ _ _ _ (twoTabs_new w h nq)).trans (tcells_get h _ hd)
            have c2 : (twoTabs w h nq).cell? ⟨w.heap.size + 1, r * 16 + (m + 2), none⟩ = some (.int .u32 ((h (r * 16 + (m + 2))).toNat : Int)) := (cell_of_row _ _ _ _ _ _ (twoTabs_new w h nq)).trans (tcells_get h _ hd2)
            have c3 : (twoTabs w h nq).frozen? ⟨w.heap.size + 1, r * 16 + (m + 2), none⟩ = false := frozen_of_row _ _ _ _ _ (twoTabs_new w h nq)
            go_wp2_with fail
            go_region
            go_wp2_with fail
            go_roundg (gk - 1)
            case measure => have h1 := hmk.out; have h2 := hgk.out; rw [Hwt.out] at h1; omega
            case rel => exact ⟨lift32 (Mx.midway b (m + 4)), _, m + 4, k + 1, twoTabs_draw w h nq _ _ (bits_tab _ _) hd2 (step_value b k m r 2 h (by omega) Hr.out Hwt.out hmk.out hlt hh.out), rfl, by omega, Lib.hid (by rw [Nat.mul_add, ← hmk.out, Hwt.out]), Lib.hid (by have := hgk.out; have h1 := hmk.out; rw [Hwt.out] at h1; omega), Lib.hid (fun i _ => rfl)⟩
          · obtain rfl : m = 16 := by omega
            go_wp2_with fail
            refine (shift_any _ _).mono ?_
            rintro e w' ⟨rfl, rfl⟩
            go_wp2_with fail
            go_roundg b
            case measure => omega
            case rel => exact ⟨h, nq, (b : Int) - 1, rfl, by omega, Lib.hid rfl, rfl, val_int (by rw [← Mx.shN_succ, show 31 - b + 1 = 32 - b by omega]), Lib.hid (fun i hi => by rw [hh.out i hi]; unfold lift32; rw [Mx.row_end b i (by omega) hi])⟩
      · have hm : (b : Int) % 4 = 2 := by omega
        have hwt : Mx.wt b = 2 ^ 2 := by unfold Mx.wt; rw [hj]
        simp only [Nat.reducePow] at hwt
        have Hwt := Lib.hid hwt
        clear hr hj hwt
        go_wp2_with fail
        go_loopg [5] 8 (fun g n wx => ∃ (h : Nat → BitVec 32) (nq m k : Nat), wx = twoTabs w h nq ∧ n = .int .i64 (m : Int) ∧ m ≤ 16 ∧ Hid (m = 2 * Mx.wt b * k) ∧ Hid (g + k = 8) ∧ Hid (∀ i, i < 128 → h i = lift32 (Mx.midway b m) i))
        case atStart => exact ⟨f, nq, 0, 0, rfl, rfl, by omega, Lib.hid rfl, Lib.hid rfl, Lib.hid (fun i hi => by rw [hf.out i hi]; unfold lift32; rw [Mx.row_start b i (by omega) hi])⟩
        case round =>
          obtain ⟨h, nq, m, k, rfl, rfl, hm16, hmk, hgk, hh⟩ := hrel
          by_cases hlt : m < 16
          · have hlim : m + 4 < 16 := by have h1 := hmk.out; rw [Hwt.out] at h1; omega
            have hlim2 : m + 8 ≤ 16 := by have h1 := hmk.out; rw [Hwt.out] at h1; omega
            have hd : r * 16 + m < 128 := by omega
            have hd2 : r * 16 + (m + 4) < 128 := by omega
            have c1 : (twoTabs w h nq).cell? ⟨w.heap.size + 1, r * 16 + m, none⟩ = some (.int .u32 ((h (r * 16 + m)).toNat : Int)) := (cell_of_row _ _ _ _ _ _ (twoTabs_new w h nq)).trans (tcells_get h _ hd)
            have c2 : (twoTabs w h nq).cell? ⟨w.heap.size + 1, r * 16 + (m + 4), none⟩ = some (.int .u32 ((h (r * 16 + (m + 4))).toNat : Int)) := (cell_of_row _ _ _ _ _ _ (twoTabs_new w h nq)).trans (tcells_get h _ hd2)
            have c3 : (twoTabs w h nq).frozen? ⟨w.heap.size + 1, r * 16 + (m + 4), none⟩ = false := frozen_of_row _ _ _ _ _ (twoTabs_new w h nq)
            go_wp2_with fail
            go_region
            go_wp2_with fail
            go_roundg (gk - 1)
            case measure => have h1 := hmk.out; have h2 := hgk.out; rw [Hwt.out] at h1; omega
            case rel => exact ⟨lift32 (Mx.midway b (m + 8)), _, m + 8, k + 1, twoTabs_draw w h nq _ _ (bits_tab _ _) hd2 (step_value b k m r 4 h (by omega) Hr.out Hwt.out hmk.out hlt hh.out), rfl, by omega, Lib.hid (by rw [Nat.mul_add, ← hmk.out, Hwt.out]), Lib.hid (by have := hgk.out; have h1 := hmk.out; rw [Hwt.out] at h1; omega), Lib.hid (fun i _ => rfl)⟩
          · obtain rfl : m = 16 := by omega
            go_wp2_with fail
            refine (shift_any _ _).mono ?_
            rintro e w' ⟨rfl, rfl⟩
            go_wp2_with fail
            go_roundg b
            case measure => omega
            case rel => exact ⟨h, nq, (b : Int) - 1, rfl, by omega, Lib.hid rfl, rfl, val_int (by rw [← Mx.shN_succ, show 31 - b + 1 = 32 - b by omega]), Lib.hid (fun i hi => by rw [hh.out i hi]; unfold lift32; rw [Mx.row_end b i (by omega) hi])⟩
      · have hm : (b : Int) % 4 = 3 := by omega
        have hwt : Mx.wt b = 2 ^ 3 := by unfold Mx.wt; rw [hj]
        simp only [Nat.reducePow] at hwt
        have Hwt := Lib.hid hwt
        clear hr hj hwt
        go_wp2_with fail
        go_loopg [5] 8 (fun g n wx => ∃ (h : Nat → BitVec 32) (nq m k : Nat), wx = twoTabs w h nq ∧ n = .int .i64 (m : Int) ∧ m ≤ 16 ∧ Hid (m = 2 * Mx.wt b * k) ∧ Hid (g + k = 8) ∧ Hid (∀ i, i < 128 → h i = lift32 (Mx.midway b m) i))
        case atStart => exact ⟨f, nq, 0, 0, rfl, rfl, by omega, Lib.hid rfl, Lib.hid rfl, Lib.hid (fun i hi => by rw [hf.out i hi]; unfold lift32; rw [Mx.row_start b i (by omega) hi])⟩
        case round =>
          obtain ⟨h, nq, m, k, rfl, rfl, hm16, hmk, hgk, hh⟩ := hrel
          by_cases hlt : m < 16
          · have hlim : m + 8 < 16 := by have h1 := hmk.out; rw [Hwt.out] at h1; omega
            have hlim2 : m + 16 ≤ 16 := by have h1 := hmk.out; rw [Hwt.out] at h1; omega
            have hd : r * 16 + m < 128 := by omega
            have hd2 : r * 16 + (m + 8) < 128 := by omega
            have c1 : (twoTabs w h nq).cell? ⟨w.heap.size + 1, r * 16 + m, none⟩ = some (.int .u32 ((h (r * 16 + m)).toNat : Int)) := (cell_of_row _ _ _ _ _ _ (twoTabs_new w h nq)).trans (tcells_get h _ hd)
            have c2 : (twoTabs w h nq).cell? ⟨w.heap.size + 1, r * 16 + (m + 8), none⟩ = some (.int .u32 ((h (r * 16 + (m + 8))).toNat : Int)) := (cell_of_row _ _ _ _ _ _ (twoTabs_new w h nq)).trans (tcells_get h _ hd2)
            have c3 : (twoTabs w h nq).frozen? ⟨w.heap.size + 1, r * 16 + (m + 8), none⟩ = false := frozen_of_row _ _ _ _ _ (twoTabs_new w h nq)
            go_wp2_with fail
            go_region
            go_wp2_with fail
            go_roundg (gk - 1)
            case measure => have h1 := hmk.out; have h2 := hgk.out; rw [Hwt.out] at h1; omega
            case rel => exact ⟨lift32 (Mx.midway b (m + 16)), _, m + 16, k + 1, twoTabs_draw w h nq _ _ (bits_tab _ _) hd2 (step_value b k m r 8 h (by omega) Hr.out Hwt.out hmk.out hlt hh.out), rfl, by omega, Lib.hid (by rw [Nat.mul_add, ← hmk.out, Hwt.out]), Lib.hid (by have := hgk.out; have h1 := hmk.out; rw [Hwt.out] at h1; omega), Lib.hid (fun i _ => rfl)⟩
          · obtain rfl : m = 16 := by omega
            go_wp2_with fail
            refine (shift_any _ _).mono ?_
            rintro e w' ⟨rfl, rfl⟩
            go_wp2_with fail
            go_roundg b
            case measure => omega
            case rel => exact ⟨h, nq, (b : Int) - 1, rfl, by omega, Lib.hid rfl, rfl, val_int (by rw [← Mx.shN_succ, show 31 - b + 1 = 32 - b by omega]), Lib.hid (fun i hi => by rw [hh.out i hi]; unfold lift32; rw [Mx.row_end b i (by omega) hi])⟩
end Go.Proofs.YtpdfmpegcejmkaaGreatDoor
namespace Go.Proofs.YtpdfmpegcejmkaaGreatDoor
open Go.RowKit
theorem crc_parts (c : BitVec 32) (ps : List Part) (k : Nat) (p : Part) (h : ps[k]? = some p) : Mx.crc c (bytesOf (ps.take (k + 1))) = Mx.crc (Mx.crc c (bytesOf (ps.take k))) p.zs := by
  rw [List.take_add_one, h]
  unfold bytesOf
  rw [List.flatMap_append, Mx.crc_append]
  simp
theorem tabAt_row (w : World) (g : Nat) (hg : w.heap[g]? = some (.cells (tcells fun i => Mx.tab (i / 16) (i % 16)) 219 (0, 0))) : TabAt w g := by
  intro r n hr hn
  rw [cell_of_row _ _ _ _ _ _ hg, tcells_get _ _ (by omega), show (16 * r + n) / 16 = r by omega, show (16 * r + n) % 16 = n by omega]
theorem compl (x : BitVec 32) : bits .xor .u32 IntKind.u32.max (x.toNat : Int) = ((~~~ x).toNat : Int) := by
  rw [bits_xor, u32_toInt, Mx.not_eq_xor, BitVec.xor_comm]; rfl
set_option maxRecDepth 100000 in
set_option maxHeartbeats 1000000 in
theorem sum_any (ps : List Part) (A : Option Addr) (cap : Nat) (w : World) (hp : PartsAt w A ps) (hn : ps.length ≤ 9223372036854775807) :
    Calls Tryz.prog 115 #[.slice A ps.length cap] w fun e w' => e = .returned (.int .u32 ((Mx.sum (bytesOf ps)).toNat : Int)) ∧ Below w.heap.size w w' := by
  have hz := zeroTab
  have hinfo : (Tryz.prog.info? 219).map (·.size) = some 128 := by kernel_rfl
  go_enter Tryz.func115, Tryz.ntmps115
  go_wp2_with fail
  refine (newTable_any _).mono ?_
  rintro e w1 ⟨rfl, hb1⟩
  have hb2 := hb1.alloc hb1.size (.cells (tcells fun _ => 0#32) 219)
  have hg := heap_alloc_new w1 (.cells (tcells fun _ => 0#32) 219)
  go_wp2_with (refine wpList_store_row rfl 219 _ _ rfl w1.heap.size (tcells fun i => Mx.tab (i / 16) (i % 16)) rfl rfl 219 (tcells fun _ => 0#32) hg (by rw [tcells_size]; exact hinfo) (by rw [tcells_size, tcells_size]) (tcells_one _) ?_)
  have hb3 := Below.setRow hb2 hb1.size (tcells fun i => Mx.tab (i / 16) (i % 16))
  have ht := tabAt_row _ _ (setRow_heap _ _ _ (tcells fun i => Mx.tab (i / 16) (i % 16)) _ _ hg)
  have hps := hp.below hb3
  generalize hw2 : (w1.alloc (.cells (tcells fun _ => 0#32) 219)).setRow w1.heap.size (tcells fun i => Mx.tab (i / 16) (i % 16)) = w2 at hb3 ht hps ⊢
  generalize hgt : w1.heap.size = tb at ht ⊢
  clear hw2 hgt hg hb2 hb1 hinfo hz
  go_loopg [4, 6, 10] ps.length (fun g s _ i wx => (∃ nq, wx = w2.drewN nq) ∧ ∃ (k : Nat), g = ps.length - k ∧ k ≤ ps.length ∧ i = .int .i64 (k : Int) ∧ s = .int .u32 ((Mx.crc 0xFFFFFFFF#32 (bytesOf (ps.take k))).toNat : Int))
  case atStart => exact ⟨⟨0, rfl⟩, 0, rfl, by omega, rfl, rfl⟩
  case round =>
    obtain ⟨⟨nq, rfl⟩, k, hgk, hk, rfl, rfl⟩ := hrel
    have Hg := Lib.hid hgk; clear hgk
    by_cases hlt : k < ps.length
    · have hq : ps[k]? = some ps[k] := List.getElem?_eq_getElem hlt
      generalize hpk : ps[k] = p at hq
      have hm : p ∈ ps := by rw [← hpk]; exact List.getElem_mem hlt
      obtain ⟨b, off, rfl, hc⟩ := hps.2 (by intro e; simp [e] at hlt)
      have c1 : w2.cell? ⟨b, off + k, none⟩ = some (.slice p.A p.zs.length p.cap) := hc k p hq
      have hok := hps.1 p hm
      have hcrc := crc_parts 0xFFFFFFFF#32 ps k p hq
      have Hc := Lib.hid hcrc
      clear hcrc hpk hc hq
      go_wp2_with fail
      refine (addPart_any _ p.zs p.A tb p.cap (w2.drewN nq) hok.1 ht hok.2.1 hok.2.2).mono ?_
      rintro e w' ⟨rfl, n2, rfl⟩
      go_wp2_with fail
      go_roundg (ps.length - (k + 1))
      case measure => rw [Hg.out]; omega
      case rel => exact ⟨⟨_, rfl⟩, k + 1, rfl, by omega, by go_num, by rw [Hc.out]⟩
    · obtain rfl : k = ps.length := by omega
      go_wp2_with fail
      go_ret
      exact ⟨ret_int (compl _), Below.drewN hb3 _⟩
end Go.Proofs.YtpdfmpegcejmkaaGreatDoor
namespace Go.Proofs.YtpdfmpegcejmkaaGreatDoor
open Go.RowKit
theorem cut_low (X : Option Addr) (n k cap : Nat) (w : World) (h1 : k ≤ n) (h2 : n ≤ cap) : (Instr.slice 27 (.slice X n cap) none (some (.int .i64 (k : Int))) none).run Tryz.prog w = .ok (.slice X k cap) w := by
  have hs : (sizeOf (Tryz.prog.elem 27)).run Tryz.prog w = .ok 1 w := by kernel_rfl
  rw [run_slice_h w 27 X n cap (by kernel_rfl) .i64 k (by omega) (by omega), hs]
  have ha : Option.map (fun x : Addr => x.add 0) X = X := by cases X <;> simp [Addr.add]
  simp [Result.andThen, sliced, ha]
/-- The two parts of a block that are summed up. -/
theorem block_parts {w : World} {A : Option Addr} {b : List Int} {c g : Nat} (hb : BytesAt w A b) (hl : b.length = 256) (hc : 256 ≤ c) (hm : c ≤ 9223372036854775807)
    (h0 : w.cell? ⟨g, 0, none⟩ = some (.slice (cutAt A c 36) 220 (c - 36))) (h1 : w.cell? ⟨g, 1, none⟩ = some (.slice A 28 c)) : PartsAt w (some ⟨g, 0, none⟩) [⟨cutAt A c 36, b.drop 36, c - 36⟩, ⟨A, b.take 28, c⟩] := by
  have l36 : (b.drop 36).length = 220 := by rw [List.length_drop, hl]
  have l28 : (b.take 28).length = 28 := by rw [List.length_take, hl]; rfl
  refine ⟨fun x hx => ?_, fun _ => ⟨g, 0, rfl, fun i x hx => ?_⟩⟩
  · simp only [List.mem_cons, List.not_mem_nil, or_false] at hx
    rcases hx with rfl | rfl
    · exact ⟨cut_reads hb (by omega), by show (b.drop 36).length ≤ c - 36; omega, by show c - 36 ≤ _; omega⟩
    · exact ⟨front_reads hb, by show (b.take 28).length ≤ c; omega, hm⟩
  · match i, hx with
    | 0, hx =>
      obtain rfl : (⟨cutAt A c 36, b.drop 36, c - 36⟩ : Part) = x := by simpa using hx
      show _ = some (Value.slice (cutAt A c 36) (b.drop 36).length (c - 36))
      rw [l36]; exact h0
    | 1, hx =>
      obtain rfl : (⟨A, b.take 28, c⟩ : Part) = x := by simpa using hx
      show _ = some (Value.slice A (b.take 28).length c)
      rw [l28]; exact h1
    | i + 2, hx => simp at hx
theorem block_row (A : Option Addr) (b : List Int) (c : Nat) : bytesOf [⟨cutAt A c 36, b.drop 36, c - 36⟩, ⟨A, b.take 28, c⟩] = unitRow b := by unfold bytesOf unitRow; simp
theorem usumRow (w : World) (A : Option Addr) (b : List Int) (c : Nat) (hb : BytesAt w A b) (hl : b.length = 256) (hc : 256 ≤ c) (hm : c ≤ 9223372036854775807) :
    Calls Tryz.prog 115 #[.slice (some ⟨w.heap.size, 0, none⟩) 2 2] (w.alloc (.cells #[.slice (cutAt A c 36) 220 (c - 36), .slice A 28 c] 27)) fun e w' => e = .returned (.int .u32 ((Mx.sum (unitRow b)).toNat : Int)) ∧ Below w.heap.size w w' := by
  have hbn := below_new w (.cells #[.slice (cutAt A c 36) 220 (c - 36), .slice A 28 c] 27)
  obtain ⟨r0, r1⟩ := row2_cells w (.slice (cutAt A c 36) 220 (c - 36)) (.slice A 28 c) 27
  have HS := sum_any _ _ 2 _ (block_parts (hb.below hbn) hl hc hm r0 r1) (by simp)
  rw [block_row] at HS
  refine HS.mono ?_
  rintro e w' ⟨rfl, hb2⟩
  exact ⟨rfl, hbn.trans (hb2.mono hbn.size)⟩
set_option maxRecDepth 100000 in
set_option maxHeartbeats 1000000 in
theorem usum_any (w : World) (A : Option Addr) (b : List Int) (c : Nat) (hb : BytesAt w A b) (hl : b.length = 256) (hc : 256 ≤ c) (hm : c ≤ 9223372036854775807) :
    Calls Tryz.prog 134 #[.slice A 256 c] w fun e w' => e = .returned (.int .u32 ((Mx.sum (unitRow b)).toNat : Int)) ∧ Below w.heap.size w w' := by
  have h1 : ∀ w, (Instr.slice 27 (.slice A 256 c) (some (.int .i64 36)) none none).run Tryz.prog w = .ok (.slice (cutAt A c 36) 220 (c - 36)) w := fun w => cut_run1 A 256 36 c w (by decide)
  have h2 : ∀ w, (Instr.slice 27 (.slice A 256 c) none (some (.int .i64 28)) none).run Tryz.prog w = .ok (.slice A 28 c) w := fun w => cut_low A 256 28 c w (by decide) hc
  have HS : Hid (Calls Tryz.prog 115 #[.slice (some ⟨w.heap.size, 0, none⟩) 2 2] (w.alloc (.cells #[.slice (cutAt A c 36) 220 (c - 36), .slice A 28 c] 27)).drew fun e w' => e = .returned (.int .u32 ((Mx.sum (unitRow b)).toNat : Int)) ∧ Below w.heap.size w.drew w') := Lib.hid (usumRow w.drew A b c hb hl hc hm)
  clear hb hl
  go_enter Tryz.func134, Tryz.ntmps134
  go_wp2_with fail
  go_region_with ((go_at_call 115; refine HS.out.mono ?_; rintro e w1 ⟨rfl, hb1⟩; have hb2 : Below w.heap.size w w1 := undrew hb1))
  all_goals
    go_wp2_with fail
    go_ret
    exact ⟨rfl, hb2⟩
end Go.Proofs.YtpdfmpegcejmkaaGreatDoor
