/- Bits of a block are turned. -/
import Derived.Test.YtgjdoiblgbdebaaDoorDevSeen
import Derived.BigRegion
import Derived.Deep.LoopGhost
namespace Go.Proofs.YtgjdoiblgbdebaaDoor
open Go.RowKit
theorem xor_all : ∀ (x : Fin 256) (j : Fin 8), bits .xor .u8 (x.val : Int) (((1 <<< j.val : Nat)) : Int) = ((x.val ^^^ (1 <<< j.val) : Nat) : Int) ∧ bits .xor .u8 (x.val : Int) 0 = (x.val : Int) := by decide +kernel
theorem mask_bit (m k : Nat) (hm : m < 4294967296) : bits .and .u32 ((m : Int) / 2 ^ k) 1 = if m.testBit k then 1 else 0 := by
  have h1 : ((m : Int) / 2 ^ k) = ((m / 2 ^ k : Nat) : Int) := by rw [Int.natCast_ediv, Int.natCast_pow]; rfl
  have h2 : m / 2 ^ k < 4294967296 := Nat.lt_of_le_of_lt (Nat.div_le_self _ _) hm
  rw [h1, show (1 : Int) = ((1 : Nat) : Int) from rfl, u32_and_nat _ _ h2 (by decide), Nat.and_one_is_mod, Nat.testBit_eq_decide_div_mod_eq]
  have h3 : m / 2 ^ k % 2 = 0 ∨ m / 2 ^ k % 2 = 1 := by omega
  rcases h3 with h3 | h3 <;> simp [h3]
/-- What one bit of the mask makes of a byte. -/
theorem flip_val (x : Int) (hx : 0 ≤ x ∧ x < 256) (m k j : Nat) (hm : m < 4294967296) (hj : j < 8) :
    bits .xor .u8 x (bits .and .u32 ((m : Int) / 2 ^ k) 1 % 256 * 2 ^ j % 256) = if m.testBit k then ((x.toNat ^^^ (1 <<< j) : Nat) : Int) else x := by
  have hx2 : (x.toNat : Int) = x := by omega
  have h := xor_all ⟨x.toNat, by omega⟩ ⟨j, hj⟩
  simp only [hx2] at h
  rw [mask_bit m k hm]
  split
  · have h2 : (1 % 256 * 2 ^ j % 256 : Int) = ((1 <<< j : Nat) : Int) := by
      rw [Nat.one_shiftLeft]
      match j, hj with
      | 0, _ => rfl
      | 1, _ => rfl
      | 2, _ => rfl
      | 3, _ => rfl
      | 4, _ => rfl
      | 5, _ => rfl
      | 6, _ => rfl
      | 7, _ => rfl
    rw [h2]; exact h.1
  · have h2 : (0 % 256 * 2 ^ j % 256 : Int) = 0 := by simp
    rw [h2]; exact h.2
theorem flipAt_set (b : List Int) (bit mask i : Nat) (hok : BlkOk b) (hj : (bit + i) / 8 < 256) : flipAt b bit mask i = b.set ((bit + i) / 8) (if mask.testBit i then (((b.getD ((bit + i) / 8) 0).toNat ^^^ (1 <<< ((bit + i) % 8)) : Nat) : Int) else b.getD ((bit + i) / 8) 0) := by
  unfold flipAt
  split
  · rfl
  · exact (set_same b _ (by rw [hok.1]; exact hj)).symm
section
variable {w : World}
set_option maxRecDepth 100000 in
set_option maxHeartbeats 2000000 in
theorem flip_any (B : Nat) (bs : List Int) (hb : BlkOk bs) (hB : BlockIs w B 84 (u8s bs).toArray) (bit : Nat) (hbit : bit < 2048) (mask : Nat) (hm : mask < 4294967296) :
    Calls Tryd.prog 61 #[.pointer (some ⟨B, 0, none⟩), .int .i64 (bit : Int), .int .u32 (mask : Int)] w fun e w' => e = .returned (.tuple #[]) ∧ BlockIs w' B 84 (u8s (flipK bs bit mask (min 32 (2048 - bit)))).toArray ∧ w.grownBy w' (some B) ∧ w'.heap.size = w.heap.size := by
  obtain ⟨N, hN⟩ : ∃ N, N = min 32 (2048 - bit) := ⟨_, rfl⟩
  have hN' : (N : Int) = min 32 (2048 - (bit : Int)) := by omega
  have hN1 : N ≤ 32 := by omega
  have hN2 : bit + N ≤ 2048 := by omega
  rw [← hN]
  have h1 : ¬ (bit : Int) < 0 := by omega
  have h2 : ¬ (2048 : Int) ≤ (bit : Int) := by omega
  have HN := Lib.hid hN
  clear hN
  have hmin : (N = 32 ∧ (32 : Int) ≤ 2048 - (bit : Int)) ∨ ((N : Int) = 2048 - (bit : Int) ∧ ¬ (32 : Int) ≤ 2048 - (bit : Int)) := by omega
  clear hN'
  rcases hmin with ⟨hN3, hmin⟩ | ⟨hN3, hmin⟩
  · have hN4 : (N : Int) = 32 := by omega
    go_enter Tryd.func61, Tryd.ntmps61
    go_wp2_with fail
    go_loopg [17] N (fun g i wx => ∃ k : Nat, g = N - k ∧ k ≤ N ∧ i = .int .i64 (k : Int) ∧ Hid (BlockIs wx B 84 (u8s (flipK bs bit mask k)).toArray ∧ w.grownBy wx (some B) ∧ wx.heap.size = w.heap.size))
    case atStart => exact ⟨0, rfl, by omega, rfl, Lib.hid ⟨hB, World.grownBy.refl _ _, rfl⟩⟩
    case round =>
      obtain ⟨k, hgk, hk, rfl, hR⟩ := hrel
      have Hgk := Lib.hid hgk; clear hgk
      by_cases hlt : k < N
      · have hlt' : (k : Int) < 32 := by omega
        have hlt2 : (k : Int) < 2048 - (bit : Int) := by omega
        have hok := flipK_ok hb bit mask k
        have hj : (bit + k) / 8 < 256 := by omega
        have cx : wr.cell? ⟨B, (bit + k) / 8, none⟩ = some (.int .u8 ((flipK bs bit mask k).getD ((bit + k) / 8) 0)) := by
          rw [hR.out.1.cell, List.getElem?_toArray]
          unfold u8s
          rw [List.getElem?_map, List.getD_eq_getElem?_getD, List.getElem?_eq_getElem (by rw [hok.1]; exact hj)]; rfl
        have fx := hR.out.1.free ((bit + k) / 8)
        have hxb : 0 ≤ (flipK bs bit mask k).getD ((bit + k) / 8) 0 ∧ (flipK bs bit mask k).getD ((bit + k) / 8) 0 < 256 := by
          rw [List.getD_eq_getElem?_getD, List.getElem?_eq_getElem (by rw [hok.1]; exact hj)]
          exact hok.2 _ (List.getElem_mem _)
        have hfl := flip_val _ hxb mask k ((bit + k) % 8) hm (Nat.mod_lt _ (by decide))
        have HF : Hid (flipK bs bit mask (k + 1) = (flipK bs bit mask k).set ((bit + k) / 8) (bits .xor .u8 ((flipK bs bit mask k).getD ((bit + k) / 8) 0) (bits .and .u32 ((mask : Int) / 2 ^ k) 1 % 256 * 2 ^ ((bit + k) % 8) % 256))) := Lib.hid (by
          rw [hfl]
          exact flipAt_set _ _ _ _ hok hj)
        clear hfl hxb
        generalize (flipK bs bit mask k).getD ((bit + k) / 8) 0 = x at *
        go_wp2_with fail
        go_region
        have HS := Lib.hid (hR.out.1.set1 ((bit + k) / 8) (.int .u8 (bits .xor .u8 x (bits .and .u32 ((mask : Int) / 2 ^ k) 1 % 256 * 2 ^ ((bit + k) % 8) % 256))))
        clear cx fx
        generalize (bits .xor .u8 x (bits .and .u32 ((mask : Int) / 2 ^ k) 1 % 256 * 2 ^ ((bit + k) % 8) % 256)) = y at *
        go_wp2_with fail
        go_roundg (N - (k + 1))
        case measure => rw [Hgk.out]; omega
        case rel =>
          refine ⟨k + 1, rfl, by omega, by go_num, Lib.hid ⟨?_, ?_, ?_⟩⟩
          · have h := HS.out
            rw [HF.out]
            rw [List.setIfInBounds_toArray, u8s_set] at h
            exact h
          · have hg := grown_at hR.out.2.1 ((bit + k) / 8) (.int .u8 y)
            exact ⟨hg.os, hg.tape, hg.output, hg.size, hg.block⟩
          · show (wr.setCell _ _).heap.size = _
            rw [set_size]; exact hR.out.2.2
      · obtain rfl : k = N := by omega
        have hge : ¬ (k : Int) < 32 := by omega
        go_wp2_with fail
        go_end0
        have h := hR.out
        rw [hN3] at h
        exact ⟨rfl, h⟩
  · have hN4 : (2048 : Int) - (bit : Int) ≤ 32 := by omega
    go_enter Tryd.func61, Tryd.ntmps61
    go_wp2_with fail
    go_loopg [17] N (fun g i wx => ∃ k : Nat, g = N - k ∧ k ≤ N ∧ i = .int .i64 (k : Int) ∧ Hid (BlockIs wx B 84 (u8s (flipK bs bit mask k)).toArray ∧ w.grownBy wx (some B) ∧ wx.heap.size = w.heap.size))
    case atStart => exact ⟨0, rfl, by omega, rfl, Lib.hid ⟨hB, World.grownBy.refl _ _, rfl⟩⟩
    case round =>
      obtain ⟨k, hgk, hk, rfl, hR⟩ := hrel
      have Hgk := Lib.hid hgk; clear hgk
      by_cases hlt : k < N
      · have hlt' : (k : Int) < 32 := by omega
        have hlt2 : (k : Int) < 2048 - (bit : Int) := by omega
        have hok := flipK_ok hb bit mask k
        have hj : (bit + k) / 8 < 256 := by omega
        have cx : wr.cell? ⟨B, (bit + k) / 8, none⟩ = some (.int .u8 ((flipK bs bit mask k).getD ((bit + k) / 8) 0)) := by
          rw [hR.out.1.cell, List.getElem?_toArray]
          unfold u8s
          rw [List.getElem?_map, List.getD_eq_getElem?_getD, List.getElem?_eq_getElem (by rw [hok.1]; exact hj)]; rfl
        have fx := hR.out.1.free ((bit + k) / 8)
        have hxb : 0 ≤ (flipK bs bit mask k).getD ((bit + k) / 8) 0 ∧ (flipK bs bit mask k).getD ((bit + k) / 8) 0 < 256 := by
          rw [List.getD_eq_getElem?_getD, List.getElem?_eq_getElem (by rw [hok.1]; exact hj)]
          exact hok.2 _ (List.getElem_mem _)
        have hfl := flip_val _ hxb mask k ((bit + k) % 8) hm (Nat.mod_lt _ (by decide))
        have HF : Hid (flipK bs bit mask (k + 1) = (flipK bs bit mask k).set ((bit + k) / 8) (bits .xor .u8 ((flipK bs bit mask k).getD ((bit + k) / 8) 0) (bits .and .u32 ((mask : Int) / 2 ^ k) 1 % 256 * 2 ^ ((bit + k) % 8) % 256))) := Lib.hid (by
          rw [hfl]
          exact flipAt_set _ _ _ _ hok hj)
        clear hfl hxb
        generalize (flipK bs bit mask k).getD ((bit + k) / 8) 0 = x at *
        go_wp2_with fail
        go_region
        have HS := Lib.hid (hR.out.1.set1 ((bit + k) / 8) (.int .u8 (bits .xor .u8 x (bits .and .u32 ((mask : Int) / 2 ^ k) 1 % 256 * 2 ^ ((bit + k) % 8) % 256))))
        clear cx fx
        generalize (bits .xor .u8 x (bits .and .u32 ((mask : Int) / 2 ^ k) 1 % 256 * 2 ^ ((bit + k) % 8) % 256)) = y at *
        go_wp2_with fail
        go_roundg (N - (k + 1))
        case measure => rw [Hgk.out]; omega
        case rel =>
          refine ⟨k + 1, rfl, by omega, by go_num, Lib.hid ⟨?_, ?_, ?_⟩⟩
          · have h := HS.out
            rw [HF.out]
            rw [List.setIfInBounds_toArray, u8s_set] at h
            exact h
          · have hg := grown_at hR.out.2.1 ((bit + k) / 8) (.int .u8 y)
            exact ⟨hg.os, hg.tape, hg.output, hg.size, hg.block⟩
          · show (wr.setCell _ _).heap.size = _
            rw [set_size]; exact hR.out.2.2
      · obtain rfl : k = N := by omega
        have hge : ¬ (k : Int) < 2048 - (bit : Int) := by omega
        go_wp2_with fail
        go_end0
        exact ⟨rfl, hR.out⟩
end
end Go.Proofs.YtgjdoiblgbdebaaDoor
