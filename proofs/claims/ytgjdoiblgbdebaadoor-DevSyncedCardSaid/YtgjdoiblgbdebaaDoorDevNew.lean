/- A new disk. -/
import Derived.Test.YtgjdoiblgbdebaaDoorDevSeen
namespace Go.Proofs.YtgjdoiblgbdebaaDoor
open Go.RowKit
/-- So many new blocks, cell by cell. -/
theorem made_cells (n : Nat) : madeCells zeroC (n * 258) = ((List.replicate n (⟨zero256, false, 0⟩ : MCell)).flatMap cellV).toArray := by
  have hw : ∀ x ∈ List.replicate n (⟨zero256, false, 0⟩ : MCell), (cellV x).length = 258 := fun x hx => by rw [List.eq_of_mem_replicate hx]; exact cellV_len nought_ok
  have hl := flat_len cellV 258 _ hw
  rw [List.length_replicate] at hl
  have key : ∀ i, i < n * 258 → (madeCells zeroC (n * 258))[i]? = ((List.replicate n (⟨zero256, false, 0⟩ : MCell)).flatMap cellV)[i]? := fun i hi => by
    have h1 : i / 258 < (List.replicate n (⟨zero256, false, 0⟩ : MCell)).length := by rw [List.length_replicate]; omega
    have h2 := flat_at cellV 258 hw h1 (i := i % 258) (Nat.mod_lt _ (by decide))
    rw [show i / 258 * 258 + i % 258 = i by omega, List.getElem_replicate] at h2
    rw [h2]
    have hlt : i % 258 < zeroC.size := by rw [zeroC_size]; exact Nat.mod_lt _ (by decide)
    have h3 : zeroC[i % 258]? = (cellV ⟨zero256, false, 0⟩)[i % 258]? := by unfold zeroC; rw [List.getElem?_toArray]
    rw [← h3, Array.getElem?_eq_getElem hlt]
    unfold madeCells
    rw [Array.getElem?_map, Array.getElem?_range, if_pos hi, zeroC_size]
    show some (zeroC[i % 258]!) = _
    exact congrArg some (getElem!_pos zeroC (i % 258) hlt)
  generalize hL : (List.replicate n (⟨zero256, false, 0⟩ : MCell)).flatMap cellV = L at *
  have hs : (madeCells zeroC (n * 258)).size = n * 258 := size_madeCells _ _
  apply Array.ext
  · rw [hs, List.size_toArray, hl]
  · intro i h1 h2
    have := key i (by omega)
    rw [Array.getElem?_eq_getElem h1, List.getElem?_eq_getElem (by simpa using h2)] at this
    injection this
section
variable {w : World}
theorem newLinks {n : Nat} (h0 : 0 < n) : DevL (DM.new n) 0 0 0 (List.replicate n ⟨zero256, false, 0⟩) [] 0 false := by
  have hc : (DM.new n).cells = (List.replicate n (⟨zero256, false, 0⟩ : MCell)).map MCell.cell := by
    unfold DM.new; rw [List.map_replicate]; rfl
  have := DevL.mk' (D := DM.new n) (left := 0) hc (fun j m hm => by rw [List.eq_of_mem_replicate (List.mem_of_getElem? hm)]; rfl) (fun _ => rfl) (by omega) (by simpa using h0)
  rw [show mHurts (List.replicate n (⟨zero256, false, 0⟩ : MCell)) = 0 by unfold mHurts; simp] at this
  exact this
set_option maxRecDepth 100000 in
set_option maxHeartbeats 1000000 in
theorem new_any (n : Nat) (h0 : 0 < n) (h1 : n ≤ 4096) :
    Calls Tryd.prog 9 #[.int .i64 (n : Int)] w fun e w' => ∃ h, e = .returned (.tuple #[.pointer (some ⟨h, 0, none⟩), .int .i64 0]) ∧ DevAt w' (fun k => w.heap.size ≤ k ∧ k < w'.heap.size) h (DM.new n) ∧ Below w.heap.size w w' := by
  obtain ⟨i0, hi, hz0, hz1, hz2⟩ := info_parts infoCell
  have hmk : ∀ w' : World, (Instr.makeSlice 57 (.int .i64 (n : Int)) (.int .i64 (n : Int))).run Tryd.prog w' = .ok (.slice (some ⟨w'.heap.size, 0, none⟩) n n) (w'.alloc (.cells ((List.replicate n (⟨zero256, false, 0⟩ : MCell)).flatMap cellV).toArray 86)) := fun w' => by
    have := run_make (P := Tryd.prog) w' 57 86 i0 (.agg zeroC) Tryd.underlying57 hi hz0 .i64 .i64 (n : Int) (n : Int) (by omega) (Int.le_refl _) (by rw [hz2]; omega) (by omega)
    rw [Int.toNat_natCast, hz1] at this
    rw [this]
    show Result.ok _ (w'.alloc (.cells (madeCells zeroC (n * 258)) 86)) = _
    rw [made_cells]
  clear hi hz0 hz1 hz2
  have hn1 : ¬ (n : Int) < 1 := by omega
  have hn2 : ¬ (n : Int) > 4096 := by omega
  have HL := Lib.hid (newLinks h0)
  obtain ⟨X, hX⟩ : ∃ X, ((List.replicate n (⟨zero256, false, 0⟩ : MCell)).flatMap cellV).toArray = X := ⟨_, rfl⟩
  have HX := Lib.hid hX
  rw [hX] at hmk
  clear hX
  go_enter Tryd.func9, Tryd.ntmps9
  go_wp2_with fail
  go_ret2
  have hB1 := BlockIs.made w 86 X
  have n2 := below_new (w.alloc (.cells X 86)) (.cells #[.int .i64 0, .int .i64 0, .int .i64 0, .pointer (some ⟨w.heap.size + 1, 0, none⟩), .slice (some ⟨w.heap.size, 0, none⟩) n n, .slice none 0 0, .int .i64 0, .bool false] 62)
  have hB2 := BlockIs.made (w.alloc (.cells X 86)) 62 #[.int .i64 0, .int .i64 0, .int .i64 0, .pointer (some ⟨w.heap.size + 1, 0, none⟩), .slice (some ⟨w.heap.size, 0, none⟩) n n, .slice none 0 0, .int .i64 0, .bool false]
  have hC := hB1.below n2 hB1.lt
  rw [size1] at hB2
  have hs : ((w.alloc (.cells X 86)).alloc (.cells #[.int .i64 0, .int .i64 0, .int .i64 0, .pointer (some ⟨w.heap.size + 1, 0, none⟩), .slice (some ⟨w.heap.size, 0, none⟩) n n, .slice none 0 0, .int .i64 0, .bool false] 62)).heap.size = w.heap.size + 2 := by simp
  have hbb := (below_new w (.cells X 86)).trans (n2.mono (below_new w (.cells X 86)).size)
  generalize ((w.alloc (.cells X 86)).alloc (.cells #[.int .i64 0, .int .i64 0, .int .i64 0, .pointer (some ⟨w.heap.size + 1, 0, none⟩), .slice (some ⟨w.heap.size, 0, none⟩) n n, .slice none 0 0, .int .i64 0, .bool false] 62)) = w3 at *
  rw [← HX.out] at hC
  refine ⟨w.heap.size + 1, rfl, ⟨w.heap.size, .slice none 0 0, 0, 0, 0, List.replicate n ⟨zero256, false, 0⟩, [], 0, false, ⟨fun k hk => hk.2, ⟨by omega, by omega⟩, ⟨by omega, by omega⟩, by omega, ?_, hC, World.ownsRow_nil _ _ _ _, by simp [Value.ownBlock], by simp [Value.ownBlock], (fun b hb => by simp [Value.ownBlock] at hb), (fun m hm => by rw [List.eq_of_mem_replicate hm]; exact nought_ok), by simpa using h1, (fun p hp => by cases hp)⟩, HL.out⟩, hbb⟩
  rw [List.length_replicate]
  exact hB2
set_option maxRecDepth 100000 in
theorem new_no (n : Int) (h : n < 1 ∨ 4096 < n) :
    Calls Tryd.prog 9 #[.int .i64 n] w fun e w' => e = .returned (.tuple #[.pointer none, .int .i64 2]) ∧ w = w' := by
  rcases h with h | h
  · go_enter Tryd.func9, Tryd.ntmps9
    go_wp2_with fail
    go_ret2
    exact ⟨rfl, rfl⟩
  · have h1 : ¬ n < 1 := by omega
    go_enter Tryd.func9, Tryd.ntmps9
    go_wp2_with fail
    go_ret2
    exact ⟨rfl, rfl⟩
end
end Go.Proofs.YtgjdoiblgbdebaaDoor
