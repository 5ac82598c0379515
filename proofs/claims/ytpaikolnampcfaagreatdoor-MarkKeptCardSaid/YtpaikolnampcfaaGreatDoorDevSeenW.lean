/- What is seen of a block: the walk. -/
import Derived.Test.YtpaikolnampcfaaGreatDoorDevStored
import Derived.Deep.DeepCutAuto
namespace Go.Proofs.YtpaikolnampcfaaGreatDoor
open Go.RowKit
section
variable {w : World} {T : Nat → Prop} {dk C : Nat} {wv : Value} {hu tu cr : Nat} {M : List MCell} {ws : List (Nat × List Int)} {left : Int} {dn : Bool}
set_option maxRecDepth 100000 in
set_option maxHeartbeats 1000000 in
theorem seen_any (k : DevR w T dk C wv hu tu cr M ws left dn) (n : Nat) (hn : n < M.length) (hlast : (M.getD n default).last ≤ ws.length) :
    Calls Tryz.prog 163 #[.pointer (some ⟨dk, 0, none⟩), .int .i64 (n : Int)] w fun e w' => e = .returned (.agg (u8s (seenM M ws n)).toArray) ∧ Below w.heap.size w w' := by
  have hb1 := below_new w (.cells zeroB 119)
  have k1 := k.below hb1
  have c4 := k1.cell8.2.2.2.2.1
  have hz1 := zeroBlock
  have Hz2 := Lib.hid zeroCell
  have Hr := Lib.hid (k1.range hn)
  have Hm := Lib.hid (k.mb _ (List.getElem_mem hn))
  have hM := k.many
  have he := getD_at hn
  obtain ⟨m, hm⟩ : ∃ m, M[n] = m := ⟨_, rfl⟩
  rw [hm] at Hr Hm he
  rw [he] at hlast
  have Hs : Hid (seenM M ws n = if m.last = 0 then m.bs else (ws.getD (m.last - 1) (0, [])).2) := Lib.hid (by unfold seenM; rw [he])
  have Hst := Lib.hid (store_cell2 w (.cells zeroB 119) Hm.out)
  have Hlen := Lib.hid (cellV_len Hm.out)
  have Hk := Lib.hid k
  have Hg := Lib.hid (fun h => cellV_get Hm.out h)
  have hn2 := below_new (w.alloc (.cells zeroB 119)) (.cells (cellV m).toArray 121)
  have HB2 : Hid (Below w.heap.size w ((w.alloc (.cells zeroB 119)).alloc (.cells (cellV m).toArray 121))) := Lib.hid (hb1.trans (hn2.mono hb1.size))
  have HZ : Hid (BlockIs ((w.alloc (.cells zeroB 119)).alloc (.cells (cellV m).toArray 121)) w.heap.size 119 zeroB) := Lib.hid ((BlockIs.made w _ _).below hn2 (BlockIs.made w _ _).lt)
  have HC : Hid (BlockIs ((w.alloc (.cells zeroB 119)).alloc (.cells (cellV m).toArray 121)) (w.heap.size + 1) 121 (cellV m).toArray) := Lib.hid (by have := BlockIs.made (w.alloc (.cells zeroB 119)) 121 (cellV m).toArray; rw [size1] at this; exact this)
  have K2 := Lib.hid (k.below HB2.out)
  clear he hm k k1 hb1 hn2
  go_enter Tryz.func163, Tryz.ntmps163
  go_wp2_with fail
  refine wp_load_mid 121 (.tmp 11) rfl C (n * 258) (by simp [Act.eval]) (cellV m) _ Hr.out Tryz.underlying121 rfl (by rw [sizeCell, Hlen.out]) ?_
  have hz2 := Hz2.out
  have hst := Hst.out
  have hlen := Hlen.out
  go_upto_region 2 with fail
  clear hz1 hz2 hst hlen c4
  have c257 : ((w.alloc (.cells zeroB 119)).alloc (.cells (cellV m).toArray 121)).cell? ⟨w.heap.size + 1, 257, none⟩ = some (.int .i64 (m.last : Int)) := by rw [HC.out.cell, List.getElem?_toArray]; exact cellV_last Hm.out
  have c5 := K2.out.cell8.2.2.2.2.2.1
  generalize ((w.alloc (.cells zeroB 119)).alloc (.cells (cellV m).toArray 121)) = w2 at *
  by_cases hl0 : m.last = 0
  · rw [if_pos hl0] at Hs
    have hl1 : ¬ (0 : Int) < (m.last : Int) := by omega
    have hlen2 : (u8s m.bs).length = 256 := by rw [u8s_len, Hm.out.1]
    have hst2 := store_all (P := Tryz.prog) HZ.out (u8s m.bs) (by rw [zeroB_size]; exact hlen2) (u8s_one _)
    have Hr2 : Hid (w2.rangeAt (w.heap.size + 1) 0 (u8s m.bs)) := Lib.hid fun j v hj => by
      rw [Nat.zero_add, HC.out.cell, List.getElem?_toArray]
      unfold cellV
      rw [List.getElem?_append_left (List.getElem?_eq_some_iff.1 hj).1, hj]
    go_wp2_with fail
    refine wp_load_mid 119 (.tmp 26) rfl (w.heap.size + 1) 0 (by simp [Act.eval]) (u8s m.bs) _ Hr2.out Tryz.underlying119 rfl (by rw [sizeBlock, hlen2]) ?_
    go_wp2_with fail
    refine bodyPost_ret (v := .agg (u8s m.bs).toArray) (results_cell_row rfl _ _ w.heap.size 119 (u8s m.bs).toArray (0, 0) _ rfl (setRow_heap _ _ _ _ _ _ HZ.out) Tryz.underlying119 rfl (by rw [sizeBlock, List.size_toArray, hlen2])) rfl ⟨?_, below_setRow HB2.out (Nat.le_refl _) _⟩
    rw [Hs.out]
  · rw [if_neg hl0] at Hs
    obtain ⟨i, hi⟩ : ∃ i, m.last = i + 1 := ⟨m.last - 1, by omega⟩
    rw [hi] at hlast c257 Hs
    clear hl0 hi
    have hlt : i < ws.length := by omega
    obtain ⟨g, cap, hwv, hg2, hg3, hg4, hrg⟩ := range_write K2.out.own (BlkOk.wr K2.out) hlt
    have hpb := (K2.out.wb _ (List.getElem_mem hlt)).2
    rw [Nat.add_sub_cancel, List.getD_eq_getElem?_getD, List.getElem?_eq_getElem hlt] at Hs
    obtain ⟨p, hp⟩ : ∃ p, ws[i] = p := ⟨_, rfl⟩
    rw [hp] at hrg hpb Hs
    clear hp
    rw [hwv] at c5
    have hlen2 : (u8s p.2).length = 256 := by rw [u8s_len, hpb.1]
    have Hr3 := Lib.hid (write_block hrg)
    have Hp := Lib.hid hpb
    have hmax : ws.length ≤ 9223372036854775807 := by have : maxLen = 9223372036854775807 := rfl; omega
    have hwi : IntKind.i64.wrap (i : Int) = (i : Int) := by rw [IntKind.wrap_i64]; omega
    have hi1 : (i : Int) < (ws.length : Int) := by omega
    clear hrg hpb hg2 hg3
    go_wp2_with fail
    refine wp_region_held_drew (S := fun w' => w'.cell? ⟨dk, 5, none⟩ = some (.slice (some ⟨g, 0, none⟩) ws.length cap) ∧ w'.cell? ⟨w.heap.size + 1, 257, none⟩ = some (.int .i64 ((i : Int) + 1)) ∧ w'.rangeAt g (i * 257 + 1) (u8s p.2)) (by kernel_rfl) ⟨c5, by simpa using c257, Hr3.out⟩ (fun hS0 => ?_)
    refine wpAnyH_take (i := 0) (v := ?_) rfl (by kernel_rfl) (by kernel_rfl) (by kernel_rfl) (fun _ _ _ h => h) (Or.inl ⟨by rfl, ?_⟩) hS0 ?_
    rotate_left
    · (intro w' _; go_simp); try with_reducible rfl
    simp only [Act.put, List.getElem_toArray, List.getElem_cons_zero, List.setIfInBounds_toArray, List.set_cons_zero, List.set_cons_succ]
    refine wpAnyH_take (i := 1) (v := ?_) rfl (by kernel_rfl) (by kernel_rfl) (by kernel_rfl) (fun _ _ _ h => h) (Or.inl ⟨by rfl, ?_⟩) hS0 ?_
    rotate_left
    · (intro w' _; go_simp); try with_reducible rfl
    simp only [Act.put, List.getElem_toArray, List.getElem_cons_zero, List.getElem_cons_succ, List.setIfInBounds_toArray, List.set_cons_zero, List.set_cons_succ]
    refine wpAnyH_take (i := 2) (v := ?_) rfl (by kernel_rfl) (by kernel_rfl) (by kernel_rfl) (fun _ _ _ h => h) (Or.inl ⟨by rfl, ?_⟩) hS0 ?_
    rotate_left
    · (intro w' _; go_simp); try with_reducible rfl
    simp only [Act.put, List.getElem_toArray, List.getElem_cons_zero, List.getElem_cons_succ, List.setIfInBounds_toArray, List.set_cons_zero, List.set_cons_succ]
    refine wpAnyH_take (i := 3) (v := ?_) rfl (by kernel_rfl) (by kernel_rfl) (by kernel_rfl) (fun _ _ _ h => h) (Or.inl ⟨by rfl, ?_⟩) hS0 ?_
    rotate_left
    · (intro w' hSw; obtain ⟨hS1, hS2, _⟩ := hSw; go_simp); try with_reducible rfl
    simp only [Act.put, List.getElem_toArray, List.getElem_cons_zero, List.getElem_cons_succ, List.setIfInBounds_toArray, List.set_cons_zero, List.set_cons_succ]
    refine wpAnyH_take (i := 4) (v := ?_) rfl (by kernel_rfl) (by kernel_rfl) (by kernel_rfl) (fun _ _ _ h => h) (Or.inl ⟨by rfl, ?_⟩) hS0 ?_
    rotate_left
    · (intro w' _; go_simp); try with_reducible rfl
    simp only [Act.put, List.getElem_toArray, List.getElem_cons_zero, List.getElem_cons_succ, List.setIfInBounds_toArray, List.set_cons_zero, List.set_cons_succ]
    refine wpAnyH_take (i := 5) (v := ?_) rfl (by kernel_rfl) (by kernel_rfl) (by kernel_rfl) (fun _ _ _ h => h) (Or.inl ⟨by rfl, ?_⟩) hS0 ?_
    rotate_left
    · (intro w' hSw; obtain ⟨hS1, hS2, _⟩ := hSw; go_simp); try with_reducible rfl
    simp only [Act.put, List.getElem_toArray, List.getElem_cons_zero, List.getElem_cons_succ, List.setIfInBounds_toArray, List.set_cons_zero, List.set_cons_succ]
    refine wpAnyH_take (i := 6) (v := ?_) rfl (by kernel_rfl) (by kernel_rfl) (by kernel_rfl) (fun _ _ _ h => h) (Or.inl ⟨by rfl, ?_⟩) hS0 ?_
    rotate_left
    · (intro w' _; go_simp); try with_reducible rfl
    simp only [Act.put, List.getElem_toArray, List.getElem_cons_zero, List.getElem_cons_succ, List.setIfInBounds_toArray, List.set_cons_zero, List.set_cons_succ]
    refine wpAnyH_take (i := 7) (v := ?_) rfl (by kernel_rfl) (by kernel_rfl) (by kernel_rfl) (fun _ _ _ h => h) (Or.inl ⟨by rfl, ?_⟩) hS0 ?_
    rotate_left
    · (intro w' _; go_simp); try with_reducible rfl
    simp only [Act.put, List.getElem_toArray, List.getElem_cons_zero, List.getElem_cons_succ, List.setIfInBounds_toArray, List.set_cons_zero, List.set_cons_succ]
    refine wpAnyH_take (i := 8) (v := ?_) rfl (by kernel_rfl) (by kernel_rfl) (by kernel_rfl) (fun _ _ _ h => h) (Or.inl ⟨by rfl, ?_⟩) hS0 ?_
    rotate_left
    · (intro w' _; go_simp); try with_reducible rfl
    simp only [Act.put, List.getElem_toArray, List.getElem_cons_zero, List.getElem_cons_succ, List.setIfInBounds_toArray, List.set_cons_zero, List.set_cons_succ]
    refine wpAnyH_take (i := 9) rfl (by kernel_rfl) (by kernel_rfl) (by kernel_rfl) (fun _ _ _ h => h) (yieldsIf_load_mid (by rfl) 119 (.tmp 24) rfl g (i * 257 + 1) rfl (u8s p.2) _ (fun w' hS => hS.2.2) Tryz.underlying119 rfl (by rw [sizeBlock, hlen2])) hS0 ?_
    simp only [Act.put, List.getElem_toArray, List.getElem_cons_zero, List.getElem_cons_succ, List.setIfInBounds_toArray, List.set_cons_zero, List.set_cons_succ]
    refine wpAnyH_ready (rs := [10]) (by kernel_rfl) (by simp) ?_
    refine AllReadyH.cons rfl (fun K hK => ?_) AllReadyH.nil
    rw [if_pos (by rfl)]
    refine wp_store_row 119 (.tmp 4) (.tmp 25) rfl w.heap.size (u8s p.2).toArray rfl rfl 119 zeroB HZ.out (by rw [sizeBlock, List.size_toArray, hlen2]) (by rw [zeroB_size, List.size_toArray, hlen2]) (all_oneCell_toArray (u8s_one _)) ?_
    have hn1 : dk ≠ w.heap.size := fun e => by have := Hk.out.lt; omega
    have hn2 : g ≠ w.heap.size := fun e => by have := own_lt Hk.out.own (b := g) (by rw [hwv]; rfl); omega
    refine hK.out _ _ ⟨(World.cell?_of_block (a := ⟨dk, 5, none⟩) (setRow_other _ _ _ _ hn1)).trans hS0.1, (World.cell?_of_block (a := ⟨w.heap.size + 1, 257, none⟩) (setRow_other _ _ _ _ (by show w.heap.size + 1 ≠ _; omega))).trans hS0.2.1, fun j v hj => (World.cell?_of_block (a := ⟨g, i * 257 + 1 + j, none⟩) (setRow_other _ _ _ _ hn2)).trans (hS0.2.2 j v hj)⟩ (fun _ => ?_)
    clear hK K
    refine wpAnyH_done (by kernel_rfl) ?_ _
    go_wp2_with fail
    refine bodyPost_ret (v := .agg (u8s p.2).toArray) (results_cell_row rfl _ _ w.heap.size 119 (u8s p.2).toArray (0, 0) _ rfl (setRow_heap _ _ _ _ _ _ HZ.out) Tryz.underlying119 rfl (by rw [sizeBlock, List.size_toArray, hlen2])) rfl ⟨?_, below_setRow HB2.out.drew (Nat.le_refl _) _⟩
    rw [Hs.out]; rfl
end
end Go.Proofs.YtpaikolnampcfaaGreatDoor
