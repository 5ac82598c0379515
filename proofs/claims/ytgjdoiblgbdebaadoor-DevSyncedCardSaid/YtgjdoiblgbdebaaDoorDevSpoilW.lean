/- A block is wiped. -/
import Derived.Test.YtgjdoiblgbdebaaDoorDevSpoil
namespace Go.Proofs.YtgjdoiblgbdebaaDoor
open Go.RowKit
section
variable {w : World} {T : Nat → Prop} {dk C : Nat} {wv : Value} {hu tu cr : Nat} {M : List MCell} {ws : List (Nat × List Int)} {left : Int} {dn : Bool}
set_option maxRecDepth 100000 in
set_option maxHeartbeats 2000000 in
theorem spoil_wipe (σ : SenD) (hG : GlD σ w) (hS : GlS σ w) (hT : ∀ b, σ.blk b → ¬ T b) (hTS : ∀ b, σ.blkS b → ¬ T b) (k : DevR w T dk C wv hu tu cr M ws left dn) (hu1 : hu ≤ 4096) (n : Nat) (hn : n < M.length) (bs' : List Int) (hb' : BlkOk bs') (caps : Array Value) (hcaps : caps = #[])
    (hch : Calls Tryd.prog 62 #[.pointer (some ⟨w.heap.size, 0, none⟩)] (w.alloc (.cells (u8s (M.getD n default).bs).toArray 84)) fun e w3 => e = .returned (.tuple #[]) ∧ BlockIs w3 w.heap.size 84 (u8s bs').toArray ∧ (w.alloc (.cells (u8s (M.getD n default).bs).toArray 84)).grownBy w3 (some w.heap.size)) :
    Calls Tryd.prog 59 #[.pointer (some ⟨dk, 0, none⟩), .int .i64 (n : Int), .func (.func 62) #[] caps] w fun e w' => e = .returned ((spoilE (M.getD n default) bs').val σ) ∧ DevR w' (grow T w w') dk C wv (spoilHu (M.getD n default) bs' hu) tu cr (spoilM M n bs') ws left dn ∧ Chg T w w' := by
  subst hcaps
  have HT := Lib.hid (has_any k (n : Int))
  rw [show hasB M (n : Int) = true by unfold hasB; exact decide_eq_true ⟨by omega, by omega⟩] at HT
  obtain ⟨c0, c1, c2, c3, c4, c5, c6, c7⟩ := k.cell8
  have hM := k.many
  have hbn := below_new w (.cells (u8s (M.getD n default).bs).toArray 84)
  have Hk := Lib.hid k
  have HK := Lib.hid (And.intro hbn (And.intro hG (And.intro hS (And.intro hT hTS))))
  have Hch := Lib.hid hch
  have Hr := Lib.hid (k.block hn)
  have Hb := Lib.hid (k.mb _ (List.getElem_mem hn))
  have hgd := getD_at hn
  rw [← hgd] at Hr Hb
  obtain ⟨m, hm⟩ : ∃ m, M.getD n default = m := ⟨_, rfl⟩
  have Hm := Lib.hid hm
  rw [hm] at Hr Hb Hch HK
  have hlen : (u8s m.bs).length = 256 := by rw [u8s_len, Hb.out.1]
  have hz := zeroBlock
  have hst := fun w' => store_block1 w' Hb.out
  clear k hG hS hT hTS hch c0 c1 c2 c5 c6 c7 hgd hm hbn
  go_enter Tryd.func59, Tryd.ntmps59
  go_wp2_with fail
  refine (told_any _ dk c3).mono ?_
  rintro e w' ⟨rfl, rfl⟩
  go_wp2_with fail
  refine HT.out.mono ?_
  rintro e w' ⟨rfl, rfl⟩
  go_wp2_with fail
  refine wp_load_mid 84 (.tmp 26) rfl C (n * 258) (by simp [Act.eval]) (u8s m.bs) _ Hr.out Tryd.underlying84 rfl (by rw [sizeBlock, hlen]) ?_
  go_wp2_with fail
  refine Hch.out.mono ?_
  rintro e w3 ⟨rfl, hB3, hg3⟩
  have Hs1 := Lib.hid (size1 w (.cells (u8s m.bs).toArray 84))
  have Hk3 : Hid (DevR w3 T dk C wv hu tu cr M ws left dn ∧ Chg T w w3 ∧ GlD σ w3 ∧ GlS σ w3 ∧ w.heap.size < w3.heap.size) := by
    have hc1 : Chg T w (w.alloc (.cells (u8s m.bs).toArray 84)) := Chg.of_below HK.out.1
    have hs := hg3.size
    have hs1 := Hs1.out
    have hc3 : Chg T w w3 := hc1.trans (Chg.of_grown hg3 (fun b e => by injection e with e; subst e; exact .inr ⟨Nat.le_refl _, by omega⟩))
    have hkeep : ∀ b, b < w.heap.size → w3.heap[b]? = w.heap[b]? := fun b hb => (hg3.block b (by omega) (fun e => by injection e with e; omega)).trans (HK.out.1.block b hb)
    exact Lib.hid ⟨Hk.out.keep (by omega) (fun b hb => hkeep b (Hk.out.foot b hb)), hc3, HK.out.2.1.keep (fun b hb => hkeep b (HK.out.2.1.lt hb)), HK.out.2.2.1.keep (fun b hb => hkeep b (HK.out.2.2.1.lt hb)), by omega⟩
  have HB3 := Lib.hid hB3
  have hlen2 : (u8s bs').length = 256 := by rw [u8s_len, hb'.1]
  have Hr3 := Lib.hid (Hk3.out.1.block hn)
  rw [← getD_at hn, Hm.out] at Hr3
  have HrB : Hid (w3.rangeAt w.heap.size 0 (u8s bs')) := Lib.hid (fun j v hj => by rw [Nat.zero_add]; exact (HB3.out.cell j).trans (by rw [List.getElem?_toArray]; exact hj))
  have heq := fun w' => eq_block bs' m.bs hb'.1 Hb.out.1 w'
  clear hz hst hB3 hg3 c3 c4
  go_wp2_with fail
  refine wp_region_held_drew (S := fun w' => w'.rangeAt w.heap.size 0 (u8s bs') ∧ w'.rangeAt C (n * 258) (u8s m.bs)) (by kernel_rfl) ⟨HrB.out, Hr3.out⟩ (fun hS0 => ?_)
  refine wpAnyH_take (i := 0) rfl (by kernel_rfl) (by kernel_rfl) (by kernel_rfl) (fun _ _ _ h => h) (yieldsIf_load_mid (by rfl) 84 (.tmp 8) rfl w.heap.size (0) rfl (u8s bs') _ (fun w' hS => hS.1) Tryd.underlying84 rfl (by rw [sizeBlock, hlen2])) hS0 ?_
  simp only [Act.put, List.getElem_toArray, List.getElem_cons_zero, List.setIfInBounds_toArray, List.set_cons_zero, List.set_cons_succ]
  refine wpAnyH_take (i := 1) (v := ?_) rfl (by kernel_rfl) (by kernel_rfl) (by kernel_rfl) (fun _ _ _ h => h) (Or.inl ⟨by rfl, ?_⟩) hS0 ?_
  rotate_left
  · (intro w' _; go_simp); try with_reducible rfl
  simp only [Act.put, List.getElem_toArray, List.getElem_cons_zero, List.getElem_cons_succ, List.setIfInBounds_toArray, List.set_cons_zero, List.set_cons_succ]
  refine wpAnyH_take (i := 2) (v := ?_) rfl (by kernel_rfl) (by kernel_rfl) (by kernel_rfl) (fun _ _ _ h => h) (Or.inl ⟨by rfl, ?_⟩) hS0 ?_
  rotate_left
  · (intro w' _; go_simp); try with_reducible rfl
  simp only [Act.put, List.getElem_toArray, List.getElem_cons_zero, List.getElem_cons_succ, List.setIfInBounds_toArray, List.set_cons_zero, List.set_cons_succ]
  refine wpAnyH_take (i := 3) (v := ?_) rfl (by kernel_rfl) (by kernel_rfl) (by kernel_rfl) (fun _ _ _ h => h) (Or.inl ⟨by rfl, ?_⟩) hS0 ?_
  rotate_left
  · (intro w' _; go_simp); try with_reducible rfl
  simp only [Act.put, List.getElem_toArray, List.getElem_cons_zero, List.getElem_cons_succ, List.setIfInBounds_toArray, List.set_cons_zero, List.set_cons_succ]
  refine wpAnyH_take (i := 4) rfl (by kernel_rfl) (by kernel_rfl) (by kernel_rfl) (fun _ _ _ h => h) (yieldsIf_load_mid (by rfl) 84 (.tmp 34) rfl C (n * 258) rfl (u8s m.bs) _ (fun w' hS => hS.2) Tryd.underlying84 rfl (by rw [sizeBlock, hlen])) hS0 ?_
  simp only [Act.put, List.getElem_toArray, List.getElem_cons_zero, List.getElem_cons_succ, List.setIfInBounds_toArray, List.set_cons_zero, List.set_cons_succ]
  refine wpAnyH_take (i := 5) (v := ?_) rfl (by kernel_rfl) (by kernel_rfl) (by kernel_rfl) (fun _ _ _ h => h) (Or.inl ⟨by rfl, ?_⟩) hS0 ?_
  rotate_left
  · (intro w' _; go_simp); try with_reducible rfl
  simp only [Act.put, List.getElem_toArray, List.getElem_cons_zero, List.getElem_cons_succ, List.setIfInBounds_toArray, List.set_cons_zero, List.set_cons_succ]
  refine wpAnyH_take (i := 6) (v := ?_) rfl (by kernel_rfl) (by kernel_rfl) (by kernel_rfl) (fun _ _ _ h => h) (Or.inl ⟨by rfl, ?_⟩) hS0 ?_
  rotate_left
  · (intro w' _; go_simp); try with_reducible rfl
  simp only [Act.put, List.getElem_toArray, List.getElem_cons_zero, List.getElem_cons_succ, List.setIfInBounds_toArray, List.set_cons_zero, List.set_cons_succ]
  refine wpAnyH_done (by kernel_rfl) ?_ _
  have hg3 := Hk3.out.2.2.2.1.sm
  have hg4 := Hk3.out.2.2.1.hu
  unfold errK at hg3 hg4
  have cH : w3.cell? ⟨C, n * 258 + 256, none⟩ = some (.bool m.hurt) := by
    rw [Hk3.out.1.at_ hn (by decide), ← getD_at hn, Hm.out]; exact cellV_hurt Hb.out
  clear heq
  by_cases he : bs' = m.bs
  · have HE : Hid (spoilE m bs' = .sm ∧ spoilHu m bs' hu = hu ∧ spoilM M n bs' = M) := Lib.hid (by unfold spoilE spoilHu spoilM; rw [Hm.out, if_pos he, if_pos he, if_pos he]; exact ⟨rfl, rfl, rfl⟩)
    have hdec : decide (bs' = m.bs) = true := decide_eq_true he
    rw [hdec]
    clear hdec he
    go_wp2_with fail
    go_ret
    rw [Hm.out, HE.out.1, HE.out.2.1, HE.out.2.2]
    exact ⟨rfl, (Hk3.out.1.drew).mono (fun _ hj => .inl hj) (grow_lt Hk.out.foot Hk3.out.2.1.size), Hk3.out.2.1.drew⟩
  · have hdec : decide (bs' = m.bs) = false := decide_eq_false he
    rw [hdec]
    cases hh : m.hurt with
    | true =>
      have HE : Hid (spoilE m bs' = .hu ∧ spoilHu m bs' hu = hu ∧ spoilM M n bs' = M) := Lib.hid (by unfold spoilE spoilHu spoilM; rw [Hm.out, if_neg he, if_neg he, if_neg he, if_pos hh, if_pos hh, if_pos hh]; exact ⟨rfl, rfl, rfl⟩)
      rw [hh] at cH
      clear hdec he hh
      go_wp2_with fail
      go_ret
      rw [Hm.out, HE.out.1, HE.out.2.1, HE.out.2.2]
      exact ⟨rfl, (Hk3.out.1.drew).mono (fun _ hj => .inl hj) (grow_lt Hk.out.foot Hk3.out.2.1.size), Hk3.out.2.1.drew⟩
    | false =>
      have hnh : ¬ m.hurt = true := by rw [hh]; decide
      have HE : Hid (spoilE m bs' = .ok ∧ spoilHu m bs' hu = hu + 1 ∧ spoilM M n bs' = M.set n { M.getD n default with bs := bs', hurt := true }) := Lib.hid (by unfold spoilE spoilHu spoilM; rw [Hm.out, if_neg he, if_neg he, if_neg he, if_neg hnh, if_neg hnh, if_neg hnh]; exact ⟨rfl, rfl, rfl⟩)
      rw [hh] at cH
      clear hdec he hh hnh
      have hst3 := run_storeCells_at Tryd.prog C (n * 258) 86 (u8s bs') 0 (M.flatMap cellV).toArray w3.drew Hk3.out.1.cells (by
        rw [hlen2, List.size_toArray, flat_len cellV 258 M Hk3.out.1.wid]
        have : (n + 1) * 258 ≤ M.length * 258 := Nat.mul_le_mul_right 258 hn
        rw [Nat.add_mul] at this; omega) (u8s_one _)
      have hB4 : BlockIs (w3.drew.setRow C ((M.flatMap cellV).toArray.toList.take (n * 258 + 0) ++ u8s bs' ++ (M.flatMap cellV).toArray.toList.drop (n * 258 + 0 + (u8s bs').length)).toArray) C 86 (Go.splice (M.flatMap cellV) (n * 258) (u8s bs')).toArray := by
        have := setRow_heap w3.drew C (M.flatMap cellV).toArray ((M.flatMap cellV).toArray.toList.take (n * 258 + 0) ++ u8s bs' ++ (M.flatMap cellV).toArray.toList.drop (n * 258 + 0 + (u8s bs').length)).toArray 86 (0, 0) Hk3.out.1.cells
        exact this.trans (congrArg (fun l : List Value => some (Obj.cells l.toArray 86 (0, 0))) (by unfold Go.splice; rw [List.append_assoc]; rfl))
      have ho4 : ∀ b, b ≠ C → (w3.drew.setRow C ((M.flatMap cellV).toArray.toList.take (n * 258 + 0) ++ u8s bs' ++ (M.flatMap cellV).toArray.toList.drop (n * 258 + 0 + (u8s bs').length)).toArray).heap[b]? = w3.heap[b]? := fun b hb => setRow_other _ _ _ _ hb
      have hs4 : (w3.drew.setRow C ((M.flatMap cellV).toArray.toList.take (n * 258 + 0) ++ u8s bs' ++ (M.flatMap cellV).toArray.toList.drop (n * 258 + 0 + (u8s bs').length)).toArray).heap.size = w3.heap.size := by simp
      have hq4 : (w3.drew.setRow C ((M.flatMap cellV).toArray.toList.take (n * 258 + 0) ++ u8s bs' ++ (M.flatMap cellV).toArray.toList.drop (n * 258 + 0 + (u8s bs').length)).toArray).os = w3.os ∧ (w3.drew.setRow C ((M.flatMap cellV).toArray.toList.take (n * 258 + 0) ++ u8s bs' ++ (M.flatMap cellV).toArray.toList.drop (n * 258 + 0 + (u8s bs').length)).toArray).tape = w3.tape ∧ (w3.drew.setRow C ((M.flatMap cellV).toArray.toList.take (n * 258 + 0) ++ u8s bs' ++ (M.flatMap cellV).toArray.toList.drop (n * 258 + 0 + (u8s bs').length)).toArray).output = w3.output := ⟨rfl, rfl, rfl⟩
      generalize w3.drew.setRow C ((M.flatMap cellV).toArray.toList.take (n * 258 + 0) ++ u8s bs' ++ (M.flatMap cellV).toArray.toList.drop (n * 258 + 0 + (u8s bs').length)).toArray = w4 at *
      have k4 := Hk3.out.1.spoilt hn hb' (w' := w4) (Nat.le_of_eq hs4.symm) (fun b _ hb => ho4 b hb) hB4
      have hc4 : Chg T w w4 := ⟨hq4.1.trans Hk3.out.2.1.os, hq4.2.1.trans Hk3.out.2.1.tape, hq4.2.2.trans Hk3.out.2.1.output, by rw [hs4]; exact Hk3.out.2.1.size, fun b hb hT => (ho4 b (fun e => hT (e ▸ Hk.out.tc))).trans (Hk3.out.2.1.block b hb hT)⟩
      have hn4 : n < (M.set n { M.getD n default with bs := bs' }).length := by rw [List.length_set]; exact hn
      have k5 := k4.setHurt hn4 true
      rw [getD_at hn4, List.getElem_set_self, List.set_set] at k5
      have f4 := k4.cells.free (n * 258 + 256)
      have c4 : w4.cell? ⟨C, n * 258 + 256, none⟩ = some (.bool m.hurt) := by
        rw [k4.at_ hn4 (by decide), List.getElem_set_self, cellV_hurt (m := { M.getD n default with bs := bs' }) hb', Hm.out]
      have c0 := k5.cell8.1
      have f0 := k5.blk.free 0
      have hw : wrap64 ((hu : Int) + 1) = (hu : Int) + 1 := by unfold wrap64; omega
      have HK5 : Hid (DevR ((w4.setCell ⟨C, n * 258 + 256, none⟩ (.bool true)).setCell ⟨dk, 0, none⟩ (.int .i64 ((hu : Int) + 1))) T dk C wv (hu + 1) tu cr (M.set n { M.getD n default with bs := bs', hurt := true }) ws left dn ∧ Chg T w ((w4.setCell ⟨C, n * 258 + 256, none⟩ (.bool true)).setCell ⟨dk, 0, none⟩ (.int .i64 ((hu : Int) + 1)))) :=
        Lib.hid ⟨k5.own8 (set_size _ _ _) (fun b hb => set_other _ _ _ _ _ hb) (k5.blk.set1 0 (.int .i64 ((hu : Int) + 1))), (hc4.set (.inl Hk.out.tc) _).set (.inl Hk.out.self) _⟩
      clear hB4 ho4 hs4 hq4 k4 hc4 hn4 k5
      go_wp2_with fail
      refine wp_load_mid 84 (.tmp 8) rfl w.heap.size 0 (by simp [Act.eval]) (u8s bs') _ hS0.1 Tryd.underlying84 rfl (by rw [sizeBlock, hlen2]) ?_
      go_wp2_with fail
      go_ret
      rw [← getD_at hn, Hm.out, HE.out.1, HE.out.2.1, HE.out.2.2]
      exact ⟨rfl, HK5.out.1.mono (fun _ hj => .inl hj) (grow_lt Hk.out.foot HK5.out.2.size), HK5.out.2⟩
end
end Go.Proofs.YtgjdoiblgbdebaaDoor
