/- All writes that wait are stored, or lost: the walk. -/
import Derived.Test.YtgjdoiblgbdebaaDoorDevSettle
import Derived.Deep.RegionHeld
namespace Go.Proofs.YtgjdoiblgbdebaaDoor
open Go.RowKit
section
variable {w : World} {T : Nat → Prop} {h C : Nat} {wv : Value} {tu cr : Nat} {M : List MCell} {ws : List (Nat × List Int)} {left : Int} {dn : Bool}
set_option maxRecDepth 100000 in
set_option maxHeartbeats 1000000 in
theorem settle_sync (k : DevR w T h C wv (mHurts M) tu cr M ws left dn) (hl : ws.length ≤ 1000000000) :
    Calls Tryd.prog 50 #[.pointer (some ⟨h, 0, none⟩), .func (.func 51) #[] #[]] w fun e w' => e = .returned (.tuple #[]) ∧
      DevR w' (grow T w w') h C (.slice none 0 0) (mHurts (settleM M ws (fun _ => 8) ws.length)) tu cr (settleM M ws (fun _ => 8) ws.length) [] left dn ∧ Chg T w w' := by
  have c5 := k.cell8.2.2.2.2.2.1
  obtain ⟨X, cap, hwv, hcap, hmax⟩ := own_slice k.own
  have hwv' : wv = .slice X ws.length cap := hwv
  rw [hwv'] at c5
  have Hk := Lib.hid k
  have Hf := Lib.hid k.foot
  clear k hwv
  go_enter Tryd.func50, Tryd.ntmps50
  go_wp2_with fail
  go_loopg [11] ws.length (fun g i wx => ∃ k : Nat, g = ws.length - k ∧ k ≤ ws.length ∧ i = .int .i64 (k : Int) ∧ Hid (DevR wx (grow T w wx) h C wv (mHurts (settleM M ws (fun _ => 8) k)) tu cr (settleM M ws (fun _ => 8) k) ws left dn) ∧ Hid (Chg T w wx))
  case atStart => exact ⟨0, rfl, by omega, rfl, Lib.hid (Hk.out.mono (fun _ hj => .inl hj) (grow_lt Hf.out (Nat.le_refl _))), Lib.hid (Chg.refl _ _)⟩
  case round =>
    obtain ⟨k, hgk, hk, rfl, hR, hC⟩ := hrel
    have Hgk := Lib.hid hgk; clear hgk
    by_cases hlt : k < ws.length
    · obtain ⟨g, cap', hg1, hg2, hg3, hg4, hrg⟩ := range_write hR.out.own (BlkOk.wr hR.out) hlt
      rw [hwv'] at hg1
      injection hg1 with hX hl0 hcc
      subst hX hcc
      clear hl0
      have Hrg := Lib.hid hrg
      have Hp := Lib.hid (hR.out.wb _ (List.getElem_mem hlt))
      have Hpk := Lib.hid (List.getElem?_eq_getElem hlt)
      generalize ws[k] = p at Hrg Hp Hpk
      have hz := zeroWrite
      have hst := fun w' => store_write w' Hp.out.2
      have hlen := writeV_len Hp.out.2
      clear hg2 hg3 hg4 hrg
      go_wp2_with fail
      refine wp_load_mid 101 (.tmp 14) rfl g (k * 257) (by simp [Act.eval]) (writeV p) _ Hrg.out Tryd.underlying101 rfl (by rw [sizeWrite, writeV_len Hp.out.2]) ?_
      have hrange := World.rangeAt_setCells_same
      have hbn := below_new wr (.cells (writeV p).toArray 101)
      have hB := BlockIs.made wr 101 (writeV p).toArray
      have H2 := Lib.hid (And.intro ((hR.out.below hbn).drew) (And.intro hB hbn))
      have Hrw : Hid ((wr.alloc (.cells (writeV p).toArray 101)).drew.rangeAt wr.heap.size 0 (writeV p)) := Lib.hid (fun j v hj => by rw [Nat.zero_add]; exact (hB.cell j).trans (by rw [List.getElem?_toArray]; exact hj))
      have hsz : (wr.alloc (.cells (writeV p).toArray 101)).heap.size = wr.heap.size + 1 := by simp
      have Hsz := Lib.hid hsz
      have HS := Lib.hid (store_any H2.out.1 p Hp.out.1 Hp.out.2 8 (Nat.le_refl 8) (Nat.le_trans (mHurts_le _) H2.out.1.many) (fun hh => mHurts_pos Hp.out.1 hh))
      clear hrange hbn hB hsz
      go_wp2_with fail
      clear hz hst hlen
      generalize (wr.alloc (.cells (writeV p).toArray 101)) = w2 at *
      refine wp_region_held_drew (S := fun w' => w'.rangeAt wr.heap.size 0 (writeV p)) (by kernel_rfl) Hrw.out (fun hS0 => ?_)
      refine wpAnyH_take (i := 0) (v := ?_) rfl (by kernel_rfl) (by kernel_rfl) (by kernel_rfl) (fun _ _ _ h => h) (Or.inl ⟨by rfl, ?_⟩) hS0 ?_
      rotate_left
      · (intro w' _; go_simp); try with_reducible rfl
      simp only [Act.put, List.setIfInBounds_toArray]
      refine wpAnyH_take (i := 1) rfl (by kernel_rfl) (by kernel_rfl) (by kernel_rfl) (fun _ _ _ h => h) (yieldsIf_load_mid (by rfl) 101 (.tmp 5) rfl wr.heap.size 0 rfl (writeV p) _ (fun w' hS => hS) Tryd.underlying101 rfl (by rw [sizeWrite, writeV_len Hp.out.2])) hS0 ?_
      simp only [Act.put]
      refine wpAnyH_take (i := 2) (v := ?_) rfl (by kernel_rfl) (by kernel_rfl) (by kernel_rfl) (fun _ _ _ h => h) (Or.inl ⟨by rfl, ?_⟩) hS0 ?_
      rotate_left
      · (intro w' _; go_simp); try with_reducible rfl
      simp only [Act.put]
      refine wpAnyH_take (i := 3) (v := ?_) rfl (by kernel_rfl) (by kernel_rfl) (by kernel_rfl) (fun _ _ _ h => h) (Or.inl ⟨by rfl, ?_⟩) hS0 ?_
      rotate_left
      · (intro w' _; go_simp); try with_reducible rfl
      simp only [Act.put]
      refine wpAnyH_ready (rs := [4]) (by kernel_rfl) (by simp) ?_
      refine AllReadyH.cons rfl (fun K hK => ?_) AllReadyH.nil
      go_simp
      go_wp2_with (first | (go_at_call 51; refine (fate_sync k _).mono ?_; rintro e w' ⟨rfl, rfl⟩))
      refine hK.out _ _ hS0 (fun _ => ?_)
      clear hK K
      refine wpAnyH_ready (rs := [5]) (by kernel_rfl) (by simp) ?_
      refine AllReadyH.cons rfl (fun K hK => ?_) AllReadyH.nil
      go_simp
      go_wp2_with (first | (go_at_call 69; refine HS.out.mono ?_; rintro e w3 ⟨rfl, hd3, hc3⟩; have Hd3 := Lib.hid hd3; have Hc3 := Lib.hid hc3; clear hd3 hc3))
      have hBw : ¬ grow T w wr wr.heap.size := by
        rintro (hj | hj)
        · have h1 := Hf.out _ hj; have h2 := hC.out.size; omega
        · exact absurd hj.2 (Nat.lt_irrefl _)
      have hB3 : w3.heap[wr.heap.size]? = w2.drew.heap[wr.heap.size]? := Hc3.out.block _ (by show wr.heap.size < w2.heap.size; rw [Hsz.out]; omega) hBw
      refine hK.out _ _ (fun j v hj => (World.cell?_of_block hB3).trans (Hrw.out j v hj)) (fun _ => ?_)
      clear hK K
      refine wpAnyH_done (by kernel_rfl) ?_ _
      have b0 : w3.cell? ⟨wr.heap.size, 0, none⟩ = some (.int .i64 (p.1 : Int)) := (World.cell?_of_block (a := ⟨wr.heap.size, 0, none⟩) hB3).trans (H2.out.2.1.cell 0)
      have c4 := Hd3.out.cell8.2.2.2.2.1
      have cL := Hd3.out.at_ (n := p.1) (by rw [storedM_len]; exact Hp.out.1) (show 257 < 258 by decide)
      rw [cellV_last (Hd3.out.mb _ (List.getElem_mem _))] at cL
      have fL := Hd3.out.cells.free (p.1 * 258 + 257)
      rw [storedM_len, settleM_len] at c4
      have hp1 : p.1 < M.length := by have := Hp.out.1; rw [settleM_len] at this; exact this
      have hM : M.length ≤ 4096 := Hk.out.many
      have HE := Lib.hid (settle_step Hp.out.1 hC.out H2.out.2.2 Hf.out Hk.out.tc Hd3.out Hc3.out)
      clear hB3 hBw
      go_wp2_with fail
      go_region
      clear b0 c4 cL fL
      generalize (w3.setCell ⟨C, p.1 * 258 + 257, none⟩ (.int .i64 0)).drew = w4 at *
      go_wp2_with fail
      go_roundg (ws.length - (k + 1))
      case measure => rw [Hgk.out]; omega
      case rel =>
        have hE := HE.out
        rw [← settleM_next (M := M) (f := fun _ => 8) Hpk.out] at hE
        exact ⟨k + 1, rfl, by omega, by go_num, Lib.hid hE.1, Lib.hid hE.2⟩
    · obtain rfl : k = ws.length := by omega
      obtain ⟨c0, c1, c2, c3, c4, c5', c6, c7⟩ := hR.out.cell8
      have f5 := hR.out.blk.free 5
      have hN := Lib.hid hR.out.noWaits
      have hN2 := Lib.hid (hC.out.set (b := h) (i := 5) (.inl Hk.out.self) (.slice none 0 0))
      clear c0 c1 c2 c3 c4 c6 c7
      go_wp2_with fail
      go_end0
      exact ⟨rfl, hN.out.mono (fun j hj => by
        rcases hj with hj | hj
        · exact .inl hj
        · exact .inr ⟨hj.1, by rw [set_size]; exact hj.2⟩) (grow_lt Hf.out hN2.out.size), hN2.out⟩
end
end Go.Proofs.YtgjdoiblgbdebaaDoor
