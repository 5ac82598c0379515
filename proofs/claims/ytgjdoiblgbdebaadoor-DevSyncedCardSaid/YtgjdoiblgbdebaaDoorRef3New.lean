/- The document's disk: New. -/
import Derived.Test.YtgjdoiblgbdebaaDoorRef3Write
import Derived.Test.YtgjdoiblgbdebaaDoorDevCalls
import Derived.Deep.RegionLaw
namespace Go.Proofs.YtgjdoiblgbdebaaDoor
open Go.RowKit
theorem infoCell3 : (Tryd.prog.info? 68).map (fun i => (i.zero, i.size, i.bytes)) = some (some (.agg #[.slice none 0 0, .bool false]), 2, 32) := by kernel_rfl
theorem RC.one (c : RC) : ∀ v ∈ c.cells, v.oneCell' = true := by
  intro v hv
  unfold RC.cells RB.v at hv
  rcases List.mem_cons.1 hv with rfl | hv
  · rfl
  · obtain rfl := List.mem_singleton.1 hv; rfl
section
variable {w w' : World} {T T' : Nat → Prop} {h : Nat} {cv wv : Value} {C : List RC} {L : List RL} {ar tu cr : Int} {dn : Bool}
theorem RefR.setCv (k : RefR w T h cv wv C L ar tu cr dn) {w1 w2 : World} {v' : Value} {c : RC} (hb : Below w.heap.size w w1) (hl : c.b.ok w1 T') (hT : ∀ j, T j → T' j) (ho : w2.ownsRow 0 68 2 v' (C.length + 1) (C.flatMap RC.cells ++ RC.cells c)) (hg : w1.grownBy w2 cv.ownBlock) (hv : v'.ownBlock = cv.ownBlock ∨ v'.ownBlock = some w1.heap.size) (hf : ∀ j, T' j → j < w1.heap.size) (hm : C.length + 1 ≤ 4096) :
    RefR (w2.setCell ⟨h, 0, none⟩ v') (fun j => T' j ∨ (w1.heap.size ≤ j ∧ j < w2.heap.size)) h v' wv (C ++ [c]) L ar tu cr dn ∧ Chg T w (w2.setCell ⟨h, 0, none⟩ v') := by
  have k1 := (k.below hb).mono hT hf
  have hs1 := hb.size
  have hs2 := hg.size
  have htW : ∀ b : RB, b.ok w1 T' → cv.ownBlock ≠ some b.g := fun b hb => by
    rcases own_tags k1.cown hb.own (by decide) with e | e
    · rw [e]; intro e; cases e
    · exact e
  have hset := (grown_at (World.grownBy.refl w2 (some h)) 0 v')
  have hblk2 : BlockIs w2 h 66 #[cv, wv, .int .i64 ar, .int .i64 tu, .int .i64 cr, .bool dn] := k1.blk.kept hg (fun e => own_tag k1.cown k1.blk (by decide) e.symm)
  have hc2 : w2.ownsRow 0 94 2 wv L.length (L.flatMap RL.cells) := k1.wown.kept hg (own_tags k1.wown k1.cown (by decide))
  have tg : ∀ b : RB, b.ok w1 T' → b.ok (w2.setCell ⟨h, 0, none⟩ v') (fun j => T' j ∨ (w1.heap.size ≤ j ∧ j < w2.heap.size)) := fun b hb => by
    refine hb.keep ((Below.heap_setCell w2 ⟨h, 0, none⟩ v' b.g ?_).trans (hg.block _ (hf _ hb.mem) (fun e => htW b hb e.symm))) (.inl hb.mem)
    intro e
    have e : b.g = h := e
    exact own_tag hb.own k1.blk (by decide) (by rw [← e]; rfl)
  have hlt := fun b (e : v'.ownBlock = some b) => (ho.lt b e).2
  refine ⟨⟨?_, .inl k1.self, hblk2.set1 0 v', ?_, hc2.kept hset (.inr (own_tag hc2 hblk2 (by decide))), ?_, fun b e => .inl (k1.wm b e), ?_, fun l hl => ⟨by rw [List.length_append]; exact Nat.lt_of_lt_of_le (k1.wb l hl).1 (Nat.le_add_right _ _), tg _ (k1.wb l hl).2⟩, by rw [List.length_append]; exact hm⟩, ?_⟩
  · rintro j (hj | hj)
    · have := hf j hj
      show j < (w2.setCell _ _).heap.size
      rw [show (w2.setCell ⟨h, 0, none⟩ v').heap.size = w2.heap.size by simp [World.setCell]]; omega
    · rw [show (w2.setCell ⟨h, 0, none⟩ v').heap.size = w2.heap.size by simp [World.setCell]]; exact hj.2
  · rw [List.length_append, List.flatMap_append]
    refine own_same (ho.kept hset (.inr (own_tag ho hblk2 (by decide)))) rfl (by simp)
  · intro b e
    rcases hv with h1 | h1
    · exact .inl (k1.cm b (h1 ▸ e))
    · rw [h1] at e; injection e with e
      have := hlt b (by rw [h1, e])
      exact .inr ⟨by omega, this⟩
  · intro x hx
    rcases List.mem_append.1 hx with hx | hx
    · exact tg _ (k1.cb x hx)
    · obtain rfl := List.mem_singleton.1 hx
      exact tg _ hl
  · refine Chg.set ⟨hg.os.trans hb.os, hg.tape.trans hb.tape, hg.output.trans hb.output, by omega, fun j hj hT => ?_⟩ (.inl k.self) _
    exact (hg.block j (by omega) (fun e => hT (k.cm j e.symm))).trans (hb.block j hj)
end
set_option maxRecDepth 100000 in
theorem new3_no (w : World) (n : Int) (h : n < 1 ∨ 4096 < n) :
    Calls Tryd.prog 10 #[.int .i64 n] w fun e w' => e = .returned (.tuple #[.pointer none, .int .i64 2]) ∧ w = w' := by
  rcases h with h | h
  · go_enter Tryd.func10, Tryd.ntmps10
    go_wp2_with fail
    go_ret2
    exact ⟨rfl, rfl⟩
  · have h1 : ¬ n < 1 := by omega
    go_enter Tryd.func10, Tryd.ntmps10
    go_wp2_with fail
    go_ret2
    exact ⟨rfl, rfl⟩
set_option maxRecDepth 100000 in
set_option maxHeartbeats 4000000 in
theorem new3_any (w : World) (n : Nat) (h0 : 0 < n) (h1 : n ≤ 4096) :
    Calls Tryd.prog 10 #[.int .i64 (n : Int)] w fun e w' => ∃ h, e = .returned (.tuple #[.pointer (some ⟨h, 0, none⟩), .int .i64 0]) ∧ RefAt3 w' (fun k => w.heap.size ≤ k ∧ k < w'.heap.size) h (DM.new n) ∧ Below w.heap.size w w' := by
  have hn1 : ¬ (n : Int) < 1 := by omega
  have hn2 : ¬ (n : Int) > 4096 := by omega
  have hmk := made256r
  go_enter Tryd.func10, Tryd.ntmps10
  go_wp2_with fail
  go_loopg [5] n (fun gk i wx => ∃ (q : Nat) (cv : Value) (C : List RC), gk = n - q ∧ q ≤ n ∧ i = .int .i64 (q : Int) ∧ Hid (RefR wx (fun j => w.heap.size ≤ j ∧ j < wx.heap.size) w.heap.size cv (.slice none 0 0) C [] 0 0 0 false ∧ Below w.heap.size w wx ∧ C.map RC.m = List.replicate q nought))
  case atStart =>
    refine ⟨0, .slice none 0 0, [], rfl, Nat.zero_le _, rfl, Lib.hid ⟨⟨fun _ hj => hj.2, ⟨Nat.le_refl _, by simp⟩, BlockIs.made w _ _, World.ownsRow_nil _ _ _ _, World.ownsRow_nil _ _ _ _, (fun b e => by cases e), (fun b e => by cases e), (fun c hc => by cases hc), (fun c hc => by cases hc), by simp⟩, below_new w _, rfl⟩⟩
  case round =>
    obtain ⟨q, cv, C, hgk, hq, rfl, hR⟩ := hrel
    have Hgk := Lib.hid hgk
    clear hgk
    have hlen : C.length = q := by have := congrArg List.length hR.out.2.2; rw [List.length_map, List.length_replicate] at this; exact this
    by_cases hlt : q < n
    · have Hlen := Lib.hid hlen
      clear hlen
      obtain ⟨i0, hi, hz0, hz1, hz2⟩ := info_parts infoCell3
      have b1 := below_new wr (.cells (u8s zero256).toArray 5)
      have b2 := b1.alloc b1.size (.cells (RC.cells ⟨⟨wr.heap.size, 256, zero256⟩, false⟩).toArray 68)
      have c0 := hR.out.1.cell6.1
      have c0' := (hR.out.1.below b1).cell6.1
      have c0'' : ((wr.alloc (.cells (u8s zero256).toArray 5)).alloc (.cells #[.slice (some ⟨wr.heap.size, 0, none⟩) 256 256, .bool false] 68)).cell? ⟨w.heap.size, 0, none⟩ = some cv := (hR.out.1.below b2).cell6.1
      have Hb := Lib.hid (And.intro b1 b2)
      clear b1 b2
      go_wp2_with fail
      have HA := Lib.hid (hR.out.1.below Hb.out.2)
      have HN : Hid (∀ j v, (RC.cells ⟨⟨wr.heap.size, 256, zero256⟩, false⟩)[j]? = some v → ((wr.alloc (.cells (u8s zero256).toArray 5)).alloc (.cells (RC.cells ⟨⟨wr.heap.size, 256, zero256⟩, false⟩).toArray 68)).cell? ((⟨wr.heap.size + 1, 0, none⟩ : Addr).add j) = some v) := Lib.hid (fun j v hj => by
        rw [Addr.add_mid, Nat.zero_add]
        have := (BlockIs.made (wr.alloc (.cells (u8s zero256).toArray 5)) 68 (RC.cells ⟨⟨wr.heap.size, 256, zero256⟩, false⟩).toArray).cell j
        rw [size1] at this
        exact this.trans (by rw [List.getElem?_toArray]; exact hj))
      have Hzb : Hid (RB.ok (wr.alloc (.cells (u8s zero256).toArray 5)) (fun j => w.heap.size ≤ j ∧ j < wr.heap.size + 1) ⟨wr.heap.size, 256, zero256⟩) := Lib.hid ⟨by
        have ho := World.ownsRow_lit (base := 0) (e := 5) (size := 1) wr (u8s zero256).toArray 256 (Nat.zero_le _) (by decide) (by rw [List.size_toArray, u8s_len, zero256_len])
        simpa [RB.v] using ho, nought_ok, ⟨hR.out.2.1.size, Nat.lt_succ_self _⟩⟩
      have hh1 : (wr.alloc (.cells (u8s zero256).toArray 5)).heap.size = wr.heap.size + 1 := size1 _ _
      go_region_law (refine step_append_one rfl (.tmp 23) (.tmp 26) 63 rfl 0 68 i0 (.agg #[.slice none 0 0, .bool false]) 2 32 Tryd.underlying63 hi hz0 hz1 hz2 rfl (by decide) cv C.length (C.flatMap RC.cells) (by rfl) (by first | exact HA.out.cown | exact HA.out.cown.drew) ⟨wr.heap.size + 1, 0, none⟩ 1 (RC.cells ⟨⟨wr.heap.size, 256, zero256⟩, false⟩) (by rfl) rfl (by first | exact HN.out) (RC.one _) (by have := Hlen.out; unfold maxLen; omega) (by have := Hlen.out; omega) (Nat.zero_le _) ?_; intro v5 w5 ho5 hg5 hl5; obtain ⟨X5, cap5, hv5, _, _⟩ := own_slice ho5; subst hv5; have H5 := Lib.hid (And.intro ho5 (And.intro hg5 hl5)); have d5 : w5.cell? ⟨w.heap.size, 0, none⟩ = some cv := H5.out.2.1.cell HA.out.cell6.1 (fun e => own_tag HA.out.cown HA.out.blk (by decide) e.symm); have f5 : w5.frozen? ⟨w.heap.size, 0, none⟩ = false := (World.frozen?_of_block (a := ⟨w.heap.size, 0, none⟩) (H5.out.2.1.block w.heap.size HA.out.lt (fun e => own_tag HA.out.cown HA.out.blk (by decide) e.symm))).trans (HA.out.blk.free 0); clear ho5 hg5 hl5)
      all_goals
        clear d5 f5 hi hz0 hz1 hz2 c0 c0' c0'' hh1
        have hg5 : ((wr.alloc (.cells (u8s zero256).toArray 5)).alloc (.cells (RC.cells ⟨⟨wr.heap.size, 256, zero256⟩, false⟩).toArray 68)).grownBy w5 cv.ownBlock := ⟨H5.out.2.1.os, H5.out.2.1.tape, H5.out.2.1.output, H5.out.2.1.size, H5.out.2.1.block⟩
        have h5s := hg5.size
        rw [size1, size1] at h5s
        have HF := Lib.hid (RefR.setCv (T' := fun j => w.heap.size ≤ j ∧ j < wr.heap.size + 1) hR.out.1 (c := ⟨⟨wr.heap.size, 256, zero256⟩, false⟩) Hb.out.2 (Hzb.out.keep (below_new (wr.alloc (.cells (u8s zero256).toArray 5)) _ |>.block wr.heap.size (by rw [size1]; omega)) ⟨hR.out.2.1.size, Nat.lt_succ_self _⟩) (fun j hj => ⟨hj.1, by have := hj.2; omega⟩) H5.out.1 hg5 H5.out.2.2 (fun j hj => by rw [size1, size1]; have := hj.2; omega) (by have := Hlen.out; omega))
        generalize hw6 : w5.setCell ⟨w.heap.size, 0, none⟩ (.slice X5 (C.length + 1) cap5) = w6 at *
        have hs6 : w6.heap.size = w5.heap.size := by rw [← hw6]; simp [World.setCell]
        have Hs6 := Lib.hid hs6
        have HW6 := Lib.hid hw6
        clear hw6 hs6
        go_wp2_with fail
        go_roundg (n - (q + 1))
        case measure => rw [Hgk.out]; omega
        case rel =>
          refine ⟨q + 1, _, _, rfl, by omega, by go_num, Lib.hid ⟨HF.out.1.mono ?_ ?_, ?_, ?_⟩⟩
          · rintro j (hj | hj)
            · exact ⟨hj.1, by have := hj.2; show j < w6.heap.size; rw [Hs6.out]; omega⟩
            · refine ⟨?_, by show j < w6.heap.size; rw [Hs6.out]; exact hj.2⟩
              have := hj.1
              rw [size1, size1] at this
              have := hR.out.2.1.size
              omega
          · exact fun j hj => hj.2
          · exact HF.out.2.below hR.out.2.1 (fun j hj => hj.1) hR.out.2.1.size
          · rw [List.map_append, hR.out.2.2, List.replicate_succ']; rfl
    · obtain rfl : q = n := by omega
      have hC : (DM.new q).cells = C.map RC.m := hR.out.2.2.symm
      clear hlen
      go_wp2_with fail
      go_ret2
      exact ⟨w.heap.size, rfl, ⟨cv, .slice none 0 0, C, [], 0, 0, 0, false, hR.out.1, ⟨hC, rfl, rfl, rfl, rfl, rfl, Nat.zero_le _⟩⟩, hR.out.2.1⟩
end Go.Proofs.YtgjdoiblgbdebaaDoor
