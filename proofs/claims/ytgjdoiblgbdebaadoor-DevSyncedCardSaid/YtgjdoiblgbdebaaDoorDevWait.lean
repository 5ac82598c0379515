/- A write waits. -/
import Derived.Test.YtgjdoiblgbdebaaDoorDevSettle
import Derived.Great.BuildSlice
import Derived.Deep.RegionHeld
import Derived.Maps.AppendAt
namespace Go.Proofs.YtgjdoiblgbdebaaDoor
open Go.RowKit
def zero256 : List Int := List.replicate 256 0
theorem zero256_len : zero256.length = 256 := by unfold zero256; exact List.length_replicate
theorem store_new (n : Int) (w : World) : (storeCells ⟨w.heap.size, 0, none⟩ (zeroW.toList.set 0 (.int .i64 n)) 0).run Tryd.prog (w.alloc (.cells zeroW 101)) = .ok () (w.alloc (.cells (Value.int .i64 n :: u8s zero256).toArray 101)) := by
  have hl : (Value.int .i64 n :: u8s zero256).length = 257 := by rw [List.length_cons, u8s_len, zero256_len]
  have := run_storeCells_new (P := Tryd.prog) w 101 zeroW (Value.int .i64 n :: u8s zero256).toArray (by rw [sizeWrite, List.size_toArray, hl]) (by rw [zeroW_size, List.size_toArray, hl]) (all_oneCell_toArray (fun v hv => by
    rcases List.mem_cons.1 hv with rfl | hv
    · rfl
    · exact u8s_one _ v hv))
  exact this
theorem slice_write (w : World) {p : Nat × List Int} (hp : BlkOk p.2) : (Instr.buildSlice 60 1 #[(0, .agg (writeV p).toArray)]).run Tryd.prog w = .ok (.slice (some ⟨w.heap.size, 0, none⟩) 1 1) (w.alloc (.cells (writeV p).toArray 101)) := by
  obtain ⟨i0, hi, hz0, hz1, hz2⟩ := info_parts infoWrite
  have hl : (Value.agg (writeV p).toArray).cells.size = 257 := by show (writeV p).toArray.size = 257; rw [List.size_toArray, writeV_len hp]
  refine run_buildSlice w 60 101 1 _ (writeV p).toArray i0 (.agg zeroW) Tryd.underlying60 hi hz0 (by rw [hz1]; decide) (by rw [hz1]; decide) ?_
  rw [hz1]
  have h := Great.fill_whole (s := 257) (by decide) [.agg (writeV p).toArray] ((Array.range (1 * 257)).map ((Value.agg zeroW).cells[· % (Value.agg zeroW).cells.size]!)) (fun v hv => by rw [List.mem_singleton.1 hv]; exact hl) (by simp)
  rw [show ([((0 : Nat), Value.agg (writeV p).toArray)] : List (Nat × Value)) = ([Value.agg (writeV p).toArray].zipIdx 0).map fun x => (x.2, x.1) from rfl]
  refine h.trans ?_
  simp [Value.cells]
/-- One whole write as a slice of its own: the operation. -/
theorem wp_slice_one {o : Oper} {a : Act} {w : World} {K : Act → World → Prop} {Q : Exit → Act → World → Prop} {ops : Array Oper} {E : Prop} (hgd : o.guard = none) (x : Operand) (ho : o.op = .buildSlice 60 1 #[(0, x)]) {p : Nat × List Int} (hp : BlkOk p.2) (hx : a.eval x = .agg (writeV p).toArray)
    (h : K (a.put o.dst (.slice (some ⟨w.heap.size, 0, none⟩) 1 1)) (w.alloc (.cells (writeV p).toArray 101))) : if Region.wanted o (yielded ops a.tmps) = true then Oper.wp Tryd.prog o a w K Q else E := by
  have hw : Region.wanted o (yielded ops a.tmps) = true := by simp [Region.wanted, hgd]
  rw [if_pos hw]
  unfold Oper.wp execOp
  have hm : (#[(0, x)] : Array (Nat × Operand)).map (fun (i, x) => (i, a.eval x)) = #[(0, .agg (writeV p).toArray)] := by simp [hx]
  simp only [ho, hm, Sem.run_bind, slice_write w hp, Result.andThen_ok]
  exact h
/-- append of one element onto a row that is owned, as one step of a region that draws. -/
theorem step_append_one {P : Program} {w : World} {ops : Array Oper} {o : Oper} {a : Act} {K : Act → World → Prop} {Q : Exit → Act → World → Prop} {E : Prop} (hgd : o.guard = none) (s x : Operand) (t : TypeId)
    (ho : o.op = .call { callee := .builtin .append, args := #[s, x], argTypes := #[t, t] }) (base : Nat) (e : TypeId) (i : TypeInfo) (z : Value) (size bytes : Nat) (ht : P.underlying t = some (.slice e)) (hi : P.info? e = some i) (hz : i.zero = some z)
    (hsize : i.size = size) (hby : i.bytes = bytes) (hzs : z.cells.size = size) (hsz : 0 < size) (v : Value) (n : Nat) (xs : List Value) (hs : a.eval s = v) (hown : w.ownsRow base e size v n xs)
    (ad : Addr) (c : Nat) (news : List Value) (hx : a.eval x = .slice (some ad) 1 c) (hl : news.length = size) (hnews : ∀ j u, news[j]? = some u → w.cell? (ad.add j) = some u) (h1 : ∀ u ∈ news, u.oneCell' = true)
    (h63 : n + 1 ≤ maxLen) (hbytes : (n + 1) * bytes ≤ 140737488355328) (hbase : base ≤ w.heap.size)
    (h : ∀ v' w', w'.ownsRow base e size v' (n + 1) (xs ++ news) → w.grownBy w' v.ownBlock → (v'.ownBlock = v.ownBlock ∨ v'.ownBlock = some w.heap.size) → K (a.put o.dst v') w') :
    if Region.wanted o (yielded ops a.tmps) = true then Oper.wp P o a w K Q else E := by
  have hw : Region.wanted o (yielded ops a.tmps) = true := by simp [Region.wanted, hgd]
  rw [if_pos hw]
  obtain ⟨v', w', hr, h2, h3, h4, h5⟩ := run_append_own_at (P := P) w base t o.type e i z size bytes ht hi hz hsize hby hzs hsz v n xs hown ad 1 c news (by rw [Nat.one_mul]; exact hl) hnews h1 h63 hbytes hbase
  unfold Oper.wp execOp
  simp only [ho, resolve, invoke, builtin, Sem.run_bind, Sem.run_pure, Result.andThen_ok, List.map_toArray, List.map_cons, List.map_nil, hs, hx, hr]
  exact h v' w' h2 h3 h5
theorem pad_splice (n : Int) (bs : List Int) : Go.splice (.int .i64 n :: u8s zero256) 1 (u8s bs) = .int .i64 n :: u8s (padB bs) := by
  unfold Go.splice padB zero256
  rw [u8s_len, ← u8s_app]
  simp only [List.take_succ_cons, List.take_zero, List.cons_append, List.nil_append]
  rw [show 1 + bs.length = bs.length + 1 by omega, List.drop_succ_cons]
  unfold u8s
  rw [← List.map_drop, List.drop_replicate]
section
variable {w : World} {T : Nat → Prop} {dk C : Nat} {wv : Value} {hu tu cr : Nat} {M : List MCell} {ws : List (Nat × List Int)} {left : Int} {dn : Bool}
/-- One write more waits. -/
theorem DevR.more (k : DevR w T dk C wv hu tu cr M ws left dn) {w5 : World} {v5 : Value} {p : Nat × List Int} (ho : w5.ownsRow 0 101 257 v5 (ws.length + 1) (ws.flatMap writeV ++ writeV p)) (hg : w.grownBy w5 wv.ownBlock) (hl : v5.ownBlock = wv.ownBlock ∨ v5.ownBlock = some w.heap.size) (hp : p.1 < M.length ∧ BlkOk p.2) :
    DevR (w5.setCell ⟨dk, 5, none⟩ v5) (grow T w (w5.setCell ⟨dk, 5, none⟩ v5)) dk C v5 hu tu cr M (ws ++ [p]) left dn ∧ Chg T w (w5.setCell ⟨dk, 5, none⟩ v5) := by
  have hH := k.lt
  have hC := k.foot C k.tc
  have hs := set_size w5 ⟨dk, 5, none⟩ v5
  have hfr : Chg T w (w5.setCell ⟨dk, 5, none⟩ v5) := (Chg.of_grown hg (fun b hb => k.mem b hb)).set (.inl k.self) _
  have off : v5.ownBlock ≠ some dk := by
    rcases hl with e | e
    · rw [e]; exact k.off
    · rw [e]; intro e'; injection e' with e'; omega
  have offC : v5.ownBlock ≠ some C := by
    rcases hl with e | e
    · rw [e]; exact k.offC
    · rw [e]; intro e'; injection e' with e'; omega
  refine ⟨⟨grow_lt k.foot hfr.size, .inl k.self, .inl k.tc, k.ne, ?_, ?_, ?_, off, offC, fun b hb => ?_, k.mb, k.many, fun q hq => ?_⟩, hfr⟩
  · exact (k.blk.kept hg (fun e => k.off e.symm)).set1 5 _
  · exact (k.cells.kept hg (fun e => k.offC e.symm)).keep (set_other _ _ _ _ _ k.ne)
  · have := own_keep (w' := w5.setCell ⟨dk, 5, none⟩ v5) ho (fun b hb => set_other _ _ _ _ _ (fun e => off (e ▸ hb)))
    exact own_same this (by rw [List.length_append]; rfl) (by rw [List.flatMap_append]; simp)
  · rcases hl with e | e
    · exact .inl (k.mem b (e ▸ hb))
    · have h1 := own_lt ho hb
      rw [e] at hb
      injection hb with hb
      exact .inr ⟨by omega, by rw [hs]; exact h1⟩
  · rcases List.mem_append.1 hq with hq | hq
    · exact k.wb q hq
    · rw [List.mem_singleton.1 hq]; exact hp
theorem wait_done {w w2 w5 : World} {v5 : Value} {n : Nat} {b : List Int} (k : DevR w2 T dk C wv hu tu cr M ws left dn) (hb : Below w.heap.size w w2) (hn : n < M.length) (hb5 : BlkOk b) (hf : ∀ j, T j → j < w.heap.size)
    (ho : w5.ownsRow 0 101 257 v5 (ws.length + 1) (ws.flatMap writeV ++ writeV (n, b))) {ob : Obj} (hg : (w2.drew.alloc ob).grownBy w5 wv.ownBlock) (hl : v5.ownBlock = wv.ownBlock ∨ v5.ownBlock = some (w2.drew.alloc ob).heap.size) :
    DevR (w5.setCell ⟨dk, 5, none⟩ v5) (grow T w (w5.setCell ⟨dk, 5, none⟩ v5)) dk C v5 hu tu cr M (ws ++ [(n, b)]) left dn ∧ Chg T w (w5.setCell ⟨dk, 5, none⟩ v5) := by
  have hbn := below_new w2.drew ob
  have h1 := (k.drew.below hbn).more (p := (n, b)) ho hg hl ⟨hn, hb5⟩
  have hB : Below w.heap.size w (w2.drew.alloc ob) := hb.drew.trans ((below_new w2.drew ob).mono hb.size)
  refine ⟨h1.1.mono ?_ (grow_lt hf (Nat.le_trans hB.size h1.2.size)), ?_⟩
  · have := hB.size
    rintro j (hj | hj)
    · exact .inl hj
    · exact .inr ⟨by omega, hj.2⟩
  · exact (Chg.of_below hB).trans (h1.2.mono (fun _ hj => .inl hj))
/-- The last write that waits for block n is number x. -/
def lastM (M : List MCell) (n x : Nat) : List MCell := M.set n { M.getD n default with last := x }
set_option maxRecDepth 100000 in
set_option maxHeartbeats 1000000 in
theorem wait_any (k : DevR w T dk C wv hu tu cr M ws left dn) (n : Nat) (hn : n < M.length) (A : Option Addr) (bs : List Int) (c : Nat) (hb : BytesAt w A bs) (hl : bs.length ≤ 256) (hws : ws.length ≤ 1000000000) :
    Calls Tryd.prog 47 #[.pointer (some ⟨dk, 0, none⟩), .int .i64 (n : Int), .slice A bs.length c] w fun e w' => e = .returned (.tuple #[]) ∧
      ∃ wv', DevR w' (grow T w w') dk C wv' hu tu cr (lastM M n (ws.length + 1)) (ws ++ [(n, padB bs)]) left dn ∧ Chg T w w' := by
  have hz := zeroWrite
  have hst := store_new (n : Int)
  have hzs := zeroW_size
  have Hk := Lib.hid k
  have Hb := Lib.hid hb
  have hbn := below_new w (.cells (Value.int .i64 n :: u8s zero256).toArray 101)
  have hB := BlockIs.made w 101 (Value.int .i64 n :: u8s zero256).toArray
  have H1 := Lib.hid (And.intro hB hbn)
  have G1 := Lib.hid (show (u8s bs).length = Nat.min bs.length 256 by rw [u8s_len]; show bs.length = min bs.length 256; omega)
  have G2 := Lib.hid (show 1 + (u8s bs).length ≤ (Value.int .i64 n :: u8s zero256).length by rw [List.length_cons, u8s_len, u8s_len, zero256_len]; omega)
  have G3 : Hid (0 < (u8s bs).length → ∃ ad, A = some ad ∧ ∀ j v, (u8s bs)[j]? = some v → (w.alloc (.cells (Value.int .i64 n :: u8s zero256).toArray 101)).cell? (ad.add j) = some v) := Lib.hid fun hp => by
    have hne : bs ≠ [] := by rintro rfl; exact absurd hp (by decide)
    obtain ⟨b, off, e, hc⟩ := hb.2 hne
    exact ⟨⟨b, off, none⟩, e, src_cells bs b off w _ hc⟩
  have G4 := Lib.hid (u8s_one bs)
  clear k hb hbn hB
  go_enter Tryd.func47, Tryd.ntmps47
  go_wp2_with (refine wpList_copy_splice rfl (.tmp 10) (.tmp 11) 33 33 rfl 5 Tryd.underlying33 (by kernel_rfl) (some ⟨w.heap.size, 1, none⟩) A 256 256 bs.length c rfl rfl w.heap.size 1 (Value.int .i64 n :: u8s zero256) 101 H1.out.1 (u8s bs) G1.out (fun hp => ⟨rfl, G3.out hp⟩) G2.out G4.out w.heap.size w H1.out.2 (Nat.le_refl _) ?_; intro w2 hG2 hB2)
  rw [pad_splice] at hG2
  have hp2 : BlkOk (padB bs) := padB_ok hl Hb.out.1
  have Hp2 := Lib.hid hp2
  have hBw : BlockIs w2 w.heap.size 101 (writeV (n, padB bs)).toArray := hG2
  have Hrw : Hid (w2.drew.rangeAt w.heap.size 0 (writeV (n, padB bs))) := Lib.hid (fun j v hj => by rw [Nat.zero_add]; exact (hBw.cell j).trans (by rw [List.getElem?_toArray]; exact hj))
  have H2 := Lib.hid (And.intro (Hk.out.below hB2) hB2)
  have c5 := (Hk.out.below hB2).cell8.2.2.2.2.2.1
  have HS2 := Lib.hid hBw.lt
  clear hp2 hBw hG2 hB2 hz hst hzs H1 G1 G2 G3 G4
  obtain ⟨i0, hi, hz0, hz1, hz2⟩ := info_parts infoWrite
  have HA : Hid ((w2.drew.alloc (.cells (writeV (n, padB bs)).toArray 101)).ownsRow 0 101 257 wv ws.length (ws.flatMap writeV) ∧ ∀ j v, (writeV (n, padB bs))[j]? = some v → (w2.drew.alloc (.cells (writeV (n, padB bs)).toArray 101)).cell? ((⟨w2.heap.size, 0, none⟩ : Addr).add j) = some v) :=
    Lib.hid ⟨((H2.out.1.drew.below (below_new _ _)).own), fun j v hj => by rw [Addr.add_mid, Nat.zero_add]; exact ((BlockIs.made w2.drew _ _).cell j).trans (by rw [List.getElem?_toArray]; exact hj)⟩
  have HA5 := Lib.hid (H2.out.1.drew.below (below_new w2.drew (.cells (writeV (n, padB bs)).toArray 101))).cell8.2.2.2.2.2.1
  have HL := Lib.hid (H2.out.1.drew.below (below_new w2.drew (.cells (writeV (n, padB bs)).toArray 101))).lt
  have HF5 := Lib.hid ((H2.out.1.drew.below (below_new w2.drew (.cells (writeV (n, padB bs)).toArray 101))).blk.free 5)
  have c5' := (H2.out.1.below (below_new w2 (.cells (writeV (n, padB bs)).toArray 101))).cell8.2.2.2.2.2.1
  have Hf := Lib.hid Hk.out.foot
  refine wp_region_held_drew (S := fun w' => w'.rangeAt w.heap.size 0 (writeV (n, padB bs))) (by kernel_rfl) Hrw.out (fun hS0 => ?_)
  refine wpAnyH_take (i := 0) (v := ?_) rfl (by kernel_rfl) (by kernel_rfl) (by kernel_rfl) (fun _ _ _ dk => dk) (Or.inl ⟨by rfl, ?_⟩) hS0 ?_
  rotate_left
  · (intro w' _; go_simp); try with_reducible rfl
  simp only [Act.put]
  refine wpAnyH_take (i := 1) (v := ?_) rfl (by kernel_rfl) (by kernel_rfl) (by kernel_rfl) (fun _ _ _ dk => dk) (Or.inl ⟨by rfl, ?_⟩) hS0 ?_
  rotate_left
  · (intro w' _; go_simp); try with_reducible rfl
  simp only [Act.put]
  refine wpAnyH_take (i := 2) (v := ?_) rfl (by kernel_rfl) (by kernel_rfl) (by kernel_rfl) (fun _ _ _ dk => dk) (Or.inl ⟨by rfl, ?_⟩) hS0 ?_
  rotate_left
  · (intro w' _; go_simp); try with_reducible rfl
  simp only [Act.put]
  refine wpAnyH_take (i := 3) (v := ?_) rfl (by kernel_rfl) (by kernel_rfl) (by kernel_rfl) (fun _ _ _ dk => dk) (Or.inl ⟨by rfl, ?_⟩) hS0 ?_
  rotate_left
  · (intro w' _; go_simp); try with_reducible rfl
  simp only [Act.put]
  refine wpAnyH_take (i := 5) rfl (by kernel_rfl) (by kernel_rfl) (by kernel_rfl) (fun _ _ _ dk => dk) (yieldsIf_load_mid (by rfl) 101 (.tmp 6) rfl w.heap.size 0 rfl (writeV (n, padB bs)) _ (fun w' hS => hS) Tryd.underlying101 rfl (by rw [sizeWrite, writeV_len Hp2.out])) hS0 ?_
  simp only [Act.put]
  refine wpAnyH_ready (rs := [4, 6]) (by kernel_rfl) (by simp) ?_
  refine AllReadyH.cons rfl (fun K hK => ?_) (AllReadyH.cons rfl (fun K hK => ?_) AllReadyH.nil)
  · go_simp
    refine hK.out _ _ hS0 (fun _ => ?_)
    clear hK K
    refine wpAnyH_ready (rs := [6]) (by kernel_rfl) (by simp) ?_
    refine AllReadyH.cons rfl (fun K hK => ?_) AllReadyH.nil
    refine wp_slice_one rfl (.tmp 18) rfl Hp2.out rfl ?_
    refine hK.out _ _ (World.rangeAt_alloc hS0 _) (fun hS0 => ?_)
    clear hK K c5 c5'
    simp only [Act.put]
    refine wpAnyH_ready (rs := [7]) (by kernel_rfl) (by simp) ?_
    refine AllReadyH.cons rfl (fun K hK => ?_) AllReadyH.nil
    refine step_append_one rfl (.tmp 17) (.tmp 19) 60 rfl 0 101 i0 (.agg zeroW) 257 264 Tryd.underlying60 hi hz0 hz1 hz2 zeroW_size (by decide) wv ws.length (ws.flatMap writeV) rfl HA.out.1 ⟨w2.heap.size, 0, none⟩ 1 (writeV (n, padB bs)) rfl (writeV_len Hp2.out) HA.out.2 writeV_one (by unfold maxLen; omega) (by omega) (Nat.zero_le _) ?_
    intro v5 w5 ho5 hg5 hl5
    have HD := Lib.hid (wait_done H2.out.1 H2.out.2 hn Hp2.out Hf.out ho5 hg5 hl5)
    have hS5 : w5.rangeAt w.heap.size 0 (writeV (n, padB bs)) := fun j v hj => hg5.cell (hS0 j v hj) (fun e => Nat.lt_irrefl _ (Hf.out _ (Hk.out.mem _ e.symm)))
    have d5 : w5.cell? ⟨dk, 5, none⟩ = some wv := hg5.cell HA5.out (fun e => Hk.out.off e.symm)
    have f5 : w5.frozen? ⟨dk, 5, none⟩ = false := (World.frozen?_of_block (a := ⟨dk, 5, none⟩) (hg5.block dk HL.out (fun e => Hk.out.off e.symm))).trans HF5.out
    obtain ⟨X5, cap5, hv5, hc5, hm5⟩ := own_slice ho5
    have HS5 := Lib.hid hS5
    have Hn5 : Hid (w.heap.size ≠ dk) := Lib.hid (fun e => by have h1 := Hf.out _ Hk.out.self; omega)
    have Hc5 := Lib.hid (And.intro hc5 hm5)
    subst hv5
    clear ho5 hg5 hl5 hc5 hm5 hS5
    refine hK.out _ _ HS5.out (fun hS0 => ?_)
    clear hK K
    simp only [Act.put]
    refine wpAnyH_take (i := 8) (v := ?_) rfl (by kernel_rfl) (by kernel_rfl) (by kernel_rfl) (fun _ _ _ dk => dk) (Or.inl ⟨by rfl, ?_⟩) hS0 ?_
    rotate_left
    · (intro w' _; go_simp); try with_reducible rfl
    simp only [Act.put]
    refine wpAnyH_take (i := 9) (v := ?_) rfl (by kernel_rfl) (by kernel_rfl) (by kernel_rfl) (fun _ _ _ dk => dk) (Or.inl ⟨by rfl, ?_⟩) hS0 ?_
    rotate_left
    · (intro w' _; go_simp); try with_reducible rfl
    simp only [Act.put]
    refine wpAnyH_ready (rs := [10]) (by kernel_rfl) (by simp) ?_
    refine AllReadyH.cons rfl (fun K hK => ?_) AllReadyH.nil
    go_simp
    refine hK.out _ _ (fun j v hj => (World.cell?_of_block (a := ⟨w.heap.size, 0 + j, none⟩) (set_other _ _ _ _ _ Hn5.out)).trans (HS5.out j v hj)) (fun hS0 => ?_)
    clear hK K
    refine wpAnyH_done (by kernel_rfl) ?_ _
    clear d5 f5 hS0
    obtain ⟨e0, e1, e2, e3, e4, e5, e6, e7⟩ := HD.out.1.cell8
    have eL := HD.out.1.at_ hn (show 257 < 258 by decide)
    rw [cellV_last (HD.out.1.mb _ (List.getElem_mem hn))] at eL
    have fL := HD.out.1.cells.free (n * 258 + 257)
    generalize w5.setCell ⟨dk, 5, none⟩ (.slice X5 (ws.length + 1) cap5) = w6 at *
    clear e0 e1 e2 e3 e6 e7
    go_wp2_with fail
    go_region
    have HL6 : Hid (DevR (w6.setCell ⟨C, n * 258 + 257, none⟩ (.int .i64 ((ws.length : Int) + 1))).drew (grow T w (w6.setCell ⟨C, n * 258 + 257, none⟩ (.int .i64 ((ws.length : Int) + 1))).drew) dk C (.slice X5 (ws.length + 1) cap5) hu tu cr (lastM M n (ws.length + 1)) (ws ++ [(n, padB bs)]) left dn ∧ Chg T w (w6.setCell ⟨C, n * 258 + 257, none⟩ (.int .i64 ((ws.length : Int) + 1))).drew) := by
      have h1 := (HD.out.1.setLast hn (ws.length + 1)).drew
      rw [show (((ws.length + 1 : Nat) : Int)) = (ws.length : Int) + 1 by omega] at h1
      refine Lib.hid ⟨h1.mono ?_ ?_, (HD.out.2.set (.inl Hk.out.tc) _).drew⟩
      · rintro j (hj | hj)
        · exact .inl hj
        · exact .inr ⟨hj.1, by show j < (w6.setCell _ _).heap.size; rw [set_size]; exact hj.2⟩
      · exact grow_lt Hf.out (HD.out.2.set (b := C) (i := n * 258 + 257) (.inl Hk.out.tc) (.int .i64 ((ws.length : Int) + 1))).size
    clear e4 e5 eL fL
    go_wp2_with fail
    go_end0
    exact ⟨rfl, _, HL6.out⟩
  · refine wp_slice_one rfl (.tmp 18) rfl Hp2.out rfl ?_
    refine hK.out _ _ (World.rangeAt_alloc hS0 _) (fun hS0 => ?_)
    clear hK K c5
    simp only [Act.put]
    refine wpAnyH_ready (rs := [4]) (by kernel_rfl) (by simp) ?_
    refine AllReadyH.cons rfl (fun K hK => ?_) AllReadyH.nil
    go_simp
    refine hK.out _ _ hS0 (fun _ => ?_)
    clear hK K c5'
    refine wpAnyH_ready (rs := [7]) (by kernel_rfl) (by simp) ?_
    refine AllReadyH.cons rfl (fun K hK => ?_) AllReadyH.nil
    refine step_append_one rfl (.tmp 17) (.tmp 19) 60 rfl 0 101 i0 (.agg zeroW) 257 264 Tryd.underlying60 hi hz0 hz1 hz2 zeroW_size (by decide) wv ws.length (ws.flatMap writeV) rfl HA.out.1 ⟨w2.heap.size, 0, none⟩ 1 (writeV (n, padB bs)) rfl (writeV_len Hp2.out) HA.out.2 writeV_one (by unfold maxLen; omega) (by omega) (Nat.zero_le _) ?_
    intro v5 w5 ho5 hg5 hl5
    have HD := Lib.hid (wait_done H2.out.1 H2.out.2 hn Hp2.out Hf.out ho5 hg5 hl5)
    have hS5 : w5.rangeAt w.heap.size 0 (writeV (n, padB bs)) := fun j v hj => hg5.cell (hS0 j v hj) (fun e => Nat.lt_irrefl _ (Hf.out _ (Hk.out.mem _ e.symm)))
    have d5 : w5.cell? ⟨dk, 5, none⟩ = some wv := hg5.cell HA5.out (fun e => Hk.out.off e.symm)
    have f5 : w5.frozen? ⟨dk, 5, none⟩ = false := (World.frozen?_of_block (a := ⟨dk, 5, none⟩) (hg5.block dk HL.out (fun e => Hk.out.off e.symm))).trans HF5.out
    obtain ⟨X5, cap5, hv5, hc5, hm5⟩ := own_slice ho5
    have HS5 := Lib.hid hS5
    have Hn5 : Hid (w.heap.size ≠ dk) := Lib.hid (fun e => by have h1 := Hf.out _ Hk.out.self; omega)
    have Hc5 := Lib.hid (And.intro hc5 hm5)
    subst hv5
    clear ho5 hg5 hl5 hc5 hm5 hS5
    refine hK.out _ _ HS5.out (fun hS0 => ?_)
    clear hK K
    simp only [Act.put]
    refine wpAnyH_take (i := 8) (v := ?_) rfl (by kernel_rfl) (by kernel_rfl) (by kernel_rfl) (fun _ _ _ dk => dk) (Or.inl ⟨by rfl, ?_⟩) hS0 ?_
    rotate_left
    · (intro w' _; go_simp); try with_reducible rfl
    simp only [Act.put]
    refine wpAnyH_take (i := 9) (v := ?_) rfl (by kernel_rfl) (by kernel_rfl) (by kernel_rfl) (fun _ _ _ dk => dk) (Or.inl ⟨by rfl, ?_⟩) hS0 ?_
    rotate_left
    · (intro w' _; go_simp); try with_reducible rfl
    simp only [Act.put]
    refine wpAnyH_ready (rs := [10]) (by kernel_rfl) (by simp) ?_
    refine AllReadyH.cons rfl (fun K hK => ?_) AllReadyH.nil
    go_simp
    refine hK.out _ _ (fun j v hj => (World.cell?_of_block (a := ⟨w.heap.size, 0 + j, none⟩) (set_other _ _ _ _ _ Hn5.out)).trans (HS5.out j v hj)) (fun hS0 => ?_)
    clear hK K
    refine wpAnyH_done (by kernel_rfl) ?_ _
    clear d5 f5 hS0
    obtain ⟨e0, e1, e2, e3, e4, e5, e6, e7⟩ := HD.out.1.cell8
    have eL := HD.out.1.at_ hn (show 257 < 258 by decide)
    rw [cellV_last (HD.out.1.mb _ (List.getElem_mem hn))] at eL
    have fL := HD.out.1.cells.free (n * 258 + 257)
    generalize w5.setCell ⟨dk, 5, none⟩ (.slice X5 (ws.length + 1) cap5) = w6 at *
    clear e0 e1 e2 e3 e6 e7
    go_wp2_with fail
    go_region
    have HL6 : Hid (DevR (w6.setCell ⟨C, n * 258 + 257, none⟩ (.int .i64 ((ws.length : Int) + 1))).drew (grow T w (w6.setCell ⟨C, n * 258 + 257, none⟩ (.int .i64 ((ws.length : Int) + 1))).drew) dk C (.slice X5 (ws.length + 1) cap5) hu tu cr (lastM M n (ws.length + 1)) (ws ++ [(n, padB bs)]) left dn ∧ Chg T w (w6.setCell ⟨C, n * 258 + 257, none⟩ (.int .i64 ((ws.length : Int) + 1))).drew) := by
      have h1 := (HD.out.1.setLast hn (ws.length + 1)).drew
      rw [show (((ws.length + 1 : Nat) : Int)) = (ws.length : Int) + 1 by omega] at h1
      refine Lib.hid ⟨h1.mono ?_ ?_, (HD.out.2.set (.inl Hk.out.tc) _).drew⟩
      · rintro j (hj | hj)
        · exact .inl hj
        · exact .inr ⟨hj.1, by show j < (w6.setCell _ _).heap.size; rw [set_size]; exact hj.2⟩
      · exact grow_lt Hf.out (HD.out.2.set (b := C) (i := n * 258 + 257) (.inl Hk.out.tc) (.int .i64 ((ws.length : Int) + 1))).size
    clear e4 e5 eL fL
    go_wp2_with fail
    go_end0
    exact ⟨rfl, _, HL6.out⟩
end
end Go.Proofs.YtgjdoiblgbdebaaDoor
