/- All writes that wait are stored, or lost. -/
import Derived.Test.YtgjdoiblgbdebaaDoorDevFate
namespace Go.Proofs.YtgjdoiblgbdebaaDoor
open Go.RowKit
def stepM (M : List MCell) (p : Nat × List Int) (s : Nat) : List MCell := (storedM M p s).set p.1 { (storedM M p s).getD p.1 default with last := 0 }
/-- The blocks behind the first k writes. -/
def settleM (M : List MCell) (ws : List (Nat × List Int)) (f : Nat → Nat) : Nat → List MCell
  | 0 => M
  | k + 1 => match ws[k]? with
    | some p => stepM (settleM M ws f k) p (f k)
    | none => settleM M ws f k
def mHurts (M : List MCell) : Nat := M.countP (·.hurt)
theorem storedM_len (M : List MCell) (p : Nat × List Int) (s : Nat) : (storedM M p s).length = M.length := by unfold storedM; rw [List.length_set]
theorem stepM_len (M : List MCell) (p : Nat × List Int) (s : Nat) : (stepM M p s).length = M.length := by unfold stepM; rw [List.length_set, storedM_len]
theorem settleM_len (M : List MCell) (ws : List (Nat × List Int)) (f : Nat → Nat) : ∀ k, (settleM M ws f k).length = M.length
  | 0 => rfl
  | k + 1 => by
    unfold settleM
    split
    · rw [stepM_len, settleM_len M ws f k]
    · exact settleM_len M ws f k
theorem settleM_next {M : List MCell} {ws : List (Nat × List Int)} {f : Nat → Nat} {k : Nat} {p : Nat × List Int} (h : ws[k]? = some p) : settleM M ws f (k + 1) = stepM (settleM M ws f k) p (f k) := by
  conv => lhs; unfold settleM
  rw [h]
theorem mHurts_set {M : List MCell} {n : Nat} (hn : n < M.length) (y : MCell) : mHurts (M.set n y) = mHurts M - (if (M.getD n default).hurt then 1 else 0) + (if y.hurt then 1 else 0) := by
  unfold mHurts
  rw [List.countP_set hn, getD_at hn]
theorem mHurts_pos {M : List MCell} {n : Nat} (hn : n < M.length) (h : (M.getD n default).hurt = true) : 0 < mHurts M := by
  unfold mHurts
  rw [List.countP_pos_iff]
  rw [getD_at hn] at h
  exact ⟨M[n], List.getElem_mem hn, h⟩
theorem mHurts_le (M : List MCell) : mHurts M ≤ M.length := List.countP_le_length
theorem mHurts_stored {M : List MCell} {p : Nat × List Int} {s : Nat} (hn : p.1 < M.length) : storedHu M p.1 s (mHurts M) = mHurts (storedM M p s) := by
  unfold storedM
  rw [mHurts_set hn]
  unfold storedHu MCell.store
  cases hh : (M.getD p.1 default).hurt with
  | false => by_cases h8 : s = 8 <;> simp [h8]
  | true =>
    have := mHurts_pos hn hh
    by_cases h8 : s = 8
    · simp [h8]
    · simp [h8]; omega
theorem mHurts_last {M : List MCell} {n : Nat} (hn : n < M.length) (x : Nat) : mHurts (M.set n { M.getD n default with last := x }) = mHurts M := by
  rw [mHurts_set hn]
  cases hh : (M.getD n default).hurt with
  | false => simp
  | true => have := mHurts_pos hn hh; simp; omega
theorem mHurts_step {M : List MCell} {p : Nat × List Int} {s : Nat} (hn : p.1 < M.length) : storedHu M p.1 s (mHurts M) = mHurts (stepM M p s) := by
  unfold stepM
  rw [mHurts_last (by rw [storedM_len]; exact hn), mHurts_stored hn]
/-! ### A write, read and kept as a whole -/
def zeroW : Array Value := (writeV (0, List.replicate 256 0)).toArray
theorem infoWrite : (Tryd.prog.info? 101).map (fun i => (i.zero, i.size, i.bytes)) = some (some (.agg zeroW), 257, 264) := by kernel_rfl
theorem zeroWrite (w : World) : (zeroValue 101).run Tryd.prog w = .ok (.agg zeroW) w := by
  obtain ⟨i0, hi, hz0, hz1, hz2⟩ := info_parts infoWrite
  simp [zeroValue, typeInfo, hi, hz0]
theorem zeroW_size : zeroW.size = 257 := by unfold zeroW; rw [List.size_toArray, writeV_len nought_ok]
theorem sizeWrite : (Tryd.prog.info? 101).map (·.size) = some 257 := by
  obtain ⟨i0, hi, hz0, hz1, hz2⟩ := info_parts infoWrite
  rw [hi]; simp [hz1]
theorem load_write {w : World} {g o : Nat} {p : Nat × List Int} (hp : BlkOk p.2) (hr : w.rangeAt g o (writeV p)) : (Instr.loadAt 101 (.pointer (some ⟨g, o, none⟩))).run Tryd.prog w = .ok (.agg (writeV p).toArray) w :=
  run_loadAt_mid w g o 101 (writeV p) _ hr Tryd.underlying101 rfl (by rw [sizeWrite, writeV_len hp])
theorem cells_write {w : World} {g o : Nat} {p : Nat × List Int} (hp : BlkOk p.2) (hr : w.rangeAt g o (writeV p)) : (loadCellsFrom ⟨g, o, none⟩ 0 257 #[]).run Tryd.prog w = .ok (writeV p).toArray w := by
  have := run_loadCells_list (P := Tryd.prog) w ⟨g, o, none⟩ (writeV p) (fun j v hv => by rw [Addr.add_mid]; exact hr j v hv)
  rw [writeV_len hp] at this
  exact this
theorem writeV_one {p : Nat × List Int} : ∀ v ∈ writeV p, v.oneCell' = true := fun v hv => by
  unfold writeV at hv
  rcases List.mem_cons.1 hv with rfl | hv
  · rfl
  · exact u8s_one _ v hv
theorem store_write (w : World) {p : Nat × List Int} (hp : BlkOk p.2) : (storeCells ⟨w.heap.size, 0, none⟩ (writeV p) 0).run Tryd.prog (w.alloc (.cells zeroW 101)) = .ok () (w.alloc (.cells (writeV p).toArray 101)) := by
  have := run_storeCells_new (P := Tryd.prog) w 101 zeroW (writeV p).toArray (by rw [sizeWrite, List.size_toArray, writeV_len hp]) (by rw [zeroW_size, List.size_toArray, writeV_len hp]) (all_oneCell_toArray writeV_one)
  exact this
theorem range_write {w : World} {wv : Value} {ws : List (Nat × List Int)} (h : w.ownsRow 0 101 257 wv ws.length (ws.flatMap writeV)) (hb : ∀ p ∈ ws, BlkOk p.2) {k : Nat} (hk : k < ws.length) :
    ∃ g cap, wv = .slice (some ⟨g, 0, none⟩) ws.length cap ∧ ws.length ≤ cap ∧ cap ≤ maxLen ∧ g < w.heap.size ∧ w.rangeAt g (k * 257) (writeV ws[k]) := by
  obtain ⟨g, cap, rfl, h1, h2, h3, h4⟩ := own_form h (by omega)
  refine ⟨g, cap, rfl, h3, h4, h2, fun j v hv => ?_⟩
  have hw : ∀ p ∈ ws, (writeV p).length = 257 := fun p hp => writeV_len (hb p hp)
  have hj : j < 257 := by rw [← hw _ (List.getElem_mem hk)]; exact (List.getElem?_eq_some_iff.1 hv).1
  rw [h.cellAt (k * 257 + j) (by
    have : (k + 1) * 257 ≤ ws.length * 257 := Nat.mul_le_mul_right 257 hk
    rw [Nat.add_mul] at this; omega), flat_at writeV 257 hw hk hj, hv]
/-- Nothing waits any more. -/
theorem DevR.noWaits {w : World} {T : Nat → Prop} {h C : Nat} {wv : Value} {hu tu cr : Nat} {M : List MCell} {ws : List (Nat × List Int)} {left : Int} {dn : Bool} (k : DevR w T h C wv hu tu cr M ws left dn) : DevR (w.setCell ⟨h, 5, none⟩ (.slice none 0 0)) T h C (.slice none 0 0) hu tu cr M [] left dn :=
  ⟨fun j hj => by rw [set_size]; exact k.foot j hj, k.self, k.tc, k.ne, k.blk.set1 5 _, k.cells.keep (set_other _ _ _ _ _ k.ne), World.ownsRow_nil _ _ _ _, by simp [Value.ownBlock], by simp [Value.ownBlock], (fun b hb => by simp [Value.ownBlock] at hb), k.mb, k.many, fun p hp => by cases hp⟩
theorem DevR.drew {w : World} {T : Nat → Prop} {h C : Nat} {wv : Value} {hu tu cr : Nat} {M : List MCell} {ws : List (Nat × List Int)} {left : Int} {dn : Bool} (k : DevR w T h C wv hu tu cr M ws left dn) : DevR w.drew T h C wv hu tu cr M ws left dn := ⟨k.foot, k.self, k.tc, k.ne, k.blk, k.cells, k.own, k.off, k.offC, k.mem, k.mb, k.many, k.wb⟩
theorem BlkOk.wr {w : World} {T : Nat → Prop} {h C : Nat} {wv : Value} {hu tu cr : Nat} {M : List MCell} {ws : List (Nat × List Int)} {left : Int} {dn : Bool} (k : DevR w T h C wv hu tu cr M ws left dn) : ∀ p ∈ ws, BlkOk p.2 := fun p hp => (k.wb p hp).2
/-- Behind one round: what is stored of a write, and that none waits for its block any more. -/
theorem settle_step {w wr w2 w3 : World} {T : Nat → Prop} {h C : Nat} {wv : Value} {tu cr : Nat} {M : List MCell} {ws : List (Nat × List Int)} {left : Int} {dn : Bool} {p : Nat × List Int} {s : Nat} (hp : p.1 < M.length)
    (hC : Chg T w wr) (hb : Below wr.heap.size wr w2) (hf : ∀ j, T j → j < w.heap.size) (hTC : T C)
    (k : DevR w3 (grow (grow T w wr) w2.drew w3) h C wv (storedHu M p.1 s (mHurts M)) tu cr (storedM M p s) ws left dn) (hc : Chg (grow T w wr) w2.drew w3) :
    DevR (w3.setCell ⟨C, p.1 * 258 + 257, none⟩ (.int .i64 0)).drew (grow T w (w3.setCell ⟨C, p.1 * 258 + 257, none⟩ (.int .i64 0)).drew) h C wv (mHurts (stepM M p s)) tu cr (stepM M p s) ws left dn ∧ Chg T w (w3.setCell ⟨C, p.1 * 258 + 257, none⟩ (.int .i64 0)).drew := by
  have h1 := (k.setLast (n := p.1) (by rw [storedM_len]; exact hp) 0).drew
  rw [mHurts_step hp] at h1
  have s1 := hC.size
  have s2 := hb.size
  have s3 : w2.heap.size ≤ w3.heap.size := hc.size
  have s4 : (w3.setCell ⟨C, p.1 * 258 + 257, none⟩ (.int .i64 0)).drew.heap.size = w3.heap.size := set_size _ _ _
  have hc3 : Chg T w w3 := (hC.on (w2 := w2.drew) hb.drew).trans (hc.mono (by
    rintro j (hj | hj)
    · exact .inl hj
    · exact .inr ⟨hj.1, by show j < w2.heap.size; omega⟩))
  refine ⟨h1.mono ?_ ?_, (hc3.set (.inl hTC) _).drew⟩
  · rintro j ((hj | hj) | hj)
    · exact .inl hj
    · exact .inr ⟨hj.1, by omega⟩
    · have : w2.heap.size ≤ j := hj.1
      exact .inr ⟨by omega, by rw [s4]; exact hj.2⟩
  · rintro j (hj | hj)
    · have := hf j hj; show j < (w3.setCell ⟨C, p.1 * 258 + 257, none⟩ (.int .i64 0)).drew.heap.size; omega
    · exact hj.2
end Go.Proofs.YtgjdoiblgbdebaaDoor
