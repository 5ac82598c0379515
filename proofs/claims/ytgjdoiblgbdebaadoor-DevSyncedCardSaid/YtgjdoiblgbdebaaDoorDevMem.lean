/- What a disk has in memory. -/
import Derived.Test.YtgjdoiblgbdebaaDoorKitChg
import Derived.Test.YtgjdoiblgbdebaaDoorDevModel
import Derived.Test.YtgjdoiblgbdebaaDoorDevErr
import Derived.Deep.MidRow
import Derived.Laws.CopyOwn
import Derived.Deep.WholeRow
namespace Go.Proofs.YtgjdoiblgbdebaaDoor
open Go.RowKit
/-! ### Rows of rows of one width -/
theorem flat_split {α : Type} (f : α → List Value) {l : List α} {n : Nat} (h : n < l.length) : l.flatMap f = (l.take n).flatMap f ++ (f l[n] ++ (l.drop (n + 1)).flatMap f) := by
  conv => lhs; rw [← List.take_append_drop n l]
  rw [List.flatMap_append, List.drop_eq_getElem_cons h, List.flatMap_cons]
theorem flat_len {α : Type} (f : α → List Value) (W : Nat) : ∀ (l : List α), (∀ x ∈ l, (f x).length = W) → (l.flatMap f).length = l.length * W
  | [], _ => by simp
  | x :: r, h => by
    rw [List.flatMap_cons, List.length_append, flat_len f W r (fun y hy => h y (List.mem_cons_of_mem _ hy)), h x (List.mem_cons_self), List.length_cons, Nat.add_mul, Nat.one_mul, Nat.add_comm]
theorem flat_head_len {α : Type} (f : α → List Value) (W : Nat) {l : List α} (h : ∀ x ∈ l, (f x).length = W) {n : Nat} (hn : n ≤ l.length) : ((l.take n).flatMap f).length = n * W := by
  rw [flat_len f W _ (fun x hx => h x (List.mem_of_mem_take hx)), List.length_take, Nat.min_eq_left hn]
theorem flat_at {α : Type} (f : α → List Value) (W : Nat) {l : List α} (h : ∀ x ∈ l, (f x).length = W) {n : Nat} (hn : n < l.length) {i : Nat} (hi : i < W) : (l.flatMap f)[n * W + i]? = (f l[n])[i]? := by
  have h1 := flat_head_len f W h (Nat.le_of_lt hn)
  rw [flat_split f hn, List.getElem?_append_right (by omega), h1, Nat.add_sub_cancel_left, List.getElem?_append_left (by rw [h _ (List.getElem_mem hn)]; exact hi)]
theorem splice_mid {α : Type} (A B L : List α) (o : Nat) (vs : List α) (h : o + vs.length ≤ B.length) : splice (A ++ (B ++ L)) (A.length + o) vs = A ++ (splice B o vs ++ L) := by
  unfold splice
  rw [List.take_length_add_append, List.append_assoc, Nat.add_assoc, List.drop_length_add_append, List.take_append_of_le_length (by omega), List.drop_append_of_le_length h]
  simp
theorem flat_splice {α : Type} (f : α → List Value) (W : Nat) {l : List α} (h : ∀ x ∈ l, (f x).length = W) {n : Nat} (hn : n < l.length) {o : Nat} {vs : List Value} (ho : o + vs.length ≤ W) {y : α} (hy : f y = splice (f l[n]) o vs) : splice (l.flatMap f) (n * W + o) vs = (l.set n y).flatMap f := by
  have h1 := flat_head_len f W h (Nat.le_of_lt hn)
  rw [flat_split f hn, ← h1, splice_mid _ _ _ _ _ (by rw [h _ (List.getElem_mem hn)]; exact ho), ← hy]
  have hn' : n < (l.set n y).length := by rw [List.length_set]; exact hn
  rw [flat_split f hn', List.take_set_of_le (Nat.le_refl n), List.drop_set_of_lt (Nat.lt_succ_self n), List.getElem_set_self]
theorem splice_one {α : Type} (L : List α) (o : Nat) (v : α) (h : o < L.length) : splice L o [v] = L.set o v := by
  unfold splice
  rw [List.set_eq_take_append_cons_drop, if_pos h]; simp
/-! ### Blocks, and writes that wait, as cells -/
/-- A block as it lies in memory: its bytes; whether it is hurt; the last of the writes that wait for it. -/
structure MCell where
  bs : List Int
  hurt : Bool
  last : Nat
instance : Inhabited MCell := ⟨⟨[], false, 0⟩⟩
def cellV (m : MCell) : List Value := u8s m.bs ++ [.bool m.hurt, .int .i64 (m.last : Int)]
def writeV (p : Nat × List Int) : List Value := .int .i64 (p.1 : Int) :: u8s p.2
theorem cellV_len {m : MCell} (h : BlkOk m.bs) : (cellV m).length = 258 := by unfold cellV; rw [List.length_append, u8s_len, h.1]; rfl
theorem writeV_len {p : Nat × List Int} (h : BlkOk p.2) : (writeV p).length = 257 := by unfold writeV; rw [List.length_cons, u8s_len, h.1]
theorem cellV_hurt {m : MCell} (h : BlkOk m.bs) : (cellV m)[256]? = some (.bool m.hurt) := by
  unfold cellV; rw [List.getElem?_append_right (by rw [u8s_len, h.1]; omega), u8s_len, h.1]; rfl
theorem cellV_last {m : MCell} (h : BlkOk m.bs) : (cellV m)[257]? = some (.int .i64 (m.last : Int)) := by
  unfold cellV; rw [List.getElem?_append_right (by rw [u8s_len, h.1]; omega), u8s_len, h.1]; rfl
theorem cellV_byte {m : MCell} (h : BlkOk m.bs) {i : Nat} (hi : i < 256) : (cellV m)[i]? = some (.int .u8 (m.bs.getD i 0)) := by
  unfold cellV; rw [List.getElem?_append_left (by rw [u8s_len, h.1]; exact hi)]
  unfold u8s
  rw [List.getElem?_map, List.getD_eq_getElem?_getD, List.getElem?_eq_getElem (by rw [h.1]; exact hi)]; rfl
theorem cellV_set_hurt {m : MCell} (h : BlkOk m.bs) (x : Bool) : (cellV m).set 256 (.bool x) = cellV { m with hurt := x } := by
  unfold cellV; rw [List.set_append_right _ _ (by rw [u8s_len, h.1]; omega), u8s_len, h.1]; rfl
theorem cellV_set_last {m : MCell} (h : BlkOk m.bs) (x : Nat) : (cellV m).set 257 (.int .i64 (x : Int)) = cellV { m with last := x } := by
  unfold cellV; rw [List.set_append_right _ _ (by rw [u8s_len, h.1]; omega), u8s_len, h.1]; rfl
theorem cellV_splice {m : MCell} (h : BlkOk m.bs) {ys : List Int} (hy : ys.length ≤ 256) : splice (cellV m) 0 (u8s ys) = cellV { m with bs := ys ++ m.bs.drop ys.length } := by
  unfold cellV splice
  rw [List.take_zero, List.nil_append, Nat.zero_add, u8s_len, List.drop_append_of_le_length (by rw [u8s_len, h.1]; exact hy), ← u8s_app]
  unfold u8s
  rw [List.map_drop]; simp
/-- What a disk has in memory: its own eight cells, its blocks, its writes that wait; all of them in blocks of T. -/
structure DevR (w : World) (T : Nat → Prop) (h C : Nat) (wv : Value) (hu tu cr : Nat) (M : List MCell) (ws : List (Nat × List Int)) (left : Int) (dn : Bool) : Prop where
  foot : ∀ k, T k → k < w.heap.size
  self : T h
  tc : T C
  ne : C ≠ h
  blk : BlockIs w h 62 #[.int .i64 (hu : Int), .int .i64 (tu : Int), .int .i64 (cr : Int), .pointer (some ⟨h, 0, none⟩), .slice (some ⟨C, 0, none⟩) M.length M.length, wv, .int .i64 left, .bool dn]
  cells : BlockIs w C 86 (M.flatMap cellV).toArray
  own : w.ownsRow 0 101 257 wv ws.length (ws.flatMap writeV)
  off : wv.ownBlock ≠ some h
  offC : wv.ownBlock ≠ some C
  mem : ∀ b, wv.ownBlock = some b → T b
  mb : ∀ m ∈ M, BlkOk m.bs
  many : M.length ≤ 4096
  wb : ∀ p ∈ ws, p.1 < M.length ∧ BlkOk p.2
section
variable {w w' : World} {T T' : Nat → Prop} {h C : Nat} {wv : Value} {hu tu cr : Nat} {M : List MCell} {ws : List (Nat × List Int)} {left : Int} {dn : Bool}
theorem DevR.lt (k : DevR w T h C wv hu tu cr M ws left dn) : h < w.heap.size := k.foot h k.self
theorem DevR.keep (k : DevR w T h C wv hu tu cr M ws left dn) (hs : w.heap.size ≤ w'.heap.size) (hk : ∀ b, T b → w'.heap[b]? = w.heap[b]?) : DevR w' T h C wv hu tu cr M ws left dn :=
  ⟨fun _ hj => Nat.lt_of_lt_of_le (k.foot _ hj) hs, k.self, k.tc, k.ne, k.blk.keep (hk _ k.self), k.cells.keep (hk _ k.tc), own_keep k.own (fun b hb => hk b (k.mem b hb)), k.off, k.offC, k.mem, k.mb, k.many, k.wb⟩
theorem DevR.below (k : DevR w T h C wv hu tu cr M ws left dn) (hb : Below w.heap.size w w') : DevR w' T h C wv hu tu cr M ws left dn := k.keep hb.size (fun b hT => hb.block b (k.foot b hT))
theorem DevR.drewN (k : DevR w T h C wv hu tu cr M ws left dn) (n : Nat) : DevR (w.drewN n) T h C wv hu tu cr M ws left dn := ⟨k.foot, k.self, k.tc, k.ne, k.blk, k.cells, k.own, k.off, k.offC, k.mem, k.mb, k.many, k.wb⟩
theorem DevR.mono (k : DevR w T h C wv hu tu cr M ws left dn) (hT : ∀ j, T j → T' j) (hf : ∀ j, T' j → j < w.heap.size) : DevR w T' h C wv hu tu cr M ws left dn :=
  ⟨hf, hT _ k.self, hT _ k.tc, k.ne, k.blk, k.cells, k.own, k.off, k.offC, fun b hb => hT _ (k.mem b hb), k.mb, k.many, k.wb⟩
theorem DevR.wid (k : DevR w T h C wv hu tu cr M ws left dn) : ∀ m ∈ M, (cellV m).length = 258 := fun m hm => cellV_len (k.mb m hm)
theorem DevR.cell8 (k : DevR w T h C wv hu tu cr M ws left dn) :
    w.cell? ⟨h, 0, none⟩ = some (.int .i64 (hu : Int)) ∧ w.cell? ⟨h, 1, none⟩ = some (.int .i64 (tu : Int)) ∧ w.cell? ⟨h, 2, none⟩ = some (.int .i64 (cr : Int)) ∧ w.cell? ⟨h, 3, none⟩ = some (.pointer (some ⟨h, 0, none⟩)) ∧
    w.cell? ⟨h, 4, none⟩ = some (.slice (some ⟨C, 0, none⟩) M.length M.length) ∧ w.cell? ⟨h, 5, none⟩ = some wv ∧ w.cell? ⟨h, 6, none⟩ = some (.int .i64 left) ∧ w.cell? ⟨h, 7, none⟩ = some (.bool dn) :=
  ⟨k.blk.cell 0, k.blk.cell 1, k.blk.cell 2, k.blk.cell 3, k.blk.cell 4, k.blk.cell 5, k.blk.cell 6, k.blk.cell 7⟩
theorem DevR.at_ (k : DevR w T h C wv hu tu cr M ws left dn) {n : Nat} (hn : n < M.length) {i : Nat} (hi : i < 258) : w.cell? ⟨C, n * 258 + i, none⟩ = (cellV M[n])[i]? := by
  rw [k.cells.cell, List.getElem?_toArray]; exact flat_at cellV 258 k.wid hn hi
theorem DevR.range (k : DevR w T h C wv hu tu cr M ws left dn) {n : Nat} (hn : n < M.length) : w.rangeAt C (n * 258) (cellV M[n]) := fun j v hv => by
  have hj : j < 258 := by rw [← k.wid _ (List.getElem_mem hn)]; exact (List.getElem?_eq_some_iff.1 hv).1
  rw [k.at_ hn hj, hv]
theorem DevR.block (k : DevR w T h C wv hu tu cr M ws left dn) {n : Nat} (hn : n < M.length) : w.rangeAt C (n * 258) (u8s M[n].bs) := fun j v hv => by
  refine k.range hn j v ?_
  unfold cellV
  rw [List.getElem?_append_left (List.getElem?_eq_some_iff.1 hv).1, hv]
end
/-- What is in memory is the disk that the page tells. -/
structure DevL (D : DM) (hu tu cr : Nat) (M : List MCell) (ws : List (Nat × List Int)) (left : Int) (dn : Bool) : Prop where
  hu : hu = hurts D.cells
  tu : tu = D.turns
  cr : cr = D.crashes
  len : M.length = D.cells.length
  mm : ∀ (n : Nat) m, M[n]? = some m → D.cells[n]? = some (m.bs, m.hurt) ∧ m.last = lastOf D.waits n
  ws : ws = D.waits
  dn : dn = D.down
  armed : D.down = false → left = D.armed
  lo : 0 ≤ left ∧ left ≤ 9223372036854775807
  some_ : 0 < M.length
def DevAt (w : World) (T : Nat → Prop) (h : Nat) (D : DM) : Prop := ∃ C wv hu tu cr M ws left dn, DevR w T h C wv hu tu cr M ws left dn ∧ DevL D hu tu cr M ws left dn
/-- What it counts is small. -/
structure DM.Few (D : DM) (k : Nat) : Prop where
  tu : D.turns ≤ k
  cr : D.crashes ≤ k
  ws : D.waits.length ≤ k
section
variable {w w' : World} {T T' : Nat → Prop} {h : Nat} {D : DM}
theorem DevAt.keep (k : DevAt w T h D) (hs : w.heap.size ≤ w'.heap.size) (hk : ∀ b, T b → w'.heap[b]? = w.heap[b]?) : DevAt w' T h D := by
  obtain ⟨C, wv, hu, tu, cr, M, ws, left, dn, k, l⟩ := k; exact ⟨C, wv, hu, tu, cr, M, ws, left, dn, k.keep hs hk, l⟩
theorem DevAt.below (k : DevAt w T h D) (hb : Below w.heap.size w w') : DevAt w' T h D := by
  obtain ⟨C, wv, hu, tu, cr, M, ws, left, dn, k, l⟩ := k; exact ⟨C, wv, hu, tu, cr, M, ws, left, dn, k.below hb, l⟩
theorem DevAt.drewN (k : DevAt w T h D) (n : Nat) : DevAt (w.drewN n) T h D := by
  obtain ⟨C, wv, hu, tu, cr, M, ws, left, dn, k, l⟩ := k; exact ⟨C, wv, hu, tu, cr, M, ws, left, dn, k.drewN n, l⟩
theorem DevAt.mono (k : DevAt w T h D) (hT : ∀ j, T j → T' j) (hf : ∀ j, T' j → j < w.heap.size) : DevAt w T' h D := by
  obtain ⟨C, wv, hu, tu, cr, M, ws, left, dn, k, l⟩ := k; exact ⟨C, wv, hu, tu, cr, M, ws, left, dn, k.mono hT hf, l⟩
theorem DevAt.foot (k : DevAt w T h D) : ∀ j, T j → j < w.heap.size := by
  obtain ⟨C, wv, hu, tu, cr, M, ws, left, dn, k, l⟩ := k; exact k.foot
theorem DevAt.self (k : DevAt w T h D) : T h := by
  obtain ⟨C, wv, hu, tu, cr, M, ws, left, dn, k, l⟩ := k; exact k.self
theorem DevAt.lt (k : DevAt w T h D) : h < w.heap.size := k.foot h k.self
theorem DevAt.ok (k : DevAt w T h D) : D.Ok := by
  obtain ⟨C, wv, hu, tu, cr, M, ws, left, dn, k, l⟩ := k
  refine ⟨by rw [← l.len]; exact l.some_, by rw [← l.len]; exact k.many, fun n c hc => ?_, fun p hp => ?_, fun p hp => ?_⟩
  · have hn : n < M.length := by rw [l.len]; exact (List.getElem?_eq_some_iff.1 hc).1
    have := (l.mm n _ (List.getElem?_eq_getElem hn)).1
    rw [hc] at this
    injection this with this
    rw [this]; exact k.mb _ (List.getElem_mem hn)
  · rw [← l.len]; exact (k.wb p (l.ws ▸ hp)).1
  · exact (k.wb p (l.ws ▸ hp)).2
/-- Two steps, one behind the other, each of which turns what is the disk's, or new. -/
theorem DevAt.grow_same (k : DevAt w T h D) : DevAt w (grow T w w) h D := k.mono (fun _ hj => .inl hj) (by
  rintro j (hj | hj)
  · exact k.foot j hj
  · exact hj.2)
end
/-- What a call leaves: the disk D; all else as it was. -/
structure Dev (w : World) (T : Nat → Prop) (h : Nat) (D : DM) (w' : World) : Prop where
  at_ : DevAt w' (grow T w w') h D
  fr : Chg T w w'
theorem Dev.same {w : World} {T : Nat → Prop} {h : Nat} {D : DM} (k : DevAt w T h D) : Dev w T h D w := ⟨k.grow_same, Chg.refl _ _⟩
theorem Dev.below {w w' : World} {T : Nat → Prop} {h : Nat} {D : DM} (k : DevAt w T h D) (hb : Below w.heap.size w w') : Dev w T h D w' :=
  ⟨(k.below hb).mono (fun _ hj => .inl hj) (grow_lt k.foot hb.size), Chg.of_below hb⟩
theorem Dev.trans {w w1 w2 : World} {T : Nat → Prop} {h : Nat} {D1 D2 : DM} (a : Dev w T h D1 w1) (b : Dev w1 (grow T w w1) h D2 w2) (hf : ∀ k, T k → k < w.heap.size) : Dev w T h D2 w2 :=
  ⟨b.at_.mono (grow_trans a.fr.size b.fr.size) (grow_lt hf (Nat.le_trans a.fr.size b.fr.size)), a.fr.trans b.fr⟩
theorem Dev.on {w w1 w2 : World} {T : Nat → Prop} {h : Nat} {D : DM} (a : Dev w T h D w1) (hb : Below w1.heap.size w1 w2) (hf : ∀ k, T k → k < w.heap.size) : Dev w T h D w2 := a.trans (Dev.below a.at_ hb) hf
theorem Dev.after {w w1 w2 : World} {T : Nat → Prop} {h : Nat} {D : DM} (hb : Below w.heap.size w w1) (b : Dev w1 T h D w2) (hf : ∀ k, T k → k < w.heap.size) : Dev w T h D w2 := by
  have h1 := hb.size
  have h2 := b.fr.size
  refine ⟨b.at_.mono ?_ (grow_lt hf (by omega)), ⟨b.fr.os.trans hb.os, b.fr.tape.trans hb.tape, b.fr.output.trans hb.output, by omega, fun j hj hT => (b.fr.block j (by omega) hT).trans (hb.block j hj)⟩⟩
  rintro j (hj | hj)
  · exact .inl hj
  · exact .inr ⟨by omega, hj.2⟩
end Go.Proofs.YtgjdoiblgbdebaaDoor
