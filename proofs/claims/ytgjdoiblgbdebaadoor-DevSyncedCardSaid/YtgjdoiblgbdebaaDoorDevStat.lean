/- Stored, Stat of a disk: just what the page tells. -/
import Derived.Test.YtgjdoiblgbdebaaDoorDevRead
import Derived.BigRegion
namespace Go.Proofs.YtgjdoiblgbdebaaDoor
open Go.RowKit
section
variable {w : World} {T : Nat → Prop} {dk : Nat} {D : DM}
/-- What Stored tells. -/
def DM.storedI (D : DM) (n : Int) : List Int := if D.has n then D.stored n.toNat else []
set_option maxRecDepth 100000 in
set_option maxHeartbeats 1000000 in
theorem stored_any (k : DevAt w T dk D) (n : Int) :
    Calls Tryd.prog 20 #[.pointer (some ⟨dk, 0, none⟩), .int .i64 n] w fun e w' => ∃ v, e = .returned v ∧ OutAt w' w.heap.size v (D.storedI n) ∧ Below w.heap.size w w' := by
  obtain ⟨C, wv, hu, tu, cr, M, ws, left, dn, R, L⟩ := k
  have HT := Lib.hid (has_any R n)
  rw [L.hasB] at HT
  have c4 := R.cell8.2.2.2.2.1
  have hM := R.many
  by_cases hn : D.has n
  · have Hw : Hid (D.storedI n = D.stored n.toNat) := Lib.hid (by unfold DM.storedI; rw [if_pos hn])
    rw [decide_eq_true hn] at HT
    unfold DM.has at hn
    obtain ⟨m, rfl⟩ := Int.eq_ofNat_of_zero_le hn.1
    have hm : m < M.length := by have := L.len; omega
    have Hb := Lib.hid (R.mb _ (List.getElem_mem hm))
    have Hr := Lib.hid (R.block hm)
    have hs : D.stored m = M[m].bs := by
      unfold DM.stored
      rw [List.getD_eq_getElem?_getD, (L.mm m _ (List.getElem?_eq_getElem hm)).1]; rfl
    rw [Int.toNat_natCast, hs] at Hw
    generalize M[m].bs = bs at Hb Hr Hw
    have hlen : (u8s bs).length = 256 := by rw [u8s_len, Hb.out.1]
    have hz := zeroBlock
    have hst := fun w' => store_block1 w' Hb.out
    clear hs hn R L
    go_enter Tryd.func20, Tryd.ntmps20
    go_wp2_with fail
    refine HT.out.mono ?_
    rintro e w' ⟨rfl, rfl⟩
    go_wp2_with fail
    refine wp_load_mid 84 (.tmp 16) rfl C (m * 258) (by simp [Act.eval]) (u8s bs) _ Hr.out Tryd.underlying84 rfl (by rw [sizeBlock, hlen]) ?_
    go_wp2_with fail
    go_ret
    rw [Hw.out]
    refine ⟨_, rfl, .inr ⟨w.heap.size, 84, ?_, Nat.le_refl _, BlockIs.made w _ _, Hb.out.2⟩, below_new w _⟩
    rw [Hb.out.1]; rfl
  · have Hw : Hid (D.storedI n = []) := Lib.hid (by unfold DM.storedI; rw [if_neg hn])
    rw [decide_eq_false hn] at HT
    clear c4 R L
    go_enter Tryd.func20, Tryd.ntmps20
    go_wp2_with fail
    refine HT.out.mono ?_
    rintro e w' ⟨rfl, rfl⟩
    go_wp2_with fail
    go_ret
    rw [Hw.out]
    exact ⟨_, rfl, .inl ⟨rfl, rfl⟩, Below.refl _ _⟩
/-- What Stat tells. -/
def statV (a b c d e : Int) (f : Bool) : Value := .agg #[.int .i64 a, .int .i64 b, .int .i64 c, .int .i64 d, .int .i64 e, .bool f]
def DM.statV (D : DM) : Value := Go.Proofs.YtgjdoiblgbdebaaDoor.statV D.cells.length D.waits.length (hurts D.cells) D.turns D.crashes D.down
set_option maxRecDepth 100000 in
set_option maxHeartbeats 8000000 in
theorem stat_any (k : DevAt w T dk D) :
    Calls Tryd.prog 19 #[.pointer (some ⟨dk, 0, none⟩)] w fun e w' => e = .returned D.statV ∧ Below w.heap.size w w' := by
  obtain ⟨C, wv, hu, tu, cr, M, ws, left, dn, R, L⟩ := k
  have hbn := below_new w (.cells #[.int .i64 0, .int .i64 0, .int .i64 0, .int .i64 0, .int .i64 0, .bool false] 44)
  have k1 := R.below hbn
  obtain ⟨c0, c1, c2, c3, c4, c5, c6, c7⟩ := k1.cell8
  obtain ⟨X, cap, hwv, hc1, hc2⟩ := own_slice k1.own
  rw [hwv] at c5
  have HV : Hid (D.statV = Go.Proofs.YtgjdoiblgbdebaaDoor.statV M.length ws.length hu tu cr dn) := Lib.hid (by unfold DM.statV; rw [L.len, L.ws, L.hu, L.tu, L.cr, L.dn])
  have Hb := Lib.hid hbn
  have Hlt := Lib.hid R.lt
  clear c6 R L hbn k1
  go_enter Tryd.func19, Tryd.ntmps19
  go_wp2_with fail
  refine (told_any _ dk c3).mono ?_
  rintro e w' ⟨rfl, rfl⟩
  have HS := Lib.hid (BlockIs.made w 44 #[.int .i64 0, .int .i64 0, .int .i64 0, .int .i64 0, .int .i64 0, .bool false])
  have Hne : w.heap.size ≠ dk := fun e => by have := Hlt.out; omega
  generalize (w.alloc (.cells #[.int .i64 0, .int .i64 0, .int .i64 0, .int .i64 0, .int .i64 0, .bool false] 44)) = w1 at *
  have s0 : w1.cell? ⟨w.heap.size, 0, none⟩ = some (.int .i64 0) := HS.out.cell 0
  have s1 : w1.cell? ⟨w.heap.size, 1, none⟩ = some (.int .i64 0) := HS.out.cell 1
  have s2 : w1.cell? ⟨w.heap.size, 2, none⟩ = some (.int .i64 0) := HS.out.cell 2
  have s3 : w1.cell? ⟨w.heap.size, 3, none⟩ = some (.int .i64 0) := HS.out.cell 3
  have s4 : w1.cell? ⟨w.heap.size, 4, none⟩ = some (.int .i64 0) := HS.out.cell 4
  have s5 : w1.cell? ⟨w.heap.size, 5, none⟩ = some (.bool false) := HS.out.cell 5
  have f0 := HS.out.free 0
  have f1 := HS.out.free 1
  have f2 := HS.out.free 2
  have f3 := HS.out.free 3
  have f4 := HS.out.free 4
  have f5 := HS.out.free 5
  have H6 : Hid (BlockIs ((((((w1.setCell ⟨w.heap.size, 0, none⟩ (.int .i64 (M.length : Int))).setCell ⟨w.heap.size, 1, none⟩ (.int .i64 (ws.length : Int))).setCell ⟨w.heap.size, 2, none⟩ (.int .i64 (hu : Int))).setCell ⟨w.heap.size, 3, none⟩ (.int .i64 (tu : Int))).setCell ⟨w.heap.size, 4, none⟩ (.int .i64 (cr : Int))).setCell ⟨w.heap.size, 5, none⟩ (.bool dn)) w.heap.size 44 #[.int .i64 (M.length : Int), .int .i64 (ws.length : Int), .int .i64 (hu : Int), .int .i64 (tu : Int), .int .i64 (cr : Int), .bool dn] ∧
      Below w.heap.size w ((((((w1.setCell ⟨w.heap.size, 0, none⟩ (.int .i64 (M.length : Int))).setCell ⟨w.heap.size, 1, none⟩ (.int .i64 (ws.length : Int))).setCell ⟨w.heap.size, 2, none⟩ (.int .i64 (hu : Int))).setCell ⟨w.heap.size, 3, none⟩ (.int .i64 (tu : Int))).setCell ⟨w.heap.size, 4, none⟩ (.int .i64 (cr : Int))).setCell ⟨w.heap.size, 5, none⟩ (.bool dn))) := by
    have h1 : BlockIs _ _ _ #[.int .i64 (M.length : Int), .int .i64 0, .int .i64 0, .int .i64 0, .int .i64 0, .bool false] := HS.out.set1 0 (.int .i64 (M.length : Int))
    have h2 : BlockIs _ _ _ #[.int .i64 (M.length : Int), .int .i64 (ws.length : Int), .int .i64 0, .int .i64 0, .int .i64 0, .bool false] := h1.set1 1 (.int .i64 (ws.length : Int))
    have h3 : BlockIs _ _ _ #[.int .i64 (M.length : Int), .int .i64 (ws.length : Int), .int .i64 (hu : Int), .int .i64 0, .int .i64 0, .bool false] := h2.set1 2 (.int .i64 (hu : Int))
    have h4 : BlockIs _ _ _ #[.int .i64 (M.length : Int), .int .i64 (ws.length : Int), .int .i64 (hu : Int), .int .i64 (tu : Int), .int .i64 0, .bool false] := h3.set1 3 (.int .i64 (tu : Int))
    have h5 : BlockIs _ _ _ #[.int .i64 (M.length : Int), .int .i64 (ws.length : Int), .int .i64 (hu : Int), .int .i64 (tu : Int), .int .i64 (cr : Int), .bool false] := h4.set1 4 (.int .i64 (cr : Int))
    have hc : ∀ (w' : World) (i : Nat) (v : Value), Below w.heap.size w w' → Below w.heap.size w (w'.setCell ⟨w.heap.size, i, none⟩ v) := fun w' i v h => h.setCell (Nat.le_refl _) _
    exact Lib.hid ⟨h5.set1 5 (.bool dn), hc _ _ _ (hc _ _ _ (hc _ _ _ (hc _ _ _ (hc _ _ _ (hc _ _ _ Hb.out)))))⟩
  clear c3 hwv hc1 hc2
  go_wp2_with fail
  go_region
  clear c0 c1 c2 c4 c5 c7 s0 s1 s2 s3 s4 s5 f0 f1 f2 f3 f4 f5
  generalize ((((((w1.setCell ⟨w.heap.size, 0, none⟩ (.int .i64 (M.length : Int))).setCell ⟨w.heap.size, 1, none⟩ (.int .i64 (ws.length : Int))).setCell ⟨w.heap.size, 2, none⟩ (.int .i64 (hu : Int))).setCell ⟨w.heap.size, 3, none⟩ (.int .i64 (tu : Int))).setCell ⟨w.heap.size, 4, none⟩ (.int .i64 (cr : Int))).setCell ⟨w.heap.size, 5, none⟩ (.bool dn)) = w7 at *
  go_wp2_with fail
  have sizeStat : (Tryd.prog.info? 44).map (·.size) = some 6 := by kernel_rfl
  refine bodyPost_ret (v := Go.Proofs.YtgjdoiblgbdebaaDoor.statV M.length ws.length hu tu cr dn) (results_cell_row rfl _ _ w.heap.size 44 #[.int .i64 (M.length : Int), .int .i64 (ws.length : Int), .int .i64 (hu : Int), .int .i64 (tu : Int), .int .i64 (cr : Int), .bool dn] (0, 0) _ rfl H6.out.1 Tryd.underlying44 rfl (by rw [sizeStat]; rfl)) rfl ⟨by rw [HV.out], H6.out.2.drew⟩
end
end Go.Proofs.YtgjdoiblgbdebaaDoor
