/- Read, Stored, Stat of a disk: just what the page tells. -/
import Derived.Test.YtgjdoiblgbdebaaDoorDevSeen
import Derived.BigRegion
namespace Go.Proofs.YtgjdoiblgbdebaaDoor
open Go.RowKit
/-- These bytes were handed out: as a slice of a block of their own. -/
def OutAt (w : World) (base : Nat) (v : Value) (bs : List Int) : Prop :=
  (v = .slice none 0 0 ∧ bs = []) ∨ ∃ g t, v = .slice (some ⟨g, 0, none⟩) bs.length bs.length ∧ base ≤ g ∧ BlockIs w g t (u8s bs).toArray ∧ ∀ z ∈ bs, 0 ≤ z ∧ z < 256
theorem OutAt.bytes {w : World} {base : Nat} {v : Value} {bs : List Int} (h : OutAt w base v bs) : ∃ A, v = .slice A bs.length bs.length ∧ BytesAt w A bs ∧ ∀ a, A = some a → base ≤ a.block ∧ a.block < w.heap.size := by
  rcases h with ⟨rfl, rfl⟩ | ⟨g, t, rfl, hg, hb, hz⟩
  · exact ⟨none, rfl, BytesAt.nil _ _, fun a e => by cases e⟩
  · refine ⟨some ⟨g, 0, none⟩, rfl, bytesAt_cells hz (fun i hi => ?_), fun a e => by cases e; exact ⟨hg, hb.lt⟩⟩
    rw [Nat.zero_add, hb.cell, List.getElem?_toArray]
    unfold u8s
    rw [List.getElem?_map, List.getD_eq_getElem?_getD, List.getElem?_eq_getElem hi]; rfl
section
variable {w : World} {T : Nat → Prop} {dk : Nat} {D : DM} (σ : SenD)
theorem seenM_eq {hu tu cr : Nat} {M : List MCell} {ws : List (Nat × List Int)} {left : Int} {dn : Bool} (L : DevL D hu tu cr M ws left dn) {n : Nat} (hn : n < M.length) : seenM M ws n = D.seen n ∧ (M.getD n default).last ≤ ws.length := by
  obtain ⟨h1, h2⟩ := L.mm n _ (List.getElem?_eq_getElem hn)
  unfold seenM
  rw [getD_at hn, D.seen_last n, h2, L.ws]
  refine ⟨?_, lastOf_le _ _⟩
  unfold DM.stored
  rw [List.getD_eq_getElem?_getD, List.getD_eq_getElem?_getD, h1]; rfl
/-- What Read tells. -/
def DM.read (D : DM) (n : Int) : List Int × Int := if D.down then ([], 11) else if D.has n then (D.seen n.toNat, 0) else ([], 2)
theorem reachE_eq {hu tu cr : Nat} {M : List MCell} {ws : List (Nat × List Int)} {left : Int} {dn : Bool} (L : DevL D hu tu cr M ws left dn) (n : Int) : reachE dn M n = if D.down then .dn else if D.has n then .ok else .bk := by
  unfold reachE
  rw [L.hasB, L.dn]
  by_cases h : D.has n <;> simp [h]
set_option maxRecDepth 100000 in
set_option maxHeartbeats 1000000 in
theorem read_any (k : DevAt w T dk D) (hG : GlD σ w) (n : Int) :
    Calls Tryd.prog 23 #[.pointer (some ⟨dk, 0, none⟩), .int .i64 n] w fun e w' => ∃ v, e = .returned (.tuple #[v, .int .i64 (D.read n).2]) ∧ OutAt w' w.heap.size v (D.read n).1 ∧ Below w.heap.size w w' := by
  have HO := Lib.hid k.ok
  obtain ⟨C, wv, hu, tu, cr, M, ws, left, dn, R, L⟩ := k
  have HT := Lib.hid (reaches_any σ hG R n)
  rw [reachE_eq L] at HT
  have HE := Lib.hid (fun x hx => errno_any σ w hG x hx)
  have HR := Lib.hid R
  have HL := Lib.hid L
  clear R L hG
  cases hd : D.down with
  | true =>
    have Hw : Hid (D.read n = ([], 11)) := Lib.hid (by unfold DM.read; rw [if_pos hd])
    have HE := Lib.hid (HE.out .dn (by intro e; cases e))
    rw [if_pos hd] at HT
    clear hd
    unfold DErr.val errK at *
    go_enter Tryd.func23, Tryd.ntmps23
    go_wp2_with fail
    refine HT.out.mono ?_
    rintro e w' ⟨rfl, rfl⟩
    go_wp2_with fail
    refine HE.out.mono ?_
    rintro e w4 ⟨rfl, hb4⟩
    have HB4 := Lib.hid hb4
    clear hb4
    go_wp2_with fail
    go_ret2
    rw [Hw.out]
    exact ⟨_, rfl, .inl ⟨rfl, rfl⟩, HB4.out⟩
  | false =>
    by_cases hn : D.has n
    · have Hw : Hid (D.read n = (D.seen n.toNat, 0)) := Lib.hid (by unfold DM.read; rw [if_neg (by rw [hd]; decide), if_pos hn])
      rw [if_neg (by rw [hd]; decide), if_pos hn] at HT
      unfold DM.has at hn
      obtain ⟨m, rfl⟩ := Int.eq_ofNat_of_zero_le hn.1
      have hm : m < M.length := by have := HL.out.len; omega
      have hs := seenM_eq HL.out hm
      have HS := Lib.hid (seen_any HR.out m hm hs.2)
      rw [hs.1] at HS
      have HB := Lib.hid (HO.out.seen (n := m) (by omega))
      rw [Int.toNat_natCast] at Hw
      have hz := zeroBlock
      have hlen : (u8s (D.seen m)).length = 256 := by rw [u8s_len, HB.out.1]
      have hst := fun w' => store_block1 w' HB.out
      clear hd hn hs
      unfold DErr.val at HT
      go_enter Tryd.func23, Tryd.ntmps23
      go_wp2_with fail
      refine HT.out.mono ?_
      rintro e w' ⟨rfl, rfl⟩
      go_wp2_with fail
      refine HS.out.mono ?_
      rintro e w4 ⟨rfl, hb4⟩
      have HB4 := Lib.hid hb4
      clear hb4
      go_wp2_with fail
      go_ret2
      rw [Hw.out]
      have hsz := HB4.out.size
      refine ⟨_, rfl, .inr ⟨w4.heap.size, 84, ?_, hsz, BlockIs.made w4 _ _, HB.out.2⟩, HB4.out.trans ((below_new w4 _).mono hsz)⟩
      rw [HB.out.1]; rfl
    · have Hw : Hid (D.read n = ([], 2)) := Lib.hid (by unfold DM.read; rw [if_neg (by rw [hd]; decide), if_neg hn])
      have HE := Lib.hid (HE.out .bk (by intro e; cases e))
      rw [if_neg (by rw [hd]; decide), if_neg hn] at HT
      clear hd
      unfold DErr.val errK at *
      go_enter Tryd.func23, Tryd.ntmps23
      go_wp2_with fail
      refine HT.out.mono ?_
      rintro e w' ⟨rfl, rfl⟩
      go_wp2_with fail
      refine HE.out.mono ?_
      rintro e w4 ⟨rfl, hb4⟩
      have HB4 := Lib.hid hb4
      clear hb4
      go_wp2_with fail
      go_ret2
      rw [Hw.out]
      exact ⟨_, rfl, .inl ⟨rfl, rfl⟩, HB4.out⟩
end
end Go.Proofs.YtgjdoiblgbdebaaDoor
