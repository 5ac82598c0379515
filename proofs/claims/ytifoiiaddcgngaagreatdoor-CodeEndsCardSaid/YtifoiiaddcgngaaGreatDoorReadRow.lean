/- A reader's rows. -/
import Derived.Test.YtifoiiaddcgngaaGreatDoorReadText
namespace Go.Proofs.YtifoiiaddcgngaaGreatDoor
open Go.RowKit
/-- Block g is just these numbers. -/
def IntsIs (w : World) (g : Nat) (xs : List Int) : Prop := BlockIs w g 3 (i64s xs).toArray
theorem i64s_set (zs : List Int) (q : Nat) (z : Int) : (i64s zs).set q (.int .i64 z) = i64s (zs.set q z) := by unfold i64s; rw [List.map_set]
theorem IntsIs.set1 {w : World} {g : Nat} {xs : List Int} (h : IntsIs w g xs) (i : Nat) (z : Int) : IntsIs (w.setCell ⟨g, i, none⟩ (.int .i64 z)) g (xs.set i z) := by
  have := BlockIs.set1 h i (.int .i64 z)
  unfold IntsIs
  rw [← i64s_set, ← List.setIfInBounds_toArray]
  exact this
theorem IntsIs.cell {w : World} {g : Nat} {xs : List Int} (h : IntsIs w g xs) (i : Nat) (z : Int) (hi : xs[i]? = some z) : w.cell? ⟨g, i, none⟩ = some (.int .i64 z) := by
  rw [BlockIs.cell h i, List.getElem?_toArray]; unfold i64s; rw [List.getElem?_map, hi]; rfl
theorem intsIs_full {w : World} {B g n : Nat} {xs : List Int} (h : w.ownsRow B 3 1 (.slice (some ⟨g, 0, none⟩) n n) n (i64s xs)) : IntsIs w g xs := by
  rcases h.2 with ⟨h', _⟩ | ⟨g', cap, cur, hv, _, hg, _, _, hs, ht⟩
  · cases h'
  · obtain ⟨rfl, rfl⟩ : g = g' ∧ n = cap := by simpa using hv
    have e : cur = (i64s xs).toArray := by
      rw [← ht, Nat.mul_one]
      apply Array.ext'
      rw [List.take_of_length_le (by rw [Array.length_toList]; omega)]
    rw [e] at hg
    exact hg
theorem own_of_ints {w : World} {B g n : Nat} {xs : List Int} (h : IntsIs w g xs) (hn : xs.length = n) (hB : B ≤ g) (hm : n ≤ maxLen) : w.ownsRow B 3 1 (.slice (some ⟨g, 0, none⟩) n n) n (i64s xs) :=
  ⟨by rw [i64s_len]; omega, .inr ⟨g, n, _, rfl, hB, h, Nat.le_refl _, hm, by simp [i64s_len]; omega, by simp [← hn, i64s, List.take_of_length_le]⟩⟩
theorem izeros_made (n : Nat) : (madeCells (#[.int .i64 0] : Array Value) n).toList = i64s (List.replicate n 0) := by
  unfold madeCells i64s
  rw [List.map_replicate, Array.toList_map]
  apply List.ext_getElem (by simp)
  intro i h1 h2
  simp [Nat.mod_one]
/-- Bytes never lie in a block of numbers. -/
theorem BytesAt.farI {w w' : World} {g : Nat} {ys : List Int} {A : Option Addr} {zs : List Int} (hz : BytesAt w A zs) (hb : IntsIs w g ys) (hg : w.grownBy w' (some g)) : BytesAt w' A zs :=
  ⟨hz.1, fun hne => by
    obtain ⟨x, off, e, hc⟩ := hz.2 hne
    have hxg : x ≠ g := by
      rintro rfl
      have h1 := hc 0 (List.length_pos_iff.2 hne)
      rw [BlockIs.cell hb, List.getElem?_toArray] at h1
      unfold i64s at h1
      rw [List.getElem?_map] at h1
      cases h2 : ys[off + 0]? with
      | none => rw [h2] at h1; cases h1
      | some y => rw [h2] at h1; simp at h1
    exact ⟨x, off, e, fun i hi => hg.cell (hc i hi) (by simpa using hxg)⟩⟩
theorem RdAt.farI {σ : Sen} {w w' : World} {g gi : Nat} {bs ys : List Int} {s : RSt} (h : RdAt σ w g bs s) (hb : IntsIs w gi ys) (hne : gi ≠ g) (hg : w.grownBy w' (some gi)) : RdAt σ w' g bs s := by
  obtain ⟨x, cap, k, ev, h⟩ := h
  exact ⟨x, cap, k, ev, h.blk.kept hg (by simpa using fun e => hne e.symm), h.rd.farI hb hg, h.off, h.len, h.err⟩
theorem runR_len (bs : List Int) (k : Nat) (s : RSt) : (runR bs k s).1.length = k := by
  induction k with
  | zero => rfl
  | succ k ih => simp [runR, ih]
theorem rowR_of (bs : List Int) (most : Int) (s : RSt) : rowR bs most s = match (countR bs 1 most 6 s).2 with
    | .bad p l => ([], .bad p l)
    | .ok j => match (runR bs (countR bs 1 most 6 s).1.toNat (.ok j)).2 with
      | .bad p l => ([], .bad p l)
      | .ok i => ((runR bs (countR bs 1 most 6 s).1.toNat (.ok j)).1, .ok i) := by
  unfold rowR
  generalize countR bs 1 most 6 s = r
  obtain ⟨n, t⟩ := r
  cases t with
  | bad p l => rfl
  | ok j =>
    simp only
    generalize runR bs n.toNat (.ok j) = q
    obtain ⟨xs, u⟩ := q
    cases u <;> rfl
set_option maxRecDepth 100000 in
set_option maxHeartbeats 2000000 in
theorem rrow_any (σ : Sen) (w0 w : World) (g : Nat) (bs : List Int) (s : RSt) (most : Int) (h : RdAt σ w g bs s) (hE : Env σ w0 g w) (hl : bs.length ≤ 140737488351232) :
    Calls Tryz.prog 36 #[.pointer (some ⟨g, 0, none⟩), .int .i64 most] w fun e w' => ∃ v, e = .returned v ∧ w'.ownsRow w.heap.size 3 1 v (rowR bs most s).1.length (i64s (rowR bs most s).1) ∧ Got σ w g bs (rowR bs most s).2 w' := by
  obtain ⟨i0, hi, hz0, hz1, hz2⟩ := info_parts infoInt
  have hbd := h.bytes
  have hgl : g < w.heap.size := by obtain ⟨x, cap, k, ev, h⟩ := h; exact h.blk.lt
  go_enter Tryz.func36, Tryz.ntmps36
  go_wp2_with fail
  refine (rcount_any σ w0 w g bs s 1 most 6 h hE hl (by decide) (.inr rfl)).mono ?_
  rintro e w1 ⟨rfl, hG⟩
  have hE1 := hE.grown hG.fr
  have hw1 := hG.fr.size
  cases hs : (countR bs 1 most 6 s).2 with
  | bad p l =>
    rw [hs] at hG
    have hz := countR_zero bs 1 most 6 s p l hs
    rw [hz]
    have He := Lib.hid (show rowR bs most s = ([], .bad p l) by rw [rowR_of, hs])
    clear hs hz
    go_wp2_with fail
    go_ret
    rw [He.out]
    exact ⟨_, rfl, World.ownsRow_nil _ _ _ _, hG⟩
  | ok j =>
    rw [hs] at hG
    have hle := countR_le bs hbd 1 most 6 s j hs
    obtain ⟨n, hn⟩ := Int.eq_ofNat_of_zero_le hle.1
    have He := Lib.hid (show rowR bs most s = match (runR bs n (.ok j)).2 with
      | .bad p l => ([], .bad p l)
      | .ok i => ((runR bs n (.ok j)).1, .ok i) by rw [rowR_of, hs, hn]; rfl)
    rw [hn] at hle ⊢
    clear hn hs
    by_cases hz : n = 0
    · subst hz
      go_wp2_with fail
      go_ret
      rw [He.out]
      exact ⟨_, rfl, World.ownsRow_nil _ _ _ _, hG⟩
    · have hz0' : ((n : Int) == 0) = false := by simp; omega
      go_wp2_with (refine wpList_make_full _ rfl _ _ _ rfl w1.heap.size 3 i0 (.int .i64 0) 1 Tryz.underlying22 hi hz0 hz1 .i64 .i64 _ _ n rfl rfl rfl rfl (by rw [hz2]; omega) (by unfold maxLen; omega) (Nat.le_refl _) ?_; intro w2 hown2 hgrow2)
      have hfull : IntsIs w2 w1.heap.size (List.replicate n 0) := intsIs_full (n := n) (by have h := hown2; rw [Nat.mul_one] at h; rw [← izeros_made]; exact h)
      have hR2 : RdAt σ w2 g bs (.ok j) := by
        obtain ⟨x, cap, k, ev, h⟩ := hG.rd
        exact ⟨x, cap, k, ev, h.kept hgrow2 (by simp) (fun _ _ => by simp)⟩
      have hfr2 : w.grownBy w2 (some g) := hG.fr.trans (hgrow2.but _)
      have hE2 := hE.grown hfr2
      clear hown2 hE1
      have HE2 := Lib.hid hE2
      have hgi : g < w1.heap.size := by omega
      clear hE2 hgrow2
      go_loopg [17] n (fun gg i wx => ∃ k : Nat, gg = n - k ∧ k ≤ n ∧ i = .int .i64 (k : Int) ∧ IntsIs wx w1.heap.size ((runR bs k (.ok j)).1 ++ List.replicate (n - k) 0) ∧ RdAt σ wx g bs (runR bs k (.ok j)).2 ∧ w.grownBy wx (some g) ∧ Below w0.heap.size w0 wx)
      case atStart => exact ⟨0, rfl, by omega, rfl, by simpa [runR] using hfull, hR2, hfr2, HE2.out.bl⟩
      case round =>
        obtain ⟨k, hgk, hk, rfl, hI, hR, hfr, hbl⟩ := hrel
        have Hgk := Lib.hid hgk; clear hgk
        by_cases hlt : k < n
        · have HR := Lib.hid hR; clear hR
          go_wp2_with fail
          refine (rfield_any σ w0 wr g bs (runR bs k (.ok j)).2 6 HR.out ⟨hE.gl.f, hbl, hE.lo⟩ hl).mono ?_
          rintro e w3 ⟨rfl, hG3⟩
          have hI3 : IntsIs w3 w1.heap.size ((runR bs k (.ok j)).1 ++ List.replicate (n - k) 0) := BlockIs.kept hI hG3.fr (by simp; omega)
          have c1 := hI3.cell k 0 (by
            rw [List.getElem?_append_right (by rw [runR_len]; exact Nat.le_refl _), runR_len, Nat.sub_self, List.getElem?_replicate]
            rw [if_pos (by omega)])
          have f1 := BlockIs.free hI3 k
          have hset := hI3.set1 k (fieldR bs 6 (runR bs k (.ok j)).2).1
          have hRu : ((runR bs k (.ok j)).1 ++ List.replicate (n - k) 0).set k (fieldR bs 6 (runR bs k (.ok j)).2).1 = (runR bs (k + 1) (.ok j)).1 ++ List.replicate (n - (k + 1)) 0 := by
            obtain ⟨m, hm⟩ : ∃ m, n - k = m + 1 := ⟨n - k - 1, by omega⟩
            rw [List.set_append, if_neg (by rw [runR_len]; omega), runR_len, Nat.sub_self, hm, List.replicate_succ, List.set_cons_zero, show n - (k + 1) = m by omega]
            show _ = ((runR bs k (.ok j)).1 ++ [_]) ++ _
            rw [List.append_assoc]; rfl
          rw [hRu] at hset
          have hgr : w3.grownBy (w3.setCell ⟨w1.heap.size, k, none⟩ (.int .i64 (fieldR bs 6 (runR bs k (.ok j)).2).1)) (some w1.heap.size) := grown_at (World.grownBy.refl _ _) _ _
          have hR4 := hG3.rd.farI hI3 (by omega) hgr
          have hfr4 : w.grownBy (w3.setCell ⟨w1.heap.size, k, none⟩ (.int .i64 (fieldR bs 6 (runR bs k (.ok j)).2).1)) (some g) := grown_set (hfr.trans hG3.fr) (.inr hw1) _
          have hbl4 : Below w0.heap.size w0 (w3.setCell ⟨w1.heap.size, k, none⟩ (.int .i64 (fieldR bs 6 (runR bs k (.ok j)).2).1)) := (below_grown hbl hG3.fr hbl.size hE.lo).setCell (by have := hE.bl.size; show w0.heap.size ≤ w1.heap.size; omega) _
          have HF := Lib.hid (And.intro hset (And.intro (show RdAt σ _ g bs (runR bs (k + 1) (.ok j)).2 from hR4) (And.intro hfr4 hbl4)))
          have q0 : (0 : Int) ≤ (k : Int) := by omega
          have q1 : (k : Int) < (n : Int) := by omega
          clear hset hRu hgr hR4 hfr4 hbl4 hI hI3
          go_wp2_with fail
          go_roundg (n - (k + 1))
          case measure => rw [Hgk.out]; omega
          case rel => exact ⟨k + 1, rfl, by omega, by go_num, HF.out.1, HF.out.2.1, HF.out.2.2.1, HF.out.2.2.2⟩
        · obtain rfl : k = n := by omega
          have hI' : IntsIs wr w1.heap.size (runR bs k (.ok j)).1 := by simpa using hI
          have hln := runR_len bs k (.ok j)
          have HI := Lib.hid hI'
          have Hln := Lib.hid hln
          clear hI hI' hln
          have HR := Lib.hid hR
          go_wp2_with fail
          refine (going_is σ wr g bs _ hR).mono ?_
          rintro e w' ⟨rfl, rfl⟩
          cases hf : (runR bs k (.ok j)).2 with
          | bad p l =>
            rw [hf] at He HR
            unfold isOk
            clear hf hR
            go_wp2_with fail
            go_ret
            rw [He.out]
            exact ⟨_, rfl, World.ownsRow_nil _ _ _ _, HR.out, hfr⟩
          | ok i =>
            rw [hf] at He HR
            unfold isOk
            clear hf hR
            go_wp2_with fail
            go_ret
            rw [He.out]
            exact ⟨_, rfl, by
              have := own_of_ints (B := w.heap.size) HI.out Hln.out hw1 (by unfold maxLen; omega)
              exact own_same this Hln.out.symm rfl, HR.out, hfr⟩
end Go.Proofs.YtifoiiaddcgngaaGreatDoor
