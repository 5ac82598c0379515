/- A reader's texts; what is left. -/
import Derived.Test.YtoddcjpfldpnfaaDoorReadCount
namespace Go.Proofs.YtoddcjpfldpnfaaDoor
open Go.RowKit
theorem countR_le (bs : List Int) (hb : ∀ z ∈ bs, 0 ≤ z ∧ z < 256) (wd most each : Int) (s : RSt) (j : Nat) (h : (countR bs wd most each s).2 = .ok j) :
    0 ≤ (countR bs wd most each s).1 ∧ (countR bs wd most each s).1 * each ≤ (bs.length : Int) - j ∧ (countR bs wd most each s).1 ≤ most := by
  cases s with
  | bad p l => simp [countR] at h
  | ok k =>
    cases hs : (fieldR bs wd (.ok k)).2 with
    | bad p l => rw [countR_bad bs wd most each _ p l hs] at h; cases h
    | ok i =>
      have h0 := (fieldR_bd bs hb wd (.ok k)).1
      rw [countR_ok bs wd most each k i hs] at h ⊢
      split at h
      · cases h
      · split at h
        · cases h
        · rename_i h1 h2
          rw [if_neg h1, if_neg h2]
          simp only [RSt.ok.injEq] at h
          subst h
          exact ⟨h0, by simp only; omega, by simp only; omega⟩
theorem countR_zero (bs : List Int) (wd most each : Int) (s : RSt) (p : Nat) (l : Bool) (h : (countR bs wd most each s).2 = .bad p l) : (countR bs wd most each s).1 = 0 := by
  cases s with
  | bad p l => rfl
  | ok k =>
    cases hs : (fieldR bs wd (.ok k)).2 with
    | bad p l => rw [countR_bad bs wd most each _ p l hs]
    | ok i =>
      rw [countR_ok bs wd most each k i hs] at h ⊢
      split
      · rfl
      · split
        · rfl
        · rename_i h1 h2
          rw [if_neg h1, if_neg h2] at h
          cases h
theorem textR_of (bs : List Int) (most : Int) (s : RSt) : textR bs most s = match (countR bs 2 most 1 s).2 with
    | .bad p l => ([], .bad p l)
    | .ok j => ((bs.drop j).take (countR bs 2 most 1 s).1.toNat, .ok (j + (countR bs 2 most 1 s).1.toNat)) := by
  unfold textR
  generalize countR bs 2 most 1 s = r
  obtain ⟨n, t⟩ := r
  cases t <;> rfl
set_option maxRecDepth 100000 in
set_option maxHeartbeats 1000000 in
theorem rtext_any (σ : Sen) (w0 w : World) (g : Nat) (bs : List Int) (s : RSt) (most : Int) (h : RdAt σ w g bs s) (hE : Env σ w0 g w) (hl : bs.length ≤ 140737488351232) :
    Calls Tryd.prog 17 #[.pointer (some ⟨g, 0, none⟩), .int .i64 most] w fun e w' => ∃ v, e = .returned v ∧ w'.ownsRow w.heap.size 5 1 v (textR bs most s).1.length (u8s (textR bs most s).1) ∧ Got σ w g bs (textR bs most s).2 w' := by
  have hbd := h.bytes
  have hgl : g < w.heap.size := by obtain ⟨x, cap, k, ev, h⟩ := h; exact h.blk.lt
  go_enter Tryd.func17, Tryd.ntmps17
  go_wp2_with fail
  refine (rcount_any σ w0 w g bs s 2 most 1 h hE hl (by decide) (.inl rfl)).mono ?_
  rintro e w1 ⟨rfl, hG⟩
  cases hs : (countR bs 2 most 1 s).2 with
  | bad p l =>
    rw [hs] at hG
    have hz := countR_zero bs 2 most 1 s p l hs
    rw [hz]
    have He := Lib.hid (show textR bs most s = ([], .bad p l) by rw [textR_of, hs])
    clear hs hz
    go_wp2_with fail
    go_ret
    rw [He.out]
    exact ⟨_, rfl, World.ownsRow_nil _ _ _ _, hG⟩
  | ok j =>
    rw [hs] at hG
    have hle := countR_le bs hbd 2 most 1 s j hs
    obtain ⟨n, hn⟩ := Int.eq_ofNat_of_zero_le hle.1
    have He := Lib.hid (show textR bs most s = ((bs.drop j).take n, .ok (j + n)) by rw [textR_of, hs, hn]; rfl)
    rw [hn] at hle ⊢
    clear hn hs
    by_cases hz : n = 0
    · subst hz
      go_wp2_with fail
      go_ret
      rw [He.out]
      exact ⟨_, rfl, World.ownsRow_nil _ _ _ _, hG⟩
    · obtain ⟨x, cap, k, ev, hI⟩ := hG.rd
      obtain ⟨rfl, rfl⟩ := hI.err
      have hjn : j + n ≤ bs.length := by have := hI.len.2.2; omega
      have hlen := here_len bs j n hjn
      have hz0 : ((n : Int) == 0) = false := by simp; omega
      go_wp2_with fail
      refine (next_is σ w1 g bs j n x cap hI hjn).mono ?_
      rintro e w2 ⟨rfl, hq⟩
      have hq : Qu w1 w2 := hq
      have hI2 := hI.kept (hq.grown none) (by simp) (fun _ _ => by simp)
      have hb2 := here_bytes hI2 n
      have hR2 : RdAt σ w2 g bs (.ok j) := ⟨x, cap, j, _, hI2⟩
      have HC := Lib.hid (clone_any w2 ((bs.drop j).take n) (cutAt x cap j) (cap - j) hb2 (by omega) (fun e => by
        obtain ⟨b, o, e'⟩ := hb2.some_ (by intro e2; rw [e2] at hlen; simp at hlen; omega)
        rw [e] at e'; cases e'))
      rw [hlen] at HC
      have Hlen := Lib.hid hlen
      have hs2 : w1.heap.size ≤ w2.heap.size := (hq.grown none).size
      have hG2 : Got σ w g bs (.ok j) w2 := hG.trans ⟨hR2, hq.grown _⟩
      clear hI hI2 hb2 hlen hR2
      go_wp2_with fail
      refine HC.out.mono ?_
      rintro e w3 ⟨v, rfl, hown, hb3⟩
      have hR3 := hG2.rd.below hb3
      have Hown := Lib.hid hown
      have hgs := hG2.fr.size
      clear hown
      go_wp2_with fail
      refine (pass_is σ w3 g bs j n hR3 hjn).mono ?_
      rintro e w4 ⟨rfl, hR4, hg4⟩
      have hown4 := Hown.out.kept hg4 (.inr (by
        intro e
        have := Hown.out.lt g e
        omega))
      go_wp2_with fail
      go_ret
      rw [He.out]
      exact ⟨v, rfl, own_mono (own_same hown4 Hlen.out.symm rfl) hgs, hR4, (hG2.fr.trans (grown_below hb3 _)).trans hg4⟩
theorem rleft_any (σ : Sen) (w : World) (g : Nat) (bs : List Int) (s : RSt) (h : RdAt σ w g bs s) :
    Calls Tryd.prog 14 #[.pointer (some ⟨g, 0, none⟩)] w fun e w' => e = .returned (.int .i64 (leftR bs s)) ∧ ∃ n, w' = w.drewN n := by
  cases s with
  | bad p l =>
    go_enter Tryd.func14, Tryd.ntmps14
    go_wp2_with fail
    refine (going_is σ w g bs _ h).mono ?_
    rintro e w' ⟨rfl, rfl⟩
    unfold isOk
    go_wp2_with fail
    go_ret
    exact ⟨rfl, 0, rfl⟩
  | ok j =>
    go_enter Tryd.func14, Tryd.ntmps14
    go_wp2_with fail
    refine (going_is σ w g bs _ h).mono ?_
    rintro e w' ⟨rfl, rfl⟩
    unfold isOk
    go_wp2_with fail
    refine (left_is σ w g bs j h).mono ?_
    rintro e w2 ⟨rfl, n, rfl⟩
    go_wp2_with fail
    go_ret
    exact ⟨rfl, n, rfl⟩
theorem rleft_nil (w : World) :
    Calls Tryd.prog 14 #[.pointer none] w fun e w' => e = .returned (.int .i64 0) ∧ w = w' := by
  go_enter Tryd.func14, Tryd.ntmps14
  go_wp2_with fail
  refine (going_nil w).mono ?_
  rintro e w' ⟨rfl, rfl⟩
  go_wp2_with fail
  go_ret
  exact ⟨rfl, rfl⟩
end Go.Proofs.YtoddcjpfldpnfaaDoor
