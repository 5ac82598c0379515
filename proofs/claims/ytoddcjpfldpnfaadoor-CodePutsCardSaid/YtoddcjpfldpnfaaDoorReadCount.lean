/- How many parts a reader's text or row has. -/
import Derived.Test.YtoddcjpfldpnfaaDoorReadField
namespace Go.Proofs.YtoddcjpfldpnfaaDoor
open Go.RowKit
theorem fieldR_bd (bs : List Int) (hb : ∀ z ∈ bs, 0 ≤ z ∧ z < 256) (wd : Int) (s : RSt) : 0 ≤ (fieldR bs wd s).1 ∧ ((fieldR bs wd s).1 = 0 ∨ (fieldR bs wd s).1 ≤ top wd) := by
  cases s with
  | bad p l => exact ⟨Int.le_refl _, .inl rfl⟩
  | ok k =>
    unfold fieldR
    simp only
    split
    · exact ⟨Int.le_refl _, .inl rfl⟩
    · split
      · exact ⟨Int.le_refl _, .inl rfl⟩
      · have h1 := unle_bd ((bs.drop k).take wd.toNat) (fun z hz => hb z (List.mem_of_mem_drop (List.mem_of_mem_take hz)))
        exact ⟨h1.1, .inr (by show unle _ ≤ _; omega)⟩
theorem RdAt.bytes {σ : Sen} {w : World} {g : Nat} {bs : List Int} {s : RSt} (h : RdAt σ w g bs s) : ∀ z ∈ bs, 0 ≤ z ∧ z < 256 := by
  obtain ⟨x, cap, k, ev, h⟩ := h
  exact h.rd.1
theorem RdAt.qu {σ : Sen} {w w1 : World} {g : Nat} {bs : List Int} {s : RSt} (h : RdAt σ w g bs s) (hq : Qu w w1) : RdAt σ w1 g bs s := by
  obtain ⟨n, rfl⟩ := hq; exact h.drewN n
theorem RdAt.place {σ : Sen} {w : World} {g : Nat} {bs : List Int} {j : Nat} (h : RdAt σ w g bs (.ok j)) : w.cell? ⟨g, 1, none⟩ = some (.int .i64 (j : Int)) ∧ j ≤ bs.length := by
  obtain ⟨x, cap, k, ev, h⟩ := h
  obtain ⟨rfl, _⟩ := h.err
  exact ⟨h.blk.cell 1, h.len.2.2⟩
theorem countR_bad (bs : List Int) (wd most each : Int) (s : RSt) (p : Nat) (l : Bool) (h : (fieldR bs wd s).2 = .bad p l) : countR bs wd most each s = (0, .bad p l) := by
  cases s with
  | bad p' l' =>
    simp [fieldR] at h
    simp [countR, h]
  | ok k =>
    unfold countR
    simp only
    generalize fieldR bs wd (.ok k) = r at *
    obtain ⟨n, t⟩ := r
    simp only at h
    subst h; rfl
theorem countR_ok (bs : List Int) (wd most each : Int) (k j : Nat) (h : (fieldR bs wd (.ok k)).2 = .ok j) :
    countR bs wd most each (.ok k) = if (fieldR bs wd (.ok k)).1 > most then (0, .bad k true) else if (fieldR bs wd (.ok k)).1 * each > (bs.length : Int) - j then (0, .bad k false) else ((fieldR bs wd (.ok k)).1, .ok j) := by
  unfold countR
  simp only
  generalize fieldR bs wd (.ok k) = r at *
  obtain ⟨n, t⟩ := r
  simp only at h
  subst h; rfl
set_option maxRecDepth 100000 in
set_option maxHeartbeats 1000000 in
theorem rcount_any (σ : Sen) (w0 w : World) (g : Nat) (bs : List Int) (s : RSt) (wd most each : Int) (h : RdAt σ w g bs s) (hE : Env σ w0 g w) (hl : bs.length ≤ 140737488351232) (ht : 0 ≤ top wd ∧ top wd ≤ 65535) (he : each = 1 ∨ each = 6) :
    Calls Tryd.prog 52 #[.pointer (some ⟨g, 0, none⟩), .int .i64 wd, .int .i64 most, .int .i64 each] w fun e w' => e = .returned (.int .i64 (countR bs wd most each s).1) ∧ Got σ w g bs (countR bs wd most each s).2 w' := by
  have hbd := h.bytes
  cases s with
  | bad p l =>
    go_enter Tryd.func52, Tryd.ntmps52
    go_wp2_with fail
    refine (going_is σ w g bs _ h).mono ?_
    rintro e w' ⟨rfl, rfl⟩
    unfold isOk
    go_wp2_with fail
    go_ret
    exact ⟨rfl, Got.same h⟩
  | ok k =>
    have HE := Lib.hid hE
    have hne := hE.gl.ne
    obtain ⟨c1, hk⟩ := h.place
    clear hE
    go_enter Tryd.func52, Tryd.ntmps52
    go_wp2_with fail
    refine (going_is σ w g bs _ h).mono ?_
    rintro e w' ⟨rfl, rfl⟩
    unfold isOk
    go_wp2_with fail
    clear c1
    refine (rfield_any σ w0 w g bs (.ok k) wd h HE.out.f hl).mono ?_
    rintro e w1 ⟨rfl, hG⟩
    have hE1 := HE.out.grown hG.fr
    have hvb := fieldR_bd bs hbd wd (.ok k)
    cases hs : (fieldR bs wd (.ok k)).2 with
    | bad p l =>
      rw [hs] at hG
      have e1 := countR_bad bs wd most each _ p l hs
      have He := Lib.hid e1
      clear e1 hs
      generalize (fieldR bs wd (.ok k)).1 = v at *
      go_wp2_with fail
      refine (going_is σ w1 g bs _ hG.rd).mono ?_
      rintro e w' ⟨rfl, rfl⟩
      unfold isOk
      go_wp2_with fail
      go_ret
      exact ⟨by rw [He.out]; rfl, by rw [He.out]; exact hG⟩
    | ok j =>
      rw [hs] at hG
      have e1 := countR_ok bs wd most each k j hs
      have He := Lib.hid e1
      clear e1 hs
      generalize (fieldR bs wd (.ok k)).1 = v at *
      have cm := hE1.at_.mu
      have cf := hE1.at_.few
      go_wp2_with fail
      refine (going_is σ w1 g bs _ hG.rd).mono ?_
      rintro e w' ⟨rfl, rfl⟩
      unfold isOk
      have hv2 : v ≤ 65535 := by omega
      by_cases hgt : most < v
      · go_wp2_with fail
        refine (fail_is σ _ g bs j k σ.mu hG.rd (.inr (.inr (.inr (.inl rfl)))) true (by simp)).mono ?_
        rintro e w4 ⟨rfl, hR4, hg4⟩
        go_wp2_with fail
        go_ret
        exact ⟨by rw [He.out, if_pos hgt]; rfl, by rw [He.out, if_pos hgt]; exact ⟨hR4, hG.fr.trans hg4⟩⟩
      · rcases he with rfl | rfl
        all_goals
          go_wp2_with fail
          refine (left_is σ w1 g bs j hG.rd).mono ?_
          rintro e w2 ⟨rfl, hq⟩
          have hq : Qu w1 w2 := hq
          have hG2 : Got σ w g bs (.ok j) w2 := hG.trans ⟨hG.rd.qu hq, hq.grown _⟩
          have cf2 := (hq.cell _).trans cf
          clear cf cm
          first
          | (by_cases hfew : (bs.length : Int) - (j : Int) < v
             · go_wp2_with fail
               refine (fail_is σ _ g bs j k σ.few hG2.rd (.inr (.inl rfl)) false (by simp [hne.2.1])).mono ?_
               rintro e w4 ⟨rfl, hR4, hg4⟩
               go_wp2_with fail
               go_ret
               exact ⟨by rw [He.out, if_neg (by omega), if_pos (by omega)]; rfl, by rw [He.out, if_neg (by omega), if_pos (by omega)]; exact ⟨hR4, hG2.fr.trans hg4⟩⟩
             · go_wp2_with fail
               go_ret
               exact ⟨by rw [He.out, if_neg (by omega), if_neg (by omega)]; rfl, by rw [He.out, if_neg (by omega), if_neg (by omega)]; exact hG2⟩)
          | (by_cases hfew : (bs.length : Int) - (j : Int) < v * 6
             · go_wp2_with fail
               refine (fail_is σ _ g bs j k σ.few hG2.rd (.inr (.inl rfl)) false (by simp [hne.2.1])).mono ?_
               rintro e w4 ⟨rfl, hR4, hg4⟩
               go_wp2_with fail
               go_ret
               exact ⟨by rw [He.out, if_neg (by omega), if_pos (by omega)]; rfl, by rw [He.out, if_neg (by omega), if_pos (by omega)]; exact ⟨hR4, hG2.fr.trans hg4⟩⟩
             · go_wp2_with fail
               go_ret
               exact ⟨by rw [He.out, if_neg (by omega), if_neg (by omega)]; rfl, by rw [He.out, if_neg (by omega), if_neg (by omega)]; exact hG2⟩)
end Go.Proofs.YtoddcjpfldpnfaaDoor
