/- What is got is put by just the bytes that were gone through: lists alone. -/
import Derived.Test.YtoddcjpfldpnfaaDoorCodeMath
namespace Go.Proofs.YtoddcjpfldpnfaaDoor
/-- The bytes between two places. -/
def seg (bs : List Int) (j k : Nat) : List Int := (bs.drop j).take (k - j)
theorem seg_same (bs : List Int) (j : Nat) : seg bs j j = [] := by unfold seg; rw [Nat.sub_self]; rfl
theorem seg_app (bs : List Int) (i j k : Nat) (h1 : i ≤ j) (h2 : j ≤ k) : seg bs i j ++ seg bs j k = seg bs i k := by
  unfold seg
  rw [show k - i = (j - i) + (k - j) by omega, List.take_add, List.drop_drop, show i + (j - i) = j by omega]
theorem seg_len (bs : List Int) (j k : Nat) (h1 : j ≤ k) (h2 : k ≤ bs.length) : (seg bs j k).length = k - j := by
  unfold seg; rw [List.length_take, List.length_drop]; omega
theorem seg_mem (bs : List Int) (j k : Nat) (hb : ∀ z ∈ bs, 0 ≤ z ∧ z < 256) : ∀ z ∈ seg bs j k, 0 ≤ z ∧ z < 256 := fun z hz => hb z (List.mem_of_mem_drop (List.mem_of_mem_take hz))
theorem seg_take (bs : List Int) (k : Nat) : seg bs 0 k = bs.take k := by unfold seg; rw [List.drop_zero, Nat.sub_zero]
theorem seg_add (bs : List Int) (j n : Nat) : (bs.drop j).take n = seg bs j (j + n) := by unfold seg; rw [show j + n - j = n by omega]
theorem top_pos (w : Int) (h : 0 ≤ top w) : 1 ≤ w ∧ w ≤ 6 := by
  rcases top_cases w with ⟨e, _⟩ | ⟨e, _⟩ | ⟨e, _⟩ | ⟨e, _⟩ | ⟨_, _, _, _, t⟩ <;> omega
theorem field_back (bs : List Int) (hb : ∀ z ∈ bs, 0 ≤ z ∧ z < 256) (w n : Int) (j k : Nat) (hj : j ≤ bs.length) (h : fieldR bs w (.ok j) = (n, .ok k)) :
    j ≤ k ∧ k ≤ bs.length ∧ fieldsB w [n] = some (seg bs j k) ∧ 0 ≤ n ∧ n ≤ top w ∧ k = j + w.toNat := by
  unfold fieldR at h
  simp only at h
  split at h
  · simp at h
  · split at h
    · simp at h
    · rename_i h1 h2
      simp only [Prod.mk.injEq, RSt.ok.injEq] at h
      obtain ⟨rfl, rfl⟩ := h
      have ht : 0 ≤ top w := by omega
      have hw := top_pos w ht
      have hle : j + w.toNat ≤ bs.length := by omega
      have hl : ((bs.drop j).take w.toNat).length = w.toNat := by rw [List.length_take, List.length_drop]; omega
      have hm : ∀ z ∈ (bs.drop j).take w.toNat, 0 ≤ z ∧ z < 256 := fun z hz => hb z (List.mem_of_mem_drop (List.mem_of_mem_take hz))
      have hu := unle_bd _ hm
      refine ⟨by omega, hle, ?_, hu.1, by omega, rfl⟩
      rw [fieldsB_one w _ ht hu.1 (by omega), ← seg_add]
      have := le_unle _ hm
      rw [hl] at this
      rw [this]
theorem count_back (bs : List Int) (hb : ∀ z ∈ bs, 0 ≤ z ∧ z < 256) (w most each n : Int) (j k : Nat) (hj : j ≤ bs.length) (h : countR bs w most each (.ok j) = (n, .ok k)) :
    j ≤ k ∧ k ≤ bs.length ∧ fieldsB w [n] = some (seg bs j k) ∧ 0 ≤ n ∧ n ≤ top w ∧ n * each ≤ (bs.length : Int) - k ∧ fieldR bs w (.ok j) = (n, .ok k) := by
  unfold countR at h
  simp only at h
  generalize hf : fieldR bs w (.ok j) = r at *
  obtain ⟨m, t⟩ := r
  cases t with
  | bad p l => simp at h
  | ok i =>
    simp only at h
    split at h
    · simp at h
    · split at h
      · simp at h
      · simp only [Prod.mk.injEq, RSt.ok.injEq] at h
        obtain ⟨rfl, rfl⟩ := h
        obtain ⟨h1, h2, h3, h4, h5, _⟩ := field_back bs hb w m j i hj hf
        exact ⟨h1, h2, h3, h4, h5, by omega, rfl⟩
theorem text_back (bs : List Int) (hb : ∀ z ∈ bs, 0 ≤ z ∧ z < 256) (most : Int) (zs : List Int) (j k : Nat) (hj : j ≤ bs.length) (h : textR bs most (.ok j) = (zs, .ok k)) :
    j ≤ k ∧ k ≤ bs.length ∧ textB zs = some (seg bs j k) := by
  unfold textR at h
  generalize hc : countR bs 2 most 1 (.ok j) = r at *
  obtain ⟨n, t⟩ := r
  cases t with
  | bad p l => simp at h
  | ok i =>
    simp only [Prod.mk.injEq, RSt.ok.injEq] at h
    obtain ⟨rfl, rfl⟩ := h
    obtain ⟨h1, h2, h3, h4, h5, h6, _⟩ := count_back bs hb 2 most 1 n j i hj hc
    have ht : top 2 = 65535 := rfl
    have hl : ((bs.drop i).take n.toNat).length = n.toNat := by rw [List.length_take, List.length_drop]; omega
    refine ⟨by omega, by omega, ?_⟩
    rw [textB_put, hl, show ((n.toNat : Nat) : Int) = n by omega, h3, seg_add]
    show some (_ ++ _) = _
    rw [seg_app bs j i _ h1 (by omega)]
theorem run_back (bs : List Int) (hb : ∀ z ∈ bs, 0 ≤ z ∧ z < 256) (m : Nat) (j k : Nat) (hj : j ≤ bs.length) (xs : List Int) (h : runR bs m (.ok j) = (xs, .ok k)) :
    j ≤ k ∧ k ≤ bs.length ∧ fieldsB 6 xs = some (seg bs j k) ∧ xs.length = m := by
  induction m generalizing k xs with
  | zero =>
    simp only [runR, Prod.mk.injEq, RSt.ok.injEq] at h
    obtain ⟨rfl, rfl⟩ := h
    exact ⟨Nat.le_refl _, hj, by rw [seg_same]; rfl, rfl⟩
  | succ m ih =>
    simp only [runR] at h
    generalize hr : runR bs m (.ok j) = r at *
    obtain ⟨ys, t⟩ := r
    simp only at h
    cases t with
    | bad p l => simp [fieldR] at h
    | ok i =>
      obtain ⟨h1, h2, h3, h4⟩ := ih i ys rfl
      generalize hf : fieldR bs 6 (.ok i) = q at *
      obtain ⟨n, u⟩ := q
      simp only [Prod.mk.injEq] at h
      obtain ⟨rfl, rfl⟩ := h
      obtain ⟨g1, g2, g3, g4, g5, _⟩ := field_back bs hb 6 n i k h2 hf
      refine ⟨by omega, g2, ?_, by simp [h4]⟩
      have ht : top 6 = 1099511627776 := rfl
      have hin : ∀ y ∈ ys, 0 ≤ y ∧ y ≤ top 6 := by
        unfold fieldsB at h3
        rw [if_neg (by omega)] at h3
        split at h3
        · rename_i hall
          unfold inTop at hall
          intro y hy
          simpa using List.all_eq_true.1 hall y hy
        · cases h3
      rw [fieldsB_ok 6 _ (by omega) hin] at h3
      rw [fieldsB_one 6 n (by omega) g4 g5] at g3
      rw [fieldsB_ok 6 _ (by omega) (fun y hy => by
        rcases List.mem_append.1 hy with h | h
        · exact hin y h
        · obtain rfl := List.mem_singleton.1 h
          exact ⟨g4, g5⟩), List.flatMap_append, ← seg_app bs j i k h1 g1]
      rw [Option.some.inj h3]
      congr 2
      simpa using Option.some.inj g3
theorem row_back (bs : List Int) (hb : ∀ z ∈ bs, 0 ≤ z ∧ z < 256) (most : Int) (xs : List Int) (j k : Nat) (hj : j ≤ bs.length) (h : rowR bs most (.ok j) = (xs, .ok k)) :
    j ≤ k ∧ k ≤ bs.length ∧ rowB xs = some (seg bs j k) ∧ xs.length ≤ 255 := by
  unfold rowR at h
  generalize hc : countR bs 1 most 6 (.ok j) = r at *
  obtain ⟨n, t⟩ := r
  cases t with
  | bad p l => simp at h
  | ok i =>
    simp only at h
    obtain ⟨h1, h2, h3, h4, h5, h6, _⟩ := count_back bs hb 1 most 6 n j i hj hc
    generalize hr : runR bs n.toNat (.ok i) = q at *
    obtain ⟨ys, u⟩ := q
    cases u with
    | bad p l => simp at h
    | ok m =>
      simp only [Prod.mk.injEq, RSt.ok.injEq] at h
      obtain ⟨rfl, rfl⟩ := h
      obtain ⟨g1, g2, g3, g4⟩ := run_back bs hb n.toNat i m h2 ys hr
      have ht : top 1 = 255 := rfl
      refine ⟨by omega, g2, ?_, by omega⟩
      unfold rowB
      rw [g4, show ((n.toNat : Nat) : Int) = n by omega, h3, g3]
      show some (_ ++ _) = _
      rw [seg_app bs j i m h1 g1]
theorem entry_back (bs : List Int) (hb : ∀ z ∈ bs, 0 ≤ z ∧ z < 256) (e : Ent) (j k : Nat) (hj : j ≤ bs.length) (h : entryR bs (.ok j) = (e, .ok k)) :
    j ≤ k ∧ k ≤ bs.length ∧ entryB e = some (seg bs j k) ∧ rightB e = true := by
  simp only [entryR] at h
  generalize ha : fieldR bs 1 (.ok j) = ra at *
  obtain ⟨a, sa⟩ := ra
  cases sa with
  | bad p l => simp [fieldR, textR, countR] at h
  | ok i1 =>
    simp only at h
    generalize hb' : fieldR bs 6 (.ok i1) = rb at *
    obtain ⟨b, sb⟩ := rb
    cases sb with
    | bad p l => simp [fieldR, textR, countR] at h
    | ok i2 =>
      simp only at h
      generalize hc : fieldR bs 6 (.ok i2) = rc at *
      obtain ⟨c, sc⟩ := rc
      cases sc with
      | bad p l => simp [textR, countR] at h
      | ok i3 =>
        simp only at h
        generalize hd : textR bs 65535 (.ok i3) = rd at *
        obtain ⟨d, sd⟩ := rd
        cases sd with
        | bad p l => simp at h
        | ok i4 =>
          simp only at h
          split at h
          · rename_i hr
            simp only [Prod.mk.injEq, RSt.ok.injEq] at h
            obtain ⟨rfl, rfl⟩ := h
            obtain ⟨a1, a2, a3, a4, a5, _⟩ := field_back bs hb 1 a j i1 hj ha
            obtain ⟨b1, b2, b3, b4, b5, _⟩ := field_back bs hb 6 b i1 i2 a2 hb'
            obtain ⟨c1, c2, c3, c4, c5, _⟩ := field_back bs hb 6 c i2 i3 b2 hc
            obtain ⟨d1, d2, d3⟩ := text_back bs hb 65535 d i3 i4 c2 hd
            have ht : top 6 = 1099511627776 := rfl
            refine ⟨by omega, d2, ?_, hr⟩
            rw [entryB_put _ hr]
            have hbc : fieldsB 6 [b, c] = some (seg bs i1 i2 ++ seg bs i2 i3) := by
              rw [fieldsB_one 6 b (by omega) b4 b5] at b3
              rw [fieldsB_one 6 c (by omega) c4 c5] at c3
              rw [fieldsB_ok 6 _ (by omega) (fun y hy => by simp at hy; rcases hy with rfl | rfl <;> exact ⟨by assumption, by assumption⟩)]
              rw [← Option.some.inj b3, ← Option.some.inj c3]
              simp
            simp only
            rw [a3, hbc, d3]
            show some (_ ++ ((_ ++ _) ++ _)) = _
            rw [seg_app bs i1 i2 i3 b1 c1, seg_app bs i1 i3 i4 (by omega) d1, seg_app bs j i1 i4 a1 (by omega)]
          · simp at h
end Go.Proofs.YtoddcjpfldpnfaaDoor
