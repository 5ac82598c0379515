/- What is got is small: lists alone. -/
/- What is put is got, whatever stands behind; with fewer bytes there is an error: lists alone. -/
import Derived.Test.YtifoiiaddcgngaaGreatDoorReadEntry
import Derived.Test.YtifoiiaddcgngaaGreatDoorCodeMathB
namespace Go.Proofs.YtifoiiaddcgngaaGreatDoor
open Go.RowKit
theorem textR_mem (bs : List Int) (hb : ∀ z ∈ bs, 0 ≤ z ∧ z < 256) (most : Int) (s : RSt) : ∀ z ∈ (textR bs most s).1, 0 ≤ z ∧ z < 256 := by
  rw [textR_of]
  cases h : (countR bs 2 most 1 s).2 with
  | bad p l => intro z hz; cases hz
  | ok j => intro z hz; exact hb z (List.mem_of_mem_drop (List.mem_of_mem_take hz))
theorem rowR_nil (bs : List Int) (most : Int) (s : RSt) (p : Nat) (l : Bool) (h : (rowR bs most s).2 = .bad p l) : (rowR bs most s).1 = [] := by
  rw [rowR_of] at h ⊢
  cases hc : (countR bs 1 most 6 s).2 with
  | bad p' l' => rfl
  | ok j =>
    rw [hc] at h
    simp only at h ⊢
    cases hr : (runR bs (countR bs 1 most 6 s).1.toNat (.ok j)).2 with
    | bad p' l' => rfl
    | ok i => rw [hr] at h; cases h
theorem runR_bd (bs : List Int) (hb : ∀ z ∈ bs, 0 ≤ z ∧ z < 256) (k : Nat) (s : RSt) : ∀ y ∈ (runR bs k s).1, 0 ≤ y ∧ y ≤ 1099511627776 := by
  induction k with
  | zero => intro y hy; cases hy
  | succ k ih =>
    intro y hy
    rcases List.mem_append.1 hy with h | h
    · exact ih y h
    · obtain rfl := List.mem_singleton.1 h
      have := fieldR_bd bs hb 6 (runR bs k s).2
      have ht : top 6 = 1099511627776 := rfl
      omega
theorem rowR_bd (bs : List Int) (hb : ∀ z ∈ bs, 0 ≤ z ∧ z < 256) (most : Int) (s : RSt) : ∀ y ∈ (rowR bs most s).1, 0 ≤ y ∧ y ≤ 1099511627776 := by
  rw [rowR_of]
  cases hc : (countR bs 1 most 6 s).2 with
  | bad p l => intro y hy; cases hy
  | ok j =>
    simp only
    cases hr : (runR bs (countR bs 1 most 6 s).1.toNat (.ok j)).2 with
    | bad p l => intro y hy; cases hy
    | ok i => exact runR_bd bs hb _ _
theorem countR_top (bs : List Int) (hb : ∀ z ∈ bs, 0 ≤ z ∧ z < 256) (wd most each : Int) (ht : 0 ≤ top wd) (s : RSt) : (countR bs wd most each s).1 ≤ top wd := by
  cases s with
  | bad p l => exact ht
  | ok k =>
    have h0 := fieldR_bd bs hb wd (.ok k)
    cases hs : (fieldR bs wd (.ok k)).2 with
    | bad p l => rw [countR_bad bs wd most each _ p l hs]; exact ht
    | ok i =>
      rw [countR_ok bs wd most each k i hs]
      split
      · exact ht
      · split
        · exact ht
        · simp only; omega
theorem rowR_len (bs : List Int) (hb : ∀ z ∈ bs, 0 ≤ z ∧ z < 256) (most : Int) (s : RSt) : (rowR bs most s).1.length ≤ 255 := by
  rw [rowR_of]
  cases hc : (countR bs 1 most 6 s).2 with
  | bad p l => exact Nat.zero_le _
  | ok j =>
    simp only
    cases hr : (runR bs (countR bs 1 most 6 s).1.toNat (.ok j)).2 with
    | bad p l => exact Nat.zero_le _
    | ok i =>
      simp only [runR_len]
      have := countR_top bs hb 1 most 6 (by decide) s
      have ht : top 1 = 255 := rfl
      omega
theorem entryR_none (bs : List Int) (s : RSt) (p : Nat) (l : Bool) (h : (entryR bs s).2 = .bad p l) : (entryR bs s).1 = noEnt := by
  cases s with
  | bad p' l' => rfl
  | ok k =>
    rw [entryR_of] at h ⊢
    split at h
    · rfl
    · split at h
      · cases h
      · rename_i hr
        rw [if_neg hr]
theorem entryR_right (bs : List Int) (s : RSt) (j : Nat) (h : (entryR bs s).2 = .ok j) : rightB (entryR bs s).1 = true := by
  cases s with
  | bad p' l' => cases h
  | ok k =>
    rw [entryR_of] at h ⊢
    split at h
    · cases h
    · split at h
      · rename_i hr
        rw [if_pos hr]; exact hr
      · cases h
theorem entryR_bd (bs : List Int) (s : RSt) : 0 ≤ (entryR bs s).1.index ∧ (entryR bs s).1.index ≤ 1099511627776 ∧ 0 ≤ (entryR bs s).1.term ∧ (entryR bs s).1.term ≤ 1099511627776 ∧ 0 ≤ (entryR bs s).1.kind ∧ (entryR bs s).1.kind ≤ 3 ∧ (entryR bs s).1.body.length ≤ 200 := by
  cases h : (entryR bs s).2 with
  | bad p l => rw [entryR_none bs s p l h]; decide
  | ok j =>
    have := of_decide_eq_true (entryR_right bs s j h)
    omega
theorem entryR_mem (bs : List Int) (hb : ∀ z ∈ bs, 0 ≤ z ∧ z < 256) (s : RSt) : ∀ z ∈ (entryR bs s).1.body, 0 ≤ z ∧ z < 256 := by
  cases s with
  | bad p' l' => intro z hz; cases hz
  | ok k =>
    rw [entryR_of]
    split
    · intro z hz; cases hz
    · split
      · exact textR_mem bs hb _ _
      · intro z hz; cases hz
theorem own_none {w : World} {B : Nat} {e : TypeId} {size n cap : Nat} {X : Option Addr} {xs : List Value} (h : w.ownsRow B e size (.slice X n cap) n xs) : X = none → cap = 0 := by
  intro hX
  rcases h.2 with ⟨h', _⟩ | ⟨g, c, cur, h', _⟩
  · simp at h'; exact h'.2.2
  · subst hX; simp at h'
end Go.Proofs.YtifoiiaddcgngaaGreatDoor
namespace Go.Proofs.YtifoiiaddcgngaaGreatDoor
/-- Of a row that is cut behind c bytes: from place j on, m bytes tell a; if they are not all there, an error that is no ErrLong. -/
structure Meets {α : Type} (c j m : Nat) (a : α) (r : α × RSt) : Prop where
  all : j + m ≤ c → r = (a, .ok (j + m))
  cut : c < j + m → ∃ p, r.2 = .bad p false
theorem seg_cut (W : List Int) (c j k : Nat) (h : k ≤ c) : seg (W.take c) j k = seg W j k := by
  unfold seg
  rw [List.drop_take, List.take_take, Nat.min_eq_left (by omega)]
theorem seg_split (W : List Int) (j : Nat) (x y : List Int) (h : seg W j (j + (x ++ y).length) = x ++ y) : seg W j (j + x.length) = x ∧ seg W (j + x.length) (j + x.length + y.length) = y := by
  rw [List.length_append] at h
  have h1 := seg_app W j (j + x.length) (j + x.length + y.length) (by omega) (by omega)
  rw [show j + x.length + y.length = j + (x.length + y.length) by omega, h] at h1
  have hl : (seg W j (j + (x.length + y.length))).length = x.length + y.length := by rw [h, List.length_append]
  have hW : j + (x.length + y.length) ≤ W.length ∨ x.length + y.length = 0 := by
    unfold seg at hl
    rw [List.length_take, List.length_drop] at hl
    omega
  have hs : (seg W j (j + x.length)).length = x.length := by
    unfold seg
    rw [List.length_take, List.length_drop]
    omega
  have := List.append_inj h1 hs
  exact ⟨this.1, by rw [show j + x.length + y.length = j + (x.length + y.length) by omega]; exact this.2⟩
theorem field_meets (W : List Int) (c j : Nat) (hc : c ≤ W.length) (_hj : j ≤ c) (w n : Int) (ht : 0 ≤ top w) (h0 : 0 ≤ n) (h1 : n ≤ top w) (h : seg W j (j + (le w.toNat n).length) = le w.toNat n) :
    Meets c j w.toNat n (fieldR (W.take c) w (.ok j)) := by
  have hw := top_pos w ht
  rw [le_len] at h
  have hl : ((W.take c).length : Int) = c := by rw [List.length_take]; omega
  refine ⟨fun hm => ?_, fun hm => ⟨j, ?_⟩⟩
  · unfold fieldR
    have hu : unle (((W.take c).drop j).take w.toNat) = n := by
      rw [seg_add, seg_cut W c j _ hm, h]
      refine unle_le _ _ h0 ?_
      rcases top_lt w with h2 | h2 <;> omega
    simp only [hl, hu]
    rw [if_neg (by omega), if_neg (by omega)]
  · unfold fieldR
    simp only [hl]
    rw [if_pos (.inr (by omega))]
theorem field_here {W : List Int} {c j : Nat} (hc : c ≤ W.length) (hj : j ≤ c) {w n : Int} (ht : 0 ≤ top w) (h0 : 0 ≤ n) (h1 : n ≤ top w) (h : seg W j (j + (le w.toNat n).length) = le w.toNat n) (hm : j + w.toNat ≤ c) : fieldR (W.take c) w (.ok j) = (n, .ok (j + w.toNat)) :=
  (field_meets W c j hc hj w n ht h0 h1 h).all hm
theorem count_meets (W : List Int) (c j : Nat) (hc : c ≤ W.length) (hj : j ≤ c) (w n most each : Int) (ht : 0 ≤ top w) (h0 : 0 ≤ n) (h1 : n ≤ top w) (hmost : n ≤ most) (h : seg W j (j + (le w.toNat n).length) = le w.toNat n) :
    (j + w.toNat ≤ c → n * each ≤ (c : Int) - ((j + w.toNat : Nat) : Int) → countR (W.take c) w most each (.ok j) = (n, .ok (j + w.toNat))) ∧
    ((c < j + w.toNat ∨ (c : Int) - ((j + w.toNat : Nat) : Int) < n * each) → ∃ p, (countR (W.take c) w most each (.ok j)).2 = .bad p false) := by
  have hM := field_meets W c j hc hj w n ht h0 h1 h
  have hl : ((W.take c).length : Int) = c := by rw [List.length_take]; omega
  constructor
  · intro hm he
    unfold countR
    simp only [hM.all hm, hl]
    rw [if_neg (by omega), if_neg (by omega)]
  · intro hcut
    by_cases hm : j + w.toNat ≤ c
    · refine ⟨j, ?_⟩
      unfold countR
      simp only [hM.all hm, hl]
      rw [if_neg (by omega), if_pos (by omega)]
    · obtain ⟨p, hp⟩ := hM.cut (by omega)
      exact ⟨p, by rw [countR_bad _ _ _ _ _ p false hp]⟩
theorem text_meets (W : List Int) (c j : Nat) (hc : c ≤ W.length) (hj : j ≤ c) (zs : List Int) (most : Int) (hz : zs.length ≤ 65535) (hm : (zs.length : Int) ≤ most) (h : seg W j (j + (le 2 zs.length ++ zs).length) = le 2 zs.length ++ zs) :
    Meets c j (2 + zs.length) zs (textR (W.take c) most (.ok j)) := by
  obtain ⟨h1, h2⟩ := seg_split W j _ _ h
  have ht : top 2 = 65535 := rfl
  have hC := count_meets W c j hc hj 2 zs.length most 1 (by omega) (by omega) (by omega) hm h1
  rw [le_len] at h2
  have h2t : (2 : Int).toNat = 2 := rfl
  rw [h2t] at hC
  constructor
  · intro hall
    have hcr := hC.1 (by omega) (by omega)
    unfold textR
    simp only [hcr]
    rw [Int.toNat_natCast, seg_add, seg_cut W c _ _ (by omega), h2, show j + 2 + zs.length = j + (2 + zs.length) by omega]
  · intro hcut
    obtain ⟨p, hp⟩ := hC.2 (by omega)
    refine ⟨p, ?_⟩
    rw [textR_of, hp]
theorem run_meets (W : List Int) (c j : Nat) (hc : c ≤ W.length) (ns : List Int) (hn : ∀ n ∈ ns, 0 ≤ n ∧ n ≤ top 6) (h : seg W j (j + (ns.flatMap (le 6)).length) = ns.flatMap (le 6)) (hall : j + 6 * ns.length ≤ c) :
    ∀ k, k ≤ ns.length → runR (W.take c) k (.ok j) = (ns.take k, .ok (j + 6 * k)) := by
  intro k
  induction k with
  | zero => intro _; simp [runR]
  | succ k ih =>
    intro hk
    have hi := ih (by omega)
    have hnk : ns[k]? = some (ns[k]'(by omega)) := List.getElem?_eq_getElem _
    generalize ns[k]'(by omega) = n at hnk
    have hm := hn n (List.mem_of_getElem? hnk)
    have hsplit : ns.flatMap (le 6) = (ns.take k).flatMap (le 6) ++ (le 6 n ++ (ns.drop (k + 1)).flatMap (le 6)) := by
      conv => lhs; rw [← List.take_append_drop k ns]
      rw [List.flatMap_append, List.drop_eq_getElem_cons (by omega), List.flatMap_cons]
      rw [List.getElem?_eq_getElem (by omega)] at hnk
      rw [Option.some.inj hnk]
    rw [hsplit] at h
    have h1 := (seg_split W j _ _ h).2
    have h2 := (seg_split W _ _ _ h1).1
    rw [flat_len, List.length_take, Nat.min_eq_left (by omega)] at h2
    have hf := field_here hc (by omega) (w := 6) (n := n) (by decide) hm.1 hm.2 h2 (by show j + 6 * k + 6 ≤ c; omega)
    simp only [runR, hi]
    rw [hf]
    rw [List.take_add_one, hnk]
    show (_ ++ [n], RSt.ok (j + 6 * k + 6)) = _
    rw [show j + 6 * k + 6 = j + 6 * (k + 1) by omega]
    rfl
theorem row_meets (W : List Int) (c j : Nat) (hc : c ≤ W.length) (hj : j ≤ c) (ns : List Int) (most : Int) (hl : ns.length ≤ 255) (hn : ∀ n ∈ ns, 0 ≤ n ∧ n ≤ top 6) (hm : (ns.length : Int) ≤ most) (h : seg W j (j + (le 1 ns.length ++ ns.flatMap (le 6)).length) = le 1 ns.length ++ ns.flatMap (le 6)) :
    Meets c j (1 + 6 * ns.length) ns (rowR (W.take c) most (.ok j)) := by
  obtain ⟨h1, h2⟩ := seg_split W j _ _ h
  have ht : top 1 = 255 := rfl
  have hC := count_meets W c j hc hj 1 ns.length most 6 (by omega) (by omega) (by omega) hm h1
  rw [le_len] at h2
  have h1t : (1 : Int).toNat = 1 := rfl
  rw [h1t] at hC
  constructor
  · intro hall
    have hcr := hC.1 (by omega) (by omega)
    have hr := run_meets W c (j + 1) hc ns hn h2 (by omega) ns.length (Nat.le_refl _)
    unfold rowR
    simp only [hcr, Int.toNat_natCast, hr, List.take_length]
    rw [show j + 1 + 6 * ns.length = j + (1 + 6 * ns.length) by omega]
  · intro hcut
    obtain ⟨p, hp⟩ := hC.2 (by omega)
    refine ⟨p, ?_⟩
    rw [rowR_of, hp]
theorem textR_bad (bs : List Int) (most : Int) (p : Nat) (l : Bool) : textR bs most (.bad p l) = ([], .bad p l) := rfl
theorem fieldR_absorb (bs : List Int) (w : Int) (p : Nat) (l : Bool) : fieldR bs w (.bad p l) = (0, .bad p l) := rfl
theorem entry_meets (W : List Int) (c j : Nat) (hc : c ≤ W.length) (hj : j ≤ c) (e : Ent) (hr : rightB e = true)
    (h : seg W j (j + (le 1 e.kind ++ (le 6 e.index ++ (le 6 e.term ++ (le 2 e.body.length ++ e.body)))).length) = le 1 e.kind ++ (le 6 e.index ++ (le 6 e.term ++ (le 2 e.body.length ++ e.body)))) :
    Meets c j (15 + e.body.length) e (entryR (W.take c) (.ok j)) := by
  have hb := of_decide_eq_true hr
  have t1 : top 1 = 255 := rfl
  have t6 : top 6 = 1099511627776 := rfl
  obtain ⟨k1, h⟩ := seg_split W j _ _ h
  obtain ⟨k2, h⟩ := seg_split W _ _ _ h
  obtain ⟨k3, k4⟩ := seg_split W _ _ _ h
  rw [le_len] at k2 k3 k4
  rw [le_len] at k3 k4
  rw [le_len] at k4
  have n1 : (1 : Int).toNat = 1 := rfl
  have n6 : (6 : Int).toNat = 6 := rfl
  constructor
  · intro hall
    have a := field_here hc hj (w := 1) (n := e.kind) (by omega) (by omega) (by omega) k1 (by rw [n1]; omega)
    have b := field_here hc (j := j + 1) (by omega) (w := 6) (n := e.index) (by omega) (by omega) (by omega) k2 (by rw [n6]; omega)
    have d := field_here hc (j := j + 1 + 6) (by omega) (w := 6) (n := e.term) (by omega) (by omega) (by omega) k3 (by rw [n6]; omega)
    have t := (text_meets W c (j + 1 + 6 + 6) hc (by omega) e.body 65535 (by omega) (by omega) k4).all (by omega)
    rw [n1] at a
    rw [n6] at b d
    rw [entryR_of, a]
    simp only [b, d, t]
    rw [if_pos hr, show j + 1 + 6 + 6 + (2 + e.body.length) = j + (15 + e.body.length) by omega]
  · intro hcut
    by_cases c1 : j + 1 ≤ c
    · have a := field_here hc hj (w := 1) (n := e.kind) (by omega) (by omega) (by omega) k1 (by rw [n1]; omega)
      rw [n1] at a
      by_cases c2 : j + 1 + 6 ≤ c
      · have b := field_here hc (j := j + 1) (by omega) (w := 6) (n := e.index) (by omega) (by omega) (by omega) k2 (by rw [n6]; omega)
        rw [n6] at b
        by_cases c3 : j + 1 + 6 + 6 ≤ c
        · have d := field_here hc (j := j + 1 + 6) (by omega) (w := 6) (n := e.term) (by omega) (by omega) (by omega) k3 (by rw [n6]; omega)
          rw [n6] at d
          obtain ⟨p, hp⟩ := (text_meets W c (j + 1 + 6 + 6) hc (by omega) e.body 65535 (by omega) (by omega) k4).cut (by omega)
          refine ⟨p, ?_⟩
          rw [entryR_of, a]
          simp only [b, d, hp]
        · obtain ⟨p, hp⟩ := (field_meets W c (j + 1 + 6) hc (by omega) 6 e.term (by omega) (by omega) (by omega) k3).cut (by rw [n6]; omega)
          refine ⟨p, ?_⟩
          rw [entryR_of, a]
          simp only [b, hp, textR_bad]
      · obtain ⟨p, hp⟩ := (field_meets W c (j + 1) hc (by omega) 6 e.index (by omega) (by omega) (by omega) k2).cut (by rw [n6]; omega)
        refine ⟨p, ?_⟩
        rw [entryR_of, a]
        simp only [hp, textR_bad, fieldR_absorb]
    · obtain ⟨p, hp⟩ := (field_meets W c j hc hj 1 e.kind (by omega) (by omega) (by omega) k1).cut (by rw [n1]; omega)
      refine ⟨p, ?_⟩
      rw [entryR_of]
      simp only [hp, textR_bad, fieldR_absorb]
end Go.Proofs.YtifoiiaddcgngaaGreatDoor
