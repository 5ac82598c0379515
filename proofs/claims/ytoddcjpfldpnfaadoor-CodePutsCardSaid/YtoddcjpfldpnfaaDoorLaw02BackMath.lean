/- What is put is got, part by part: lists alone. -/
import Derived.Test.YtoddcjpfldpnfaaDoorLaw02Got
namespace Go.Proofs.YtoddcjpfldpnfaaDoor
theorem loopR_bad (bs : List Int) (w : Int) (p : Nat) (l : Bool) : ∀ ns : List Int, (loopR bs w ns (.bad p l)).2 = .bad p l
  | [] => rfl
  | n :: ns => by
    show (if _ then _ else _ : Bool × RSt).2 = _
    split
    · exact loopR_bad bs w p l ns
    · rfl
theorem gotR_bad (bs : List Int) (q : PartV) (p : Nat) (l : Bool) : (gotR bs q (.bad p l)).2 = .bad p l := by
  unfold gotR
  split
  · exact loopR_bad bs _ p l _
  · split
    · rfl
    · split
      · rfl
      · rfl
theorem loop_meets (W : List Int) (c : Nat) (hc : c ≤ W.length) (w : Int) (ht : 0 ≤ top w) : ∀ (ns : List Int) (j : Nat), j ≤ c → (∀ n ∈ ns, 0 ≤ n ∧ n ≤ top w) → seg W j (j + (ns.flatMap (le w.toNat)).length) = ns.flatMap (le w.toNat) →
    Meets c j (ns.flatMap (le w.toNat)).length true (loopR (W.take c) w ns (.ok j))
  | [], j, hj, _, _ => ⟨fun _ => by simp [loopR], fun h => by simp at h; omega⟩
  | n :: ns, j, hj, hn, h => by
    rw [List.flatMap_cons] at h ⊢
    obtain ⟨h1, h2⟩ := seg_split W j _ _ h
    have hn0 := hn n List.mem_cons_self
    have hM := field_meets W c j hc hj w n ht hn0.1 hn0.2 h1
    rw [le_len] at h2
    rw [List.length_append, le_len]
    by_cases hf : j + w.toNat ≤ c
    · have hA := hM.all hf
      have ih := loop_meets W c hc w ht ns (j + w.toNat) hf (fun m hm => hn m (List.mem_cons_of_mem _ hm)) h2
      have he : loopR (W.take c) w (n :: ns) (.ok j) = loopR (W.take c) w ns (.ok (j + w.toNat)) := by
        show (if _ then _ else _) = _
        rw [hA, if_pos rfl]
      rw [he]
      exact ⟨fun hall => by rw [ih.all (by omega), Nat.add_assoc], fun hcut => ih.cut (by omega)⟩
    · obtain ⟨p, hp⟩ := hM.cut (by omega)
      refine ⟨fun hall => by omega, fun _ => ⟨p, ?_⟩⟩
      show (if _ then _ else _ : Bool × RSt).2 = _
      split
      · rw [hp]; exact loopR_bad _ _ _ _ _
      · exact hp
theorem fieldsB_some {w : Int} {ns x : List Int} (h : fieldsB w ns = some x) : 0 ≤ top w ∧ (∀ n ∈ ns, 0 ≤ n ∧ n ≤ top w) ∧ x = ns.flatMap (le w.toNat) := by
  unfold fieldsB at h
  split at h
  · cases h
  · split at h
    · rename_i h1 h2
      refine ⟨by omega, fun n hn => ?_, (Option.some.inj h).symm⟩
      unfold inTop at h2
      simpa using List.all_eq_true.1 h2 n hn
    · cases h
theorem sameE_self (e : Ent) : sameE e e = true := by unfold sameE; simp
theorem part_meets (p : PartV) (x : List Int) (hx : partB p = some x) (W : List Int) (c j : Nat) (hc : c ≤ W.length) (hj : j ≤ c) (h : seg W j (j + x.length) = x) : Meets c j x.length true (gotR (W.take c) p (.ok j)) := by
  unfold partB at hx
  unfold gotR
  split at hx
  · rename_i hk
    rw [if_pos hk]
    obtain ⟨ht, hn, rfl⟩ := fieldsB_some hx
    exact loop_meets W c hc p.width ht p.ns j hj hn h
  · rename_i hk
    rw [if_neg hk]
    split at hx
    · rename_i hk
      rw [if_pos hk]
      unfold textB at hx
      split at hx
      · rename_i hl
        obtain rfl := Option.some.inj hx
        have hM := text_meets W c j hc hj p.ts p.ts.length hl (Int.le_refl _) h
        have hxl : (le 2 (p.ts.length : Int) ++ p.ts).length = 2 + p.ts.length := by rw [List.length_append, le_len]
        rw [hxl]
        exact ⟨fun ha => by rw [hM.all ha]; simp [sameB], fun hcut => hM.cut hcut⟩
      · cases hx
    · rename_i hk
      rw [if_neg hk]
      split at hx
      · rename_i hk
        rw [if_pos hk]
        unfold rowB at hx
        cases h1 : fieldsB 1 [(p.ns.length : Int)] with
        | none => rw [h1] at hx; cases hx
        | some y =>
          cases h2 : fieldsB 6 p.ns with
          | none => rw [h1, h2] at hx; cases hx
          | some z =>
            rw [h1, h2] at hx
            obtain rfl := Option.some.inj hx
            obtain ⟨_, hb, rfl⟩ := fieldsB_some h1
            obtain ⟨_, hn, rfl⟩ := fieldsB_some h2
            have h255 := (hb _ List.mem_cons_self).2
            have t1 : top 1 = 255 := rfl
            have e1 : [(p.ns.length : Int)].flatMap (le (1 : Int).toNat) = le 1 p.ns.length := by simp
            have e6 : (6 : Int).toNat = 6 := rfl
            rw [e1, e6] at h ⊢
            have hM := row_meets W c j hc hj p.ns p.ns.length (by omega) hn (Int.le_refl _) h
            have hxl : (le 1 (p.ns.length : Int) ++ p.ns.flatMap (le 6)).length = 1 + 6 * p.ns.length := by rw [List.length_append, le_len, flat_len]
            rw [hxl]
            exact ⟨fun ha => by rw [hM.all ha]; simp [sameB], fun hcut => hM.cut hcut⟩
      · rename_i hk
        rw [if_neg hk]
        unfold entryB at hx
        split at hx
        · rename_i hr
          obtain rfl := Option.some.inj hx
          have hM := entry_meets W c j hc hj p.ent hr h
          have hxl : (le 1 p.ent.kind ++ (le 6 p.ent.index ++ (le 6 p.ent.term ++ (le 2 p.ent.body.length ++ p.ent.body)))).length = 15 + p.ent.body.length := by
            simp only [List.length_append, le_len]; omega
          rw [hxl]
          exact ⟨fun ha => by rw [hM.all ha]; simp [sameE_self], fun hcut => hM.cut hcut⟩
        · cases hx
/-- What a writer has behind the first k parts. -/
def encTo (ps : List PartV) (k : Nat) : Option (List Int) := (ps.take k).foldl (fun s p => putO s (partB p)) (some [])
theorem encTo_succ (ps : List PartV) (k : Nat) (p : PartV) (h : ps[k]? = some p) : encTo ps (k + 1) = putO (encTo ps k) (partB p) := by
  unfold encTo
  rw [List.take_add_one, h, Option.toList_some, List.foldl_append]; rfl
theorem encTo_back (ps : List PartV) (k : Nat) (hk : k < ps.length) (z : List Int) (h : encTo ps (k + 1) = some z) : ∃ p x y, ps[k]? = some p ∧ encTo ps k = some y ∧ partB p = some x ∧ z = y ++ x := by
  have hp : ps[k]? = some ps[k] := List.getElem?_eq_getElem hk
  generalize ps[k] = p at hp
  rw [encTo_succ ps k p hp] at h
  cases hy : encTo ps k with
  | none => rw [hy, none_putO] at h; cases h
  | some y =>
    cases hx : partB p with
    | none => rw [hx, putO_none] at h; cases h
    | some x =>
      rw [hy, hx] at h
      exact ⟨p, x, y, hp, rfl, hx, (Option.some.inj h).symm⟩
theorem encTo_some (ps : List PartV) (b : List Int) (h : encTo ps ps.length = some b) (m : Nat) (hm : m ≤ ps.length) : ∃ y r, encTo ps (ps.length - m) = some y ∧ b = y ++ r := by
  induction m with
  | zero => exact ⟨b, [], h, by simp⟩
  | succ m ih =>
    obtain ⟨z, r, hz, hb⟩ := ih (by omega)
    rw [show ps.length - m = (ps.length - (m + 1)) + 1 by omega] at hz
    obtain ⟨p, x, y, _, hy, _, rfl⟩ := encTo_back ps _ (by omega) z hz
    exact ⟨y, x ++ r, hy, by rw [hb, List.append_assoc]⟩
theorem seg_mid (y x r : List Int) : seg (y ++ x ++ r) y.length (y.length + x.length) = x := by
  unfold seg
  rw [List.append_assoc, List.drop_left, Nat.add_sub_cancel_left, List.take_left]
/-- One part ahead: where it stands in what was put. -/
theorem enc_part (ps : List PartV) (b : List Int) (h : encTo ps ps.length = some b) (k : Nat) (p : PartV) (hp : ps[k]? = some p) : ∃ y x r, encTo ps k = some y ∧ partB p = some x ∧ b = y ++ x ++ r ∧ encTo ps (k + 1) = some (y ++ x) := by
  have hk : k < ps.length := (List.getElem?_eq_some_iff.1 hp).1
  obtain ⟨z, r, hz, hb⟩ := encTo_some ps b h (ps.length - (k + 1)) (by omega)
  rw [show ps.length - (ps.length - (k + 1)) = k + 1 by omega] at hz
  obtain ⟨p', x, y, hp', hy, hx, rfl⟩ := encTo_back ps k hk z hz
  obtain rfl : p = p' := by rw [hp] at hp'; exact Option.some.inj hp'
  exact ⟨y, x, r, hy, hx, hb, hz⟩
end Go.Proofs.YtoddcjpfldpnfaaDoor
