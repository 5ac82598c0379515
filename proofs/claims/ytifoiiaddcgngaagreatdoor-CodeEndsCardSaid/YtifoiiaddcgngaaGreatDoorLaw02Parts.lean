/- What is put, part behind part: lists alone. -/
/- Law 02: the cells of a part of a row; how long what is put is. -/
import Derived.Test.YtifoiiaddcgngaaGreatDoorLaw02PartV
import Derived.Test.YtifoiiaddcgngaaGreatDoorCodeMathB
namespace Go.Proofs.YtifoiiaddcgngaaGreatDoor
open Go.RowKit
/-- What a writer has behind the first k parts. -/
def encTo (ps : List PartV) (k : Nat) : Option (List Int) := (ps.take k).foldl (fun s p => putO s (partB p)) (some [])
theorem encTo_succ (ps : List PartV) (k : Nat) (p : PartV) (h : ps[k]? = some p) : encTo ps (k + 1) = putO (encTo ps k) (partB p) := by
  unfold encTo
  rw [List.take_add_one, h, Option.toList_some, List.foldl_append]; rfl
theorem encTo_back (ps : List PartV) (k : Nat) (hk : k < ps.length) (z : List Int) (h : encTo ps (k + 1) = some z) : ∃ p x y, ps[k]? = some p ∧ encTo ps k = some y ∧ partB p = some x ∧ z = y ++ x := by
  have hp : ps[k]? = some ps[k] := List.getElem?_eq_getElem hk
  generalize ps[k] = p at hp
  rw [encTo_succ ps k p hp] at h
  cases hy : encTo ps k with
  | none => rw [hy, none_putO] at h; cases h
  | some y =>
    cases hx : partB p with
    | none => rw [hx, putO_none] at h; cases h
    | some x =>
      rw [hy, hx] at h
      exact ⟨p, x, y, hp, rfl, hx, (Option.some.inj h).symm⟩
theorem encTo_some (ps : List PartV) (b : List Int) (h : encTo ps ps.length = some b) (m : Nat) (hm : m ≤ ps.length) : ∃ y r, encTo ps (ps.length - m) = some y ∧ b = y ++ r := by
  induction m with
  | zero => exact ⟨b, [], h, by simp⟩
  | succ m ih =>
    obtain ⟨z, r, hz, hb⟩ := ih (by omega)
    rw [show ps.length - m = (ps.length - (m + 1)) + 1 by omega] at hz
    obtain ⟨p, x, y, _, hy, _, rfl⟩ := encTo_back ps _ (by omega) z hz
    exact ⟨y, x ++ r, hy, by rw [hb, List.append_assoc]⟩
theorem fieldsB_some {w : Int} {ns x : List Int} (h : fieldsB w ns = some x) : 0 ≤ top w ∧ (∀ n ∈ ns, 0 ≤ n ∧ n ≤ top w) ∧ x = ns.flatMap (le w.toNat) := by
  unfold fieldsB at h
  split at h
  · cases h
  · split at h
    · rename_i h1 h2
      refine ⟨by omega, fun n hn => ?_, (Option.some.inj h).symm⟩
      unfold inTop at h2
      simpa using List.all_eq_true.1 h2 n hn
    · cases h
end Go.Proofs.YtifoiiaddcgngaaGreatDoor
namespace Go.Proofs.YtifoiiaddcgngaaGreatDoor
open Go.RowKit
/-- The cells of one part of a row of parts. -/
theorem load_part {w : World} {b off : Nat} {ps : List PartV} (hc : ∀ i p, ps[i]? = some p → ∀ j v, p.cells[j]? = some v → w.cell? ⟨b, off + i * 9 + j, none⟩ = some v) (k : Nat) (p : PartV) (hp : ps[k]? = some p) :
    w.cell? ⟨b, off + k * 9, none⟩ = some (.int .i64 p.kind) ∧ w.cell? ⟨b, off + k * 9 + 1, none⟩ = some (.int .i64 p.width) ∧ w.cell? ⟨b, off + k * 9 + 2, none⟩ = some (.slice p.nA p.ns.length p.nc) ∧ w.cell? ⟨b, off + k * 9 + 3, none⟩ = some (.slice p.tA p.ts.length p.tc) ∧
    w.cell? ⟨b, off + k * 9 + 4, none⟩ = some (.int .i64 p.ent.index) ∧ w.cell? ⟨b, off + k * 9 + 5, none⟩ = some (.int .i64 p.ent.term) ∧ w.cell? ⟨b, off + k * 9 + 6, none⟩ = some (.int .i64 p.ent.kind) ∧ w.cell? ⟨b, off + k * 9 + 7, none⟩ = some (.slice p.bA p.ent.body.length p.bc) ∧ w.cell? ⟨b, off + k * 9 + 8, none⟩ = some (.int .i64 p.most) :=
  ⟨hc k p hp 0 _ rfl, hc k p hp 1 _ rfl, hc k p hp 2 _ rfl, hc k p hp 3 _ rfl, hc k p hp 4 _ rfl, hc k p hp 5 _ rfl, hc k p hp 6 _ rfl, hc k p hp 7 _ rfl, hc k p hp 8 _ rfl⟩
theorem flatMap_bd {k : Nat} {ns : List Int} : ∀ z ∈ ns.flatMap (le k), 0 ≤ z ∧ z < 256 := flat_bd k ns
theorem chain_bytes {w : World} {S : Nat → Prop} : ∀ {p : Option Addr} {l : List (List Int)}, Chain w S p l → ∀ zs ∈ l, ∀ z ∈ zs, 0 ≤ z ∧ z < 256
  | _, [], _ => fun zs h => by cases h
  | _, xs :: l, ⟨_, _, _, _, _, _, _, _, _, _, _, hz, h⟩ => fun zs hm => by
    rcases List.mem_cons.1 hm with rfl | hm
    · exact hz.1
    · exact chain_bytes h zs hm
theorem WrBytes {w : World} {S : Nat → Prop} {g : Nat} {b : List Int} (h : WrAt w S g (some b)) : ∀ z ∈ b, 0 ≤ z ∧ z < 256 := by
  obtain ⟨p, l, _, hc, rfl⟩ := h.cells
  intro z hz
  obtain ⟨zs, hm, hz⟩ := List.mem_flatten.1 hz
  exact chain_bytes hc zs (List.mem_reverse.1 hm) z hz
theorem part_len (p : PartV) (x : List Int) (h : partB p = some x) : x.length ≤ 15 * (1 + p.ns.length + p.ts.length + p.ent.body.length) := by
  unfold partB at h
  split at h
  · obtain ⟨ht, _, rfl⟩ := fieldsB_some h
    obtain ⟨_, h6⟩ := top_pos p.width ht
    rw [flat_len]
    have : p.width.toNat * p.ns.length ≤ 6 * p.ns.length := Nat.mul_le_mul_right _ (by omega)
    omega
  · split at h
    · unfold textB at h
      split at h
      · obtain rfl := Option.some.inj h
        rw [List.length_append, le_len]; omega
      · cases h
    · split at h
      · unfold rowB at h
        cases h1 : fieldsB 1 [(p.ns.length : Int)] with
        | none => rw [h1] at h; cases h
        | some y =>
          cases h2 : fieldsB 6 p.ns with
          | none => rw [h1, h2] at h; cases h
          | some z =>
            rw [h1, h2] at h
            obtain rfl := Option.some.inj h
            obtain ⟨_, _, rfl⟩ := fieldsB_some h1
            obtain ⟨_, _, rfl⟩ := fieldsB_some h2
            rw [List.length_append, flat_len, flat_len]
            have e1 : (1 : Int).toNat = 1 := rfl
            have e6 : (6 : Int).toNat = 6 := rfl
            simp only [List.length_cons, List.length_nil]
            rw [e1, e6]; omega
      · unfold entryB at h
        split at h
        · obtain rfl := Option.some.inj h
          simp only [List.length_append, le_len]; omega
        · cases h
theorem encTo_len (ps : List PartV) (k : Nat) (hk : k ≤ ps.length) : ∀ y, encTo ps k = some y → y.length ≤ 15 * tot (ps.take k) := by
  induction k with
  | zero => intro y h; simp [encTo] at h; subst h; simp
  | succ k ih =>
    intro y h
    obtain ⟨p, x, z, hp, hz, hx, rfl⟩ := encTo_back ps k (by omega) y h
    rw [tot_snoc ps k p hp, List.length_append]
    have := ih (by omega) z hz
    have := part_len p x hx
    omega
end Go.Proofs.YtifoiiaddcgngaaGreatDoor
