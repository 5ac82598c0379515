/- Rows of bytes that lie apart, in a row of their headers. -/
import Derived.Test.YtmmebaphhgggfaaGreatDoorKitApart
namespace Go.Proofs.YtmmebaphhgggfaaGreatDoor
open Go.RowKit
def upd (c : Nat → List Int) (k : Nat) (ys : List Int) : Nat → List Int := fun j => if j = k then ys else c j
theorem upd_same (c : Nat → List Int) (k : Nat) (ys : List Int) : upd c k ys k = ys := if_pos rfl
theorem upd_other (c : Nat → List Int) (k j : Nat) (ys : List Int) (h : j ≠ k) : upd c k ys j = c j := if_neg h
/-- The headers vs in a row of colour o; the rows that are told of, of colours of their own, with their bytes. -/
structure RowsAt (col : Nat → Nat) (B o K : Nat) (lv : Value) (vs : List Value) (ok : Nat → Prop) (c : Nat → List Int) (w : World) : Prop where
  len : vs.length = K
  outer : w.ownsRow B 23 1 lv K vs
  ocol : Col col lv o
  row : ∀ k v, vs[k]? = some v → ok k → w.ownsRow B 5 1 v (c k).length (u8s (c k)) ∧ Col col v (k + 2)
section
variable {col : Nat → Nat} {B o K : Nat} {lv : Value} {vs : List Value} {ok : Nat → Prop} {c : Nat → List Int} {w w' : World}
theorem RowsAt.lt (h : RowsAt col B o K lv vs ok c w) {k : Nat} {v : Value} (hv : vs[k]? = some v) : k < K := by rw [← h.len]; exact (List.getElem?_eq_some_iff.1 hv).1
theorem RowsAt.far (h : RowsAt col B o K lv vs ok c w) {row : Option Nat} (hg : w.grownBy w' row) (hr : ∀ b, row = some b → col b ≠ o ∧ ∀ k, k < K → ok k → col b ≠ k + 2) : RowsAt col B o K lv vs ok c w' := by
  refine ⟨h.len, h.outer.kept hg ?_, h.ocol, fun k v hv hk => ⟨(h.row k v hv hk).1.kept hg ?_, (h.row k v hv hk).2⟩⟩
  · cases hb : lv.ownBlock with
    | none => exact .inl rfl
    | some b => exact .inr fun e => (hr b e.symm).1 (h.ocol b hb)
  · cases hb : v.ownBlock with
    | none => exact .inl rfl
    | some b => exact .inr fun e => (hr b e.symm).2 k (h.lt hv) hk ((h.row k v hv hk).2 b hb)
theorem RowsAt.below (h : RowsAt col B o K lv vs ok c w) (hb : Below w.heap.size w w') : RowsAt col B o K lv vs ok c w' := h.far (grown_of_below hb) (fun b e => by cases e)
theorem RowsAt.alloc (h : RowsAt col B o K lv vs ok c w) (x : Obj) : RowsAt col B o K lv vs ok c (w.alloc x) := h.far (World.grownBy_alloc w x none) (fun b e => by cases e)
theorem RowsAt.paint (h : RowsAt col B o K lv vs ok c w) (d : Nat) : RowsAt (paint col w.heap.size d) B o K lv vs ok c w :=
  ⟨h.len, h.outer, h.ocol.paint h.outer d, fun k v hv hk => ⟨(h.row k v hv hk).1, (h.row k v hv hk).2.paint (h.row k v hv hk).1 d⟩⟩
theorem RowsAt.weak (h : RowsAt col B o K lv vs ok c w) {ok' : Nat → Prop} (hk : ∀ k, k < K → ok' k → ok k) : RowsAt col B o K lv vs ok' c w := ⟨h.len, h.outer, h.ocol, fun k v hv h' => h.row k v hv (hk k (h.lt hv) h')⟩
theorem RowsAt.cong (h : RowsAt col B o K lv vs ok c w) {c' : Nat → List Int} (hc : ∀ k, k < K → ok k → c' k = c k) : RowsAt col B o K lv vs ok c' w := ⟨h.len, h.outer, h.ocol, fun k v hv h' => by rw [hc k (h.lt hv) h']; exact h.row k v hv h'⟩
/-- One row is told of anew. -/
theorem RowsAt.tell (h : RowsAt col B o K lv vs ok c w) {k : Nat} {v : Value} {ys : List Int} (hv : vs[k]? = some v) (ho : w.ownsRow B 5 1 v ys.length (u8s ys)) (hc : Col col v (k + 2)) : RowsAt col B o K lv vs (fun j => ok j ∨ j = k) (upd c k ys) w := by
  refine ⟨h.len, h.outer, h.ocol, fun j u hu hj => ?_⟩
  by_cases e : j = k
  · subst e
    rw [hv] at hu
    obtain rfl := Option.some.inj hu
    rw [upd_same]; exact ⟨ho, hc⟩
  · rw [upd_other _ _ _ _ e]
    exact h.row j u hu (hj.resolve_right e)
/-- One row's bytes turn. -/
theorem RowsAt.turn (h : RowsAt col B o K lv vs ok c w) {k : Nat} {v : Value} {ys : List Int} {row : Option Nat} (hv : vs[k]? = some v) (hg : w.grownBy w' row) (hr : ∀ b, row = some b → col b = k + 2) (ho2 : o < 2) (hk : ok k) (ho : w'.ownsRow B 5 1 v ys.length (u8s ys)) : RowsAt col B o K lv vs ok (upd c k ys) w' := by
  have h1 : RowsAt col B o K lv vs (fun j => ok j ∧ j ≠ k) c w' := (h.weak (ok' := fun j => ok j ∧ j ≠ k) (fun _ _ h => h.1)).far hg (fun b e => ⟨by rw [hr b e]; omega, fun j _ hj => by rw [hr b e]; have := hj.2; omega⟩)
  refine (h1.tell hv ho (h.row k v hv hk).2).weak fun j _ hj => ?_
  by_cases e : j = k
  · exact .inr e
  · exact .inl ⟨hj, e⟩
/-- One header turns. -/
theorem RowsAt.head {g cap : Nat} (h : RowsAt col B o K (.slice (some ⟨g, 0, none⟩) K cap) vs ok c w) (ho2 : o < 2) (k : Nat) (v : Value) (hk : ¬ ok k) :
    RowsAt col B o K (.slice (some ⟨g, 0, none⟩) K cap) (vs.set k v) ok c (w.setCell ⟨g, k, none⟩ v) ∧ w.grownBy (w.setCell ⟨g, k, none⟩ v) (some g) := by
  obtain ⟨s1, s2⟩ := h.outer.stored k v
  refine ⟨⟨by rw [List.length_set]; exact h.len, s1, h.ocol, fun j u hu hj => ?_⟩, s2⟩
  have hjk : k ≠ j := by rintro rfl; exact hk hj
  rw [List.getElem?_set_ne hjk] at hu
  obtain ⟨r1, r2⟩ := h.row j u hu hj
  refine ⟨r1.kept s2 ?_, r2⟩
  have hc := h.ocol g rfl
  cases hb : u.ownBlock with
  | none => exact .inl rfl
  | some b =>
    refine .inr fun e => ?_
    have h2 := r2 b hb
    obtain rfl := Option.some.inj e
    omega
end
theorem getD_of {α : Type} (l : List α) (k : Nat) (x y : α) (h : l[k]? = some x) : l.getD k y = x := by rw [List.getD_eq_getElem?_getD, h]; rfl
theorem own_cell {w : World} {B n cap g : Nat} {zs : List Int} (h : w.ownsRow B 5 1 (.slice (some ⟨g, 0, none⟩) n cap) n (u8s zs)) (i : Nat) (hi : i < n) : ∃ z, zs[i]? = some z ∧ w.cell? ⟨g, i, none⟩ = some (.int .u8 z) := by
  have hl : zs.length = n := by have := h.1; rw [u8s_len] at this; omega
  refine ⟨zs[i], List.getElem?_eq_getElem (by omega), ?_⟩
  rw [h.cellAt i (by omega)]
  simp [u8s, List.getElem?_eq_getElem (show i < zs.length by omega)]
theorem upd_upd (c : Nat → List Int) (k : Nat) (xs ys : List Int) : upd (upd c k xs) k ys = upd c k ys := by
  funext j; unfold upd; split <;> rfl
theorem upd_self (c : Nat → List Int) (k : Nat) : upd c k (c k) = c := by
  funext j; unfold upd; split <;> simp_all
/-- One byte of a row turns. -/
theorem RowsAt.put {col : Nat → Nat} {B o K g n cap k : Nat} {lv : Value} {vs : List Value} {ok : Nat → Prop} {c : Nat → List Int} {ys : List Int} {w : World} (h : RowsAt col B o K lv vs ok (upd c k ys) w) (ho2 : o < 2) (hv : vs[k]? = some (.slice (some ⟨g, 0, none⟩) n cap)) (hk : ok k) (hn : ys.length = n) (q : Nat) (m : Int) :
    RowsAt col B o K lv vs ok (upd c k (ys.set q m)) (w.setCell ⟨g, q, none⟩ (.int .u8 m)) ∧ w.grownBy (w.setCell ⟨g, q, none⟩ (.int .u8 m)) (some g) ∧ B ≤ g ∧ col g = k + 2 := by
  obtain ⟨r1, r2⟩ := h.row k _ hv hk
  rw [upd_same, hn] at r1
  obtain ⟨s1, s2⟩ := r1.stored q (.int .u8 m)
  rw [u8s_set] at s1
  have hc := r2 g rfl
  have h2 := h.turn (ys := ys.set q m) hv s2 (fun b e => by cases e; exact hc) ho2 hk (by rw [List.length_set, hn]; exact s1)
  rw [upd_upd] at h2
  exact ⟨h2, s2, (r1.lt g rfl).1, hc⟩
theorem take_set {l : List Int} {q : Nat} {a : List Int} (m : Int) (h : l.take q = a) (hq : q < l.length) : (l.set q m).take (q + 1) = a ++ [m] := by
  rw [List.take_add_one, List.take_set_of_le (Nat.le_refl q), h, List.getElem?_set_self hq]; rfl
/-- A row's header and one of its bytes. -/
theorem RowsAt.look {col : Nat → Nat} {B o K k L cap : Nat} {vs : List Value} {ok : Nat → Prop} {c : Nat → List Int} {w : World} (h : RowsAt col B o K (.slice (some ⟨L, 0, none⟩) K cap) vs ok c w) (hk : k < K) (hok : ok k) :
    ∃ V vc, w.cell? ⟨L, k, none⟩ = some (.slice V (c k).length vc) ∧ vs[k]? = some (.slice V (c k).length vc) ∧ (c k).length ≤ vc ∧ vc ≤ 9223372036854775807 ∧ ∀ i, i < (c k).length → ∃ g, V = some ⟨g, 0, none⟩ ∧ w.cell? ⟨g, i, none⟩ = some (.int .u8 ((c k).getD i 0)) := by
  obtain ⟨v, hv⟩ : ∃ v, vs[k]? = some v := ⟨_, List.getElem?_eq_getElem (by rw [h.len]; exact hk)⟩
  have hr := (h.row k v hv hok).1
  obtain ⟨V, vc, rfl, h1, h2⟩ := own_slice hr
  refine ⟨V, vc, by rw [h.outer.cellAt k (by omega), hv], hv, h1, h2, fun i hi => ?_⟩
  obtain ⟨g, cp, e, _⟩ := own_form hr (by omega)
  obtain ⟨rfl, rfl⟩ : V = some ⟨g, 0, none⟩ ∧ vc = cp := by simpa using e
  obtain ⟨z, hz, hc⟩ := own_cell hr i hi
  exact ⟨g, rfl, by rw [hc, getD_of _ _ _ _ hz]⟩
theorem mkRow_getD (k n i : Nat) (h : i < n) : (mkRow k n).getD i 0 = mkB k i := getD_of _ _ _ _ (mkRow_at k n i h)
/-- A longer look at row k is grown: what happens to all rows. -/
theorem flat_grow {col : Nat → Nat} {B K k m : Nat} {lv gv g g' v : Value} {vs us : List Value} {ok : Nat → Prop} {c d : Nat → List Int} {xs : List Value} {w w' : World}
    (hL : RowsAt col B 0 K lv vs (fun _ => True) c w) (hG : RowsAt col B 1 K gv us ok d w) (hv : vs[k]? = some v) (hk : ¬ ok k) (ho : w.ownsRow B 5 1 g m xs) (hm : (c k).length ≤ m) (hc : Col col g (k + 2))
    (h2 : w'.ownsRow B 5 1 g m xs) (h3 : w.grownBy w' g.ownBlock) (h4 : ∀ b, g'.ownBlock = some b → g.ownBlock = some b ∨ w.heap.size ≤ b) :
    RowsAt (paint col w.heap.size (k + 2)) B 0 K lv vs (fun _ => True) c w' ∧ RowsAt (paint col w.heap.size (k + 2)) B 1 K gv us ok d w' ∧ Col (paint col w.heap.size (k + 2)) g' (k + 2) := by
  have hc' := hc.paint ho (k + 2)
  refine ⟨?_, ?_, ?_⟩
  · have hp := hL.paint (k + 2)
    obtain ⟨r1, r2⟩ := hL.row k v hv trivial
    have r3 : w'.ownsRow B 5 1 v (c k).length (u8s (c k)) := by
      by_cases e : g.ownBlock = v.ownBlock
      · exact own_short r1 ho e hm h2
      · refine r1.kept h3 ?_
        cases hb : v.ownBlock with
        | none => exact .inl rfl
        | some b => exact .inr (fun h => e (by rw [hb, h]))
    have := hp.turn hv h3 (fun b e => hc' b e) (by decide) trivial r3
    rwa [upd_self] at this
  · refine (hG.paint (k + 2)).far h3 (fun b e => ?_)
    have := hc' b e
    refine ⟨by omega, fun j _ hj => ?_⟩
    have hjk : j ≠ k := by rintro rfl; exact hk hj
    omega
  · intro b hb
    rcases h4 b hb with h | h
    · exact hc' b h
    · unfold paint; rw [if_pos h]
/-- What is grown is kept among the grown ones. -/
theorem flat_keep {col : Nat → Nat} {B K k m G cap : Nat} {lv g : Value} {vs us : List Value} {ok : Nat → Prop} {c d : Nat → List Int} {xs : List Int} {w : World}
    (hL : RowsAt col B 0 K lv vs (fun _ => True) c w) (hG : RowsAt col B 1 K (.slice (some ⟨G, 0, none⟩) K cap) us ok d w) (hk : ¬ ok k) (hkK : k < K) (ho : w.ownsRow B 5 1 g m (u8s xs)) (hc : Col col g (k + 2)) :
    RowsAt col B 0 K lv vs (fun _ => True) c (w.setCell ⟨G, k, none⟩ g) ∧ RowsAt col B 1 K (.slice (some ⟨G, 0, none⟩) K cap) (us.set k g) (fun j => ok j ∨ j = k) (upd d k xs) (w.setCell ⟨G, k, none⟩ g) ∧ w.grownBy (w.setCell ⟨G, k, none⟩ g) (some G) ∧ B ≤ G := by
  obtain ⟨s1, s2⟩ := hG.head (by decide) k g hk
  have hcG : col G = 1 := hG.ocol G rfl
  refine ⟨hL.far s2 (fun b e => ?_), s1.tell (List.getElem?_set_self (by rw [hG.len]; exact hkK)) ?_ hc, s2, (hG.outer.lt G rfl).1⟩
  · cases e
    exact ⟨by omega, fun j _ _ => by omega⟩
  · have hl : xs.length = m := by have := ho.1; rw [u8s_len] at this; omega
    rw [hl]
    refine ho.kept s2 ?_
    cases hb : g.ownBlock with
    | none => exact .inl rfl
    | some b =>
      refine .inr fun e => ?_
      have h2 := hc b hb
      obtain rfl := Option.some.inj e
      omega
end Go.Proofs.YtmmebaphhgggfaaGreatDoor
