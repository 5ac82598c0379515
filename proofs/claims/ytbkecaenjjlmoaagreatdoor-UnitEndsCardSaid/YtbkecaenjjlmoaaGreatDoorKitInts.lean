/- Rows of numbers in memory. -/
import Derived.Test.YtbkecaenjjlmoaaGreatDoorKitChg
import Derived.Maps.AppendAt
namespace Go.Proofs.YtbkecaenjjlmoaaGreatDoor
open Go.RowKit
def i64ok (z : Int) : Prop := -9223372036854775808 ≤ z ∧ z ≤ 9223372036854775807
/-- The optional address A is where these numbers lie. -/
def IntsAt (w : World) (A : Option Addr) (zs : List Int) : Prop :=
  (∀ z ∈ zs, -9223372036854775808 ≤ z ∧ z ≤ 9223372036854775807) ∧ (zs ≠ [] → ∃ b off, A = some ⟨b, off, none⟩ ∧ ∀ i, i < zs.length → w.cell? ⟨b, off + i, none⟩ = some (.int .i64 (zs.getD i 0)))
def i64s (zs : List Int) : List Value := zs.map (Value.int .i64)
theorem i64s_len (xs : List Int) : (i64s xs).length = xs.length := by unfold i64s; simp
theorem IntsAt.nil (w : World) (A : Option Addr) : IntsAt w A [] := ⟨(fun z hz => by cases hz), (fun h => absurd rfl h)⟩
theorem IntsAt.drewN {w : World} {A : Option Addr} {zs : List Int} (h : IntsAt w A zs) (n : Nat) : IntsAt (w.drewN n) A zs := h
theorem IntsAt.some_ {w : World} {A : Option Addr} {zs : List Int} (h : IntsAt w A zs) (hne : zs ≠ []) : ∃ b off, A = some ⟨b, off, none⟩ := by
  obtain ⟨b, off, e, _⟩ := h.2 hne
  exact ⟨b, off, e⟩
theorem IntsAt.one {w : World} {b off : Nat} {zs : List Int} (h : IntsAt w (some ⟨b, off, none⟩) zs) (i : Nat) (hi : i < zs.length) : w.cell? ⟨b, off + i, none⟩ = some (.int .i64 (zs.getD i 0)) := by
  obtain ⟨b', off', e, hc⟩ := h.2 (by intro e; simp [e] at hi)
  obtain ⟨rfl, rfl⟩ : b = b' ∧ off = off' := by simpa using e
  exact hc i hi
theorem IntsAt.bd {w : World} {A : Option Addr} {zs : List Int} (h : IntsAt w A zs) (i : Nat) (hi : i < zs.length) : -9223372036854775808 ≤ zs.getD i 0 ∧ zs.getD i 0 ≤ 9223372036854775807 := by
  rw [List.getD_eq_getElem?_getD, List.getElem?_eq_getElem hi]; exact h.1 _ (List.getElem_mem hi)
theorem IntsAt.far {w w' : World} {A : Option Addr} {zs : List Int} {row : Option Nat} (h : IntsAt w A zs) (hg : w.grownBy w' row) (hne : ∀ a, A = some a → some a.block ≠ row) : IntsAt w' A zs :=
  ⟨h.1, fun hz => by
    obtain ⟨b, off, e, hc⟩ := h.2 hz
    exact ⟨b, off, e, fun i hi => hg.cell (hc i hi) (hne ⟨b, off, none⟩ e)⟩⟩
theorem IntsAt.below {w w' : World} {A : Option Addr} {zs : List Int} (h : IntsAt w A zs) (hb : Below w.heap.size w w') : IntsAt w' A zs :=
  ⟨h.1, fun hne => by
    obtain ⟨b, off, e, hc⟩ := h.2 hne
    exact ⟨b, off, e, fun i hi => (hb.cell (p := ⟨b, off + i, none⟩) (World.block_lt_of_cell? _ _ (hc i hi))).trans (hc i hi)⟩⟩
theorem intsAt_lit (W : World) (zs : List Int) (hr : ∀ z ∈ zs, -9223372036854775808 ≤ z ∧ z ≤ 9223372036854775807) : IntsAt (W.alloc (.cells (i64s zs).toArray 3)) (some ⟨W.heap.size, 0, none⟩) zs := by
  refine ⟨hr, fun _ => ⟨W.heap.size, 0, rfl, fun i hi => ?_⟩⟩
  rw [World.cell?_alloc_new, Nat.zero_add, List.getElem?_toArray]
  unfold i64s
  rw [List.getElem?_map, List.getD_eq_getElem?_getD, List.getElem?_eq_getElem hi]; rfl
theorem infoInt : (Tryz.prog.info? 3).map (fun i => (i.zero, i.size, i.bytes)) = some (some (.int .i64 0), 1, 8) := by kernel_rfl
theorem own_ints {w : World} {B n cap : Nat} {X : Option Addr} {zs : List Int} (h : w.ownsRow B 3 1 (.slice X n cap) n (i64s zs)) (hr : ∀ z ∈ zs, -9223372036854775808 ≤ z ∧ z ≤ 9223372036854775807) : IntsAt w X zs := by
  refine ⟨hr, fun hne => ?_⟩
  have hl : zs.length = n := by have := h.1; rw [i64s_len] at this; omega
  have hn : 0 < n := by rw [← hl]; exact List.length_pos_iff.2 hne
  obtain ⟨g, c, e, _⟩ := own_form h hn
  obtain ⟨rfl, rfl⟩ : X = some ⟨g, 0, none⟩ ∧ cap = c := by simpa using e
  refine ⟨g, 0, rfl, fun i hi => ?_⟩
  rw [Nat.zero_add, h.cellAt i (by omega)]
  simp [i64s, List.getD_eq_getElem?_getD, List.getElem?_eq_getElem hi]
end Go.Proofs.YtbkecaenjjlmoaaGreatDoor
