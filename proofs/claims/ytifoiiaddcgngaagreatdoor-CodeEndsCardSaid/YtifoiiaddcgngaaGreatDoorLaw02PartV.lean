/- Law 02's parts in memory. -/
import Derived.Test.YtifoiiaddcgngaaGreatDoorCodeBytes
import Derived.Test.YtifoiiaddcgngaaGreatDoorReadErr
import Derived.Test.YtifoiiaddcgngaaGreatDoorReadEntry
import Derived.Test.YtifoiiaddcgngaaGreatDoorKitSame
namespace Go.Proofs.YtifoiiaddcgngaaGreatDoor
open Go.RowKit
structure PartV where
  kind : Int
  width : Int
  most : Int
  ent : Ent
  nA : Option Addr
  ns : List Int
  nc : Nat
  tA : Option Addr
  ts : List Int
  tc : Nat
  bA : Option Addr
  bc : Nat
def PartV.cells (p : PartV) : List Value := [.int .i64 p.kind, .int .i64 p.width, .slice p.nA p.ns.length p.nc, .slice p.tA p.ts.length p.tc, .int .i64 p.ent.index, .int .i64 p.ent.term, .int .i64 p.ent.kind, .slice p.bA p.ent.body.length p.bc, .int .i64 p.most]
structure PartV.ok (w : World) (p : PartV) : Prop where
  ints : IntsAt w p.nA p.ns
  text : BytesAt w p.tA p.ts
  body : BytesAt w p.bA p.ent.body
  nn : p.tA = none → p.tc = 0
  nb : p.bA = none → p.bc = 0
  bd : i64ok p.kind ∧ i64ok p.width ∧ i64ok p.most ∧ i64ok p.ent.index ∧ i64ok p.ent.term ∧ i64ok p.ent.kind
  len : p.ns.length ≤ 140737488351232 ∧ p.ts.length ≤ 140737488351232 ∧ p.ent.body.length ≤ 140737488351232
theorem PartV.ok.below {w w' : World} {p : PartV} (h : p.ok w) (hb : Below w.heap.size w w') : p.ok w' := ⟨h.ints.below hb, h.text.below hb, h.body.below hb, h.nn, h.nb, h.bd, h.len⟩
/-- The optional address A is where these parts lie. -/
def PVAt (w : World) (A : Option Addr) (ps : List PartV) : Prop :=
  (∀ p ∈ ps, p.ok w) ∧ (ps ≠ [] → ∃ b off, A = some ⟨b, off, none⟩ ∧ ∀ i p, ps[i]? = some p → ∀ j v, p.cells[j]? = some v → w.cell? ⟨b, off + i * 9 + j, none⟩ = some v)
theorem PVAt.below {w w' : World} {A : Option Addr} {ps : List PartV} (h : PVAt w A ps) (hb : Below w.heap.size w w') : PVAt w' A ps :=
  ⟨fun p hp => (h.1 p hp).below hb, fun hne => by
    obtain ⟨b, off, e, hc⟩ := h.2 hne
    exact ⟨b, off, e, fun i p hp j v hv => cell_below (hc i p hp j v hv) hb⟩⟩
def partB (p : PartV) : Option (List Int) :=
  if p.kind % 4 = 0 then fieldsB p.width p.ns else if p.kind % 4 = 1 then textB p.ts else if p.kind % 4 = 2 then rowB p.ns else entryB p.ent
/-- What parts weigh, about. -/
def tot (ps : List PartV) : Nat := (ps.map fun p => 1 + p.ns.length + p.ts.length + p.ent.body.length).sum
theorem tot_snoc (ps : List PartV) (k : Nat) (p : PartV) (h : ps[k]? = some p) : tot (ps.take (k + 1)) = tot (ps.take k) + (1 + p.ns.length + p.ts.length + p.ent.body.length) := by
  unfold tot
  rw [List.take_add_one, h]; simp
theorem tot_part {ps : List PartV} {p : PartV} (h : p ∈ ps) : 1 + p.ns.length + p.ts.length + p.ent.body.length ≤ tot ps := by
  unfold tot
  induction ps with
  | nil => cases h
  | cons q qs ih =>
    rw [List.map_cons, List.sum_cons]
    rcases List.mem_cons.1 h with rfl | h
    · omega
    · have := ih h; omega
theorem tot_len (ps : List PartV) : ps.length ≤ tot ps := by
  induction ps with
  | nil => simp
  | cons p ps ih => unfold tot at *; simp only [List.map_cons, List.sum_cons, List.length_cons]; omega
theorem part_cells {w : World} {g : Nat} {p : PartV} (h : BlockIs w g 30 p.cells.toArray) :
    w.cell? ⟨g, 0, none⟩ = some (.int .i64 p.kind) ∧ w.cell? ⟨g, 1, none⟩ = some (.int .i64 p.width) ∧ w.cell? ⟨g, 2, none⟩ = some (.slice p.nA p.ns.length p.nc) ∧ w.cell? ⟨g, 3, none⟩ = some (.slice p.tA p.ts.length p.tc) ∧
    w.cell? ⟨g, 4, none⟩ = some (.int .i64 p.ent.index) ∧ w.cell? ⟨g, 5, none⟩ = some (.int .i64 p.ent.term) ∧ w.cell? ⟨g, 6, none⟩ = some (.int .i64 p.ent.kind) ∧ w.cell? ⟨g, 7, none⟩ = some (.slice p.bA p.ent.body.length p.bc) ∧ w.cell? ⟨g, 8, none⟩ = some (.int .i64 p.most) :=
  ⟨h.cell 0, h.cell 1, h.cell 2, h.cell 3, h.cell 4, h.cell 5, h.cell 6, h.cell 7, h.cell 8⟩
theorem mod4 (x : Int) : x % 4 = 0 ∨ x % 4 = 1 ∨ x % 4 = 2 ∨ x % 4 = 3 := by omega
end Go.Proofs.YtifoiiaddcgngaaGreatDoor
