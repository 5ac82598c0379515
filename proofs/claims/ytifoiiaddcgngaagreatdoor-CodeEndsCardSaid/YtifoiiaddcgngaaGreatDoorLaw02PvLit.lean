/- Law 02, CodeEnds: a row of parts that is laid anew. -/
import Derived.Test.YtifoiiaddcgngaaGreatDoorLaw02Parts
import Derived.Test.YtifoiiaddcgngaaGreatDoorKitLentInts
namespace Go.Proofs.YtifoiiaddcgngaaGreatDoor
open Go.RowKit
theorem flat_at (ps : List PartV) : ∀ i p, ps[i]? = some p → ∀ j v, p.cells[j]? = some v → (ps.flatMap PartV.cells)[i * 9 + j]? = some v := by
  induction ps with
  | nil => intro i p h; simp at h
  | cons q qs ih =>
    intro i p h j v hv
    have hq : q.cells.length = 9 := rfl
    have hj : j < 9 := (List.getElem?_eq_some_iff.1 hv).1
    rw [List.flatMap_cons]
    cases i with
    | zero =>
      obtain rfl : q = p := by simpa using h
      rw [List.getElem?_append_left (by omega)]
      simpa using hv
    | succ i =>
      rw [List.getElem?_append_right (by omega), hq, show (i + 1) * 9 + j - 9 = i * 9 + j by omega]
      exact ih i p (by simpa using h) j v hv
theorem pv_lit (W : World) (ps : List PartV) (cs : Array Value) (hok : ∀ p ∈ ps, p.ok W) (hc : cs.toList = ps.flatMap PartV.cells) : PVAt (W.alloc (.cells cs 30)) (some ⟨W.heap.size, 0, none⟩) ps := by
  refine ⟨fun p hp => (hok p hp).below (below_new W _), fun _ => ⟨W.heap.size, 0, rfl, fun i p hp j v hv => ?_⟩⟩
  rw [World.cell?_alloc_new, Nat.zero_add, ← Array.getElem?_toList, hc]
  exact flat_at ps i p hp j v hv
/-- A part of fields, or of a row. -/
def numsV (kind width : Int) (A : Option Addr) (ns : List Int) (c : Nat) : PartV := ⟨kind, width, 0, noEnt, A, ns, c, none, [], 0, none, 0⟩
def askV (kind width most : Int) : PartV := ⟨kind, width, most, noEnt, none, [], 0, none, [], 0, none, 0⟩
theorem i64zr : i64ok 0 := ⟨by decide, by decide⟩
theorem i64ok_of {z : Int} (h0 : -9223372036854775808 ≤ z) (h1 : z ≤ 9223372036854775807) : i64ok z := ⟨h0, h1⟩
theorem nums_ok {w : World} {kind width : Int} {A : Option Addr} {ns : List Int} {c : Nat} (hk : i64ok kind) (hw : i64ok width) (h : IntsAt w A ns) (hl : ns.length ≤ 140737488351232) : (numsV kind width A ns c).ok w :=
  ⟨h, BytesAt.nil _ _, BytesAt.nil _ _, fun _ => rfl, fun _ => rfl, ⟨hk, hw, i64zr, i64zr, i64zr, i64zr⟩, ⟨hl, Nat.zero_le _, Nat.zero_le _⟩⟩
theorem ask_ok {w : World} {kind width most : Int} (hk : i64ok kind) (hw : i64ok width) (hm : i64ok most) : (askV kind width most).ok w :=
  ⟨IntsAt.nil _ _, BytesAt.nil _ _, BytesAt.nil _ _, fun _ => rfl, fun _ => rfl, ⟨hk, hw, hm, i64zr, i64zr, i64zr⟩, ⟨Nat.zero_le _, Nat.zero_le _, Nat.zero_le _⟩⟩
end Go.Proofs.YtifoiiaddcgngaaGreatDoor
