/- Blocks that are known whole; what grows. -/
import Derived.Test.YtgjdoiblgbdebaaDoorKitA
import Derived.Maps.AppendAt
namespace Go.Proofs.YtgjdoiblgbdebaaDoor
open Go.RowKit
/-- Block g is just these cells, none frozen. -/
def BlockIs (w : World) (g : Nat) (t : TypeId) (cs : Array Value) : Prop := w.heap[g]? = some (.cells cs t (0, 0))
section
variable {w w' : World} {g : Nat} {t : TypeId} {cs : Array Value}
theorem BlockIs.lt (h : BlockIs w g t cs) : g < w.heap.size := (Array.getElem?_eq_some_iff.1 h).1
theorem BlockIs.cell (h : BlockIs w g t cs) (i : Nat) : w.cell? ⟨g, i, none⟩ = cs[i]? := cell_of_row w g i cs t (0, 0) h
theorem BlockIs.free (h : BlockIs w g t cs) (i : Nat) : w.frozen? ⟨g, i, none⟩ = false := by
  unfold BlockIs at h
  simp [World.frozen?, h]
theorem BlockIs.made (w : World) (t : TypeId) (cs : Array Value) : BlockIs (w.alloc (.cells cs t)) w.heap.size t cs := heap_alloc_new w _
theorem BlockIs.kept (h : BlockIs w g t cs) {row : Option Nat} (hg : w.grownBy w' row) (hne : some g ≠ row) : BlockIs w' g t cs := (hg.block g h.lt hne).trans h
theorem BlockIs.below {B : Nat} (h : BlockIs w g t cs) (hb : Below B w w') (hg : g < B) : BlockIs w' g t cs := (hb.block g hg).trans h
theorem BlockIs.set1 (h : BlockIs w g t cs) (i : Nat) (u : Value) : BlockIs (w.setCell ⟨g, i, none⟩ u) g t (cs.setIfInBounds i u) := by
  unfold BlockIs at h ⊢
  simp [World.setCell, Array.getElem?_modify, h]
end
theorem grown_drewN {w w' : World} {row : Option Nat} (h : w.grownBy w' row) (n : Nat) : w.grownBy (w'.drewN n) row := ⟨h.os, h.tape, h.output, h.size, h.block⟩
theorem grown_set {w w' : World} {g : Nat} (h : w.grownBy w' (some g)) {a : Addr} (ha : a.block = g ∨ w.heap.size ≤ a.block) (u : Value) : w.grownBy (w'.setCell a u) (some g) :=
  ⟨h.os, h.tape, h.output, by simpa [World.setCell] using h.size, fun k hk hne => (Below.heap_setCell w' a u k (by
    rintro rfl
    rcases ha with rfl | ha
    · exact hne rfl
    · omega)).trans (h.block k hk hne)⟩
theorem grown_at {w w' : World} {g : Nat} (h : w.grownBy w' (some g)) (i : Nat) (u : Value) : w.grownBy (w'.setCell ⟨g, i, none⟩ u) (some g) := grown_set h (a := ⟨g, i, none⟩) (.inl rfl) u
theorem grown_alloc {w w' : World} {row : Option Nat} (h : w.grownBy w' row) (o : Obj) : w.grownBy (w'.alloc o) row :=
  ⟨h.os, h.tape, h.output, Nat.le_trans h.size (by simp), fun k hk hne => (Below.heap_alloc w' o k (Nat.lt_of_lt_of_le hk h.size)).trans (h.block k hk hne)⟩
theorem grown_below {w w' : World} (h : Below w.heap.size w w') (row : Option Nat) : w.grownBy w' row := ⟨h.os, h.tape, h.output, h.size, fun k hk _ => h.block k hk⟩
/-- Only block g, and what is new since, has turned: all below a block ahead of both stays. -/
theorem below_grown {B : Nat} {a w w' : World} {g : Nat} (h : Below B a w) (hg : w.grownBy w' (some g)) (hB : B ≤ w.heap.size) (hBg : B ≤ g) : Below B a w' :=
  h.grown hg hB (fun k e => by cases e; exact hBg)
theorem BytesAt.far {w w' : World} {A : Option Addr} {zs : List Int} {row : Option Nat} (h : BytesAt w A zs) (hg : w.grownBy w' row) (hne : ∀ a, A = some a → some a.block ≠ row) : BytesAt w' A zs :=
  ⟨h.1, fun hz => by
    obtain ⟨b, off, e, hc⟩ := h.2 hz
    exact ⟨b, off, e, fun i hi => hg.cell (hc i hi) (hne ⟨b, off, none⟩ e)⟩⟩
end Go.Proofs.YtgjdoiblgbdebaaDoor
