/- Blocks that are known whole; what a writer has in memory; its small functions. -/
import Derived.Test.YtoddcjpfldpnfaaDoorKitBlock
import Derived.Test.YtoddcjpfldpnfaaDoorCodeMath
import Derived.Maps.AppendAt
import Derived.Deep.AppendLies
namespace Go.Proofs.YtoddcjpfldpnfaaDoor
open Go.RowKit
/-- A row's block is none of these. -/
def OffOf (S : Nat → Prop) (A : Option Addr) : Prop := ∀ a, A = some a → S a.block
/-- The pieces of a writer, the last one first: their blocks are all in S. -/
def Chain (w : World) (S : Nat → Prop) : Option Addr → List (List Int) → Prop
  | p, [] => p = none
  | p, zs :: rest => ∃ (g : Nat) (ahead : Option Addr) (x cap : Nat), p = some ⟨g, 0, none⟩ ∧ S g ∧ S x ∧ zs ≠ [] ∧ zs.length ≤ cap ∧ cap ≤ 9223372036854775807 ∧
      BlockIs w g 71 #[.pointer ahead, .slice (some ⟨x, 0, none⟩) zs.length cap] ∧ BytesAt w (some ⟨x, 0, none⟩) zs ∧ Chain w S ahead rest
theorem Chain.mono {w : World} {S S' : Nat → Prop} (hS : ∀ k, S k → S' k) : ∀ {p : Option Addr} {l : List (List Int)}, Chain w S p l → Chain w S' p l
  | _, [], h => h
  | _, _ :: _, ⟨g, a, x, cap, h1, h2, h3, h4, h5, h6, h7, h8, h9⟩ => ⟨g, a, x, cap, h1, hS _ h2, hS _ h3, h4, h5, h6, h7, h8, Chain.mono hS h9⟩
theorem Chain.kept {w w' : World} {S : Nat → Prop} {row : Option Nat} (hg : w.grownBy w' row) (hS : ∀ k, S k → some k ≠ row) : ∀ {p : Option Addr} {l : List (List Int)}, Chain w S p l → Chain w' S p l
  | _, [], h => h
  | _, _ :: _, ⟨g, a, x, cap, h1, h2, h3, h4, h5, h6, h7, h8, h9⟩ => ⟨g, a, x, cap, h1, h2, h3, h4, h5, h6, h7.kept hg (hS _ h2), h8.far hg (fun a e => by cases e; exact hS _ h3), Chain.kept hg hS h9⟩
theorem Chain.lt {w : World} {S : Nat → Prop} {p : Option Addr} {zs : List Int} {l : List (List Int)} (h : Chain w S p (zs :: l)) : ∃ g, p = some ⟨g, 0, none⟩ ∧ g < w.heap.size := by
  obtain ⟨g, a, x, cap, h1, _, _, _, _, _, h7, _⟩ := h
  exact ⟨g, h1, h7.lt⟩
/-- What a writer has in memory, by its bytes; none: it is spoilt. -/
def WrCells (w : World) (S : Nat → Prop) (g : Nat) : Option (List Int) → Prop
  | none => ∃ p, BlockIs w g 32 #[.pointer p, .bool true]
  | some bs => ∃ p l, BlockIs w g 32 #[.pointer p, .bool false] ∧ Chain w S p l ∧ bs = l.reverse.flatten
/-- The writer in block g has these bytes, or none (it is spoilt); what it has besides lies in S, blocks that are there, and not g. -/
structure WrAt (w : World) (S : Nat → Prop) (g : Nat) (s : Option (List Int)) : Prop where
  foot : ∀ k, S k → k ≠ g ∧ k < w.heap.size
  cells : WrCells w S g s
/-- S, and what is new. -/
def grow (S : Nat → Prop) (w w' : World) : Nat → Prop := fun k => S k ∨ (w.heap.size ≤ k ∧ k < w'.heap.size)
theorem WrAt.isBlock {w : World} {S : Nat → Prop} {g : Nat} {s : Option (List Int)} (h : WrAt w S g s) : ∃ p, BlockIs w g 32 #[.pointer p, .bool s.isNone] := by
  cases s with
  | none => exact h.cells
  | some bs => obtain ⟨p, l, h, _⟩ := h.cells; exact ⟨p, h⟩
theorem WrAt.lt {w : World} {S : Nat → Prop} {g : Nat} {s : Option (List Int)} (h : WrAt w S g s) : g < w.heap.size := by
  obtain ⟨p, h⟩ := h.isBlock; exact h.lt
theorem WrAt.mono {w : World} {S S' : Nat → Prop} {g : Nat} {s : Option (List Int)} (h : WrAt w S g s) (hS : ∀ k, S k → S' k) (hf : ∀ k, S' k → k ≠ g ∧ k < w.heap.size) : WrAt w S' g s :=
  ⟨hf, by
    cases s with
    | none => exact h.cells
    | some bs => obtain ⟨p, l, h1, h2, h3⟩ := h.cells; exact ⟨p, l, h1, h2.mono hS, h3⟩⟩
theorem WrAt.kept {w w' : World} {S : Nat → Prop} {g : Nat} {s : Option (List Int)} {row : Option Nat} (h : WrAt w S g s) (hg : w.grownBy w' row) (h0 : some g ≠ row) (hS : ∀ k, S k → some k ≠ row) : WrAt w' S g s :=
  ⟨fun k hk => ⟨(h.foot k hk).1, Nat.lt_of_lt_of_le (h.foot k hk).2 hg.size⟩, by
    cases s with
    | none => obtain ⟨p, h⟩ := h.cells; exact ⟨p, h.kept hg h0⟩
    | some bs => obtain ⟨p, l, h1, h2, h3⟩ := h.cells; exact ⟨p, l, h1.kept hg h0, h2.kept hg hS, h3⟩⟩
theorem WrAt.below {w w' : World} {S : Nat → Prop} {g : Nat} {s : Option (List Int)} (h : WrAt w S g s) (hb : Below w.heap.size w w') : WrAt w' S g s :=
  h.kept (grown_below hb none) (by simp) (fun _ _ => by simp)
theorem grow_trans {S : Nat → Prop} {w w1 w2 : World} (h1 : w.heap.size ≤ w1.heap.size) (h2 : w1.heap.size ≤ w2.heap.size) : ∀ k, grow (grow S w w1) w1 w2 k → grow S w w2 k := by
  rintro k ((h | h) | h)
  · exact .inl h
  · exact .inr ⟨h.1, by omega⟩
  · exact .inr ⟨by omega, h.2⟩
theorem grow_foot {S : Nat → Prop} {w w' : World} {g : Nat} (hf : ∀ k, S k → k ≠ g ∧ k < w.heap.size) (hg : g < w.heap.size) (hs : w.heap.size ≤ w'.heap.size) : ∀ k, grow S w w' k → k ≠ g ∧ k < w'.heap.size := by
  rintro k (h | h)
  · exact ⟨(hf k h).1, by have := (hf k h).2; omega⟩
  · exact ⟨by omega, h.2⟩
/-- What a call that puts something leaves. -/
structure Put (w : World) (S : Nat → Prop) (g : Nat) (s : Option (List Int)) (w' : World) : Prop where
  wr : WrAt w' (grow S w w') g s
  fr : w.grownBy w' (some g)
theorem Put.trans {w w1 w2 : World} {S : Nat → Prop} {g : Nat} {s1 s2 : Option (List Int)} (h : Put w S g s1 w1) (k : Put w1 (grow S w w1) g s2 w2) (hf : ∀ k, S k → k ≠ g ∧ k < w.heap.size) (hg : g < w.heap.size) : Put w S g s2 w2 :=
  ⟨k.wr.mono (grow_trans h.fr.size k.fr.size) (grow_foot hf hg (Nat.le_trans h.fr.size k.fr.size)), h.fr.trans k.fr⟩
/-- First something that turns nothing, then a call that puts. -/
theorem Put.after {w w1 w2 : World} {S : Nat → Prop} {g : Nat} {s : Option (List Int)} (hb : Below w.heap.size w w1) (k : Put w1 S g s w2) (hf : ∀ k, S k → k ≠ g ∧ k < w.heap.size) (hg : g < w.heap.size) : Put w S g s w2 :=
  ⟨k.wr.mono (by
    rintro k (h | h)
    · exact .inl h
    · exact .inr ⟨by have := hb.size; omega, h.2⟩) (grow_foot hf hg (Nat.le_trans hb.size k.fr.size)), (grown_below hb _).trans k.fr⟩
theorem Put.same {w : World} {S : Nat → Prop} {g : Nat} {s : Option (List Int)} (h : WrAt w S g s) : Put w S g s w :=
  ⟨h.mono (fun _ h => .inl h) (by
    rintro k (hk | hk)
    · exact h.foot k hk
    · omega), World.grownBy.refl _ _⟩
set_option maxRecDepth 100000 in
theorem greatest_any (n : Int) (w : World) :
    Calls Tryd.prog 47 #[.int .i64 n] w fun e w' => e = .returned (.int .i64 (top n)) ∧ w = w' := by
  rcases top_cases n with ⟨rfl, h⟩ | ⟨rfl, h⟩ | ⟨rfl, h⟩ | ⟨rfl, h⟩ | ⟨h1, h2, h4, h6, h⟩
  all_goals have H := Lib.hid h; clear h
  · go_enter Tryd.func47, Tryd.ntmps47
    go_wp2
    go_ret
    exact ⟨ret_int H.out.symm, rfl⟩
  · go_enter Tryd.func47, Tryd.ntmps47
    go_wp2
    go_ret
    exact ⟨ret_int H.out.symm, rfl⟩
  · go_enter Tryd.func47, Tryd.ntmps47
    go_wp2
    go_ret
    exact ⟨ret_int H.out.symm, rfl⟩
  · go_enter Tryd.func47, Tryd.ntmps47
    go_wp2
    go_ret
    exact ⟨ret_int H.out.symm, rfl⟩
  · have b1 : (n == 1) = false := by simpa using h1
    have b2 : (n == 2) = false := by simpa using h2
    have b4 : (n == 4) = false := by simpa using h4
    have b6 : (n == 6) = false := by simpa using h6
    clear h1 h2 h4 h6
    go_enter Tryd.func47, Tryd.ntmps47
    go_wp2
    go_ret
    exact ⟨ret_int H.out.symm, rfl⟩
theorem whole_is (w : World) (g : Nat) (p : Option Addr) (b : Bool) (h : BlockIs w g 32 #[.pointer p, .bool b]) :
    Calls Tryd.prog 37 #[.pointer (some ⟨g, 0, none⟩)] w fun e w' => e = .returned (.bool (!b)) ∧ w = w' := by
  have c1 : w.cell? ⟨g, 1, none⟩ = some (.bool b) := h.cell 1
  go_enter Tryd.func37, Tryd.ntmps37
  go_wp2
  go_ret
  exact ⟨rfl, rfl⟩
theorem whole_nil (w : World) :
    Calls Tryd.prog 37 #[.pointer none] w fun e w' => e = .returned (.bool false) ∧ w = w' := by
  go_enter Tryd.func37, Tryd.ntmps37
  go_wp2
  go_ret
  exact ⟨rfl, rfl⟩
end Go.Proofs.YtoddcjpfldpnfaaDoor
