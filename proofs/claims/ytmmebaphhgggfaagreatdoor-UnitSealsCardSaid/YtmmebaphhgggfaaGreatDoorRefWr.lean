/- The document's own writer (limpetref02), in memory: its bytes lie in one block, which grows. -/
import Derived.Test.YtmmebaphhgggfaaGreatDoorCodeLay
import Derived.Test.YtmmebaphhgggfaaGreatDoorKitInts
import Derived.Laws.AppendOwnNone
namespace Go.Proofs.YtmmebaphhgggfaaGreatDoor
open Go.RowKit
/-- The writer's two cells, and its bytes' block. -/
structure RefC (w : World) (T : Nat → Prop) (h : Nat) (bv : Value) (bs : List Int) (sp : Bool) : Prop where
  foot : ∀ k, T k → k < w.heap.size
  self : T h
  blk : BlockIs w h 59 #[bv, .bool sp]
  own : w.ownsRow 0 5 1 bv bs.length (u8s bs)
  off : bv.ownBlock ≠ some h
  mem : ∀ b, bv.ownBlock = some b → T b
  bd : ∀ z ∈ bs, 0 ≤ z ∧ z < 256
section
variable {w w' w2 : World} {T : Nat → Prop} {h : Nat} {bv v' : Value} {bs ys : List Int} {sp : Bool}
theorem RefC.lt (k : RefC w T h bv bs sp) : h < w.heap.size := k.foot h k.self
theorem RefC.kept {row : Option Nat} (k : RefC w T h bv bs sp) (hg : w.grownBy w' row) (hr : ∀ b, row = some b → ¬ T b) : RefC w' T h bv bs sp := by
  refine ⟨fun j hj => Nat.lt_of_lt_of_le (k.foot j hj) hg.size, k.self, k.blk.kept hg (fun e => hr h e.symm k.self), k.own.kept hg ?_, k.off, k.mem, k.bd⟩
  cases hb : bv.ownBlock with
  | none => exact .inl rfl
  | some b => exact .inr (fun e => hr b e.symm (k.mem b hb))
theorem RefC.below (k : RefC w T h bv bs sp) (hb : Below w.heap.size w w') : RefC w' T h bv bs sp := k.kept (grown_below hb none) (fun b e => by cases e)
theorem RefC.drewN (k : RefC w T h bv bs sp) (n : Nat) : RefC (w.drewN n) T h bv bs sp := ⟨k.foot, k.self, k.blk, k.own, k.off, k.mem, k.bd⟩
theorem RefC.mono (k : RefC w T h bv bs sp) {T' : Nat → Prop} (hT : ∀ j, T j → T' j) (hf : ∀ j, T' j → j < w.heap.size) : RefC w T' h bv bs sp := ⟨hf, hT h k.self, k.blk, k.own, k.off, fun b hb => hT b (k.mem b hb), k.bd⟩
/-- What is appended to its bytes is stored. -/
theorem RefC.app {w1 : World} (k : RefC w T h bv bs sp) (hb : Below w.heap.size w w1) (hy : ∀ z ∈ ys, 0 ≤ z ∧ z < 256) {n : Nat} (hn : n = bs.length + ys.length) {xs : List Value} (hx : xs = u8s (bs ++ ys)) (ho : w2.ownsRow 0 5 1 v' n xs) (hg : w1.grownBy w2 bv.ownBlock) (hl : v'.ownBlock = bv.ownBlock ∨ ∃ b, v'.ownBlock = some b ∧ w1.heap.size ≤ b) :
    RefC (w2.setCell ⟨h, 0, none⟩ v') (grow T w (w2.setCell ⟨h, 0, none⟩ v')) h v' (bs ++ ys) sp ∧ Chg T w (w2.setCell ⟨h, 0, none⟩ v') := by
  subst hn hx
  have hsz1 := hb.size
  have hsz2 := hg.size
  have hset := grown_at (World.grownBy.refl w2 (some h)) 0 v'
  have hoff : v'.ownBlock ≠ some h := by
    rcases hl with e | ⟨b, e, hb'⟩
    · rw [e]; exact k.off
    · rw [e]; intro e'; injection e' with e'; have := k.lt; omega
  have hblk : BlockIs w2 h 59 #[bv, .bool sp] := (k.blk.below hb k.lt).kept hg (fun e => k.off e.symm)
  have hsz3 : (w2.setCell ⟨h, 0, none⟩ v').heap.size = w2.heap.size := by simp [World.setCell]
  have ho2 := ho.kept hset (show v'.ownBlock = none ∨ v'.ownBlock ≠ some h from .inr hoff)
  have hm : ∀ b, v'.ownBlock = some b → grow T w (w2.setCell ⟨h, 0, none⟩ v') b := by
    intro b hb'
    have h1 := (ho2.lt b hb').2
    rcases hl with e | ⟨b2, e, h3⟩
    · exact .inl (k.mem b (e ▸ hb'))
    · rw [hb'] at e; injection e with e
      exact .inr ⟨by omega, h1⟩
  refine ⟨⟨?_, .inl k.self, hblk.set1 0 v', own_same ho2 (by rw [List.length_append]) rfl, hoff, hm, ?_⟩, ?_⟩
  · rintro j (hj | hj)
    · have := k.foot j hj; omega
    · exact hj.2
  · intro z hz
    rcases List.mem_append.1 hz with hz | hz
    · exact k.bd z hz
    · exact hy z hz
  · refine ⟨hg.os.trans hb.os, hg.tape.trans hb.tape, hg.output.trans hb.output, by omega, fun j hj hT => ?_⟩
    refine (Below.heap_setCell w2 ⟨h, 0, none⟩ v' j (fun e => hT (e ▸ k.self))).trans ((hg.block j (by omega) (fun e => hT (k.mem j e.symm))).trans (hb.block j hj))
/-- It is spoilt. -/
theorem RefC.spoil (k : RefC w T h bv bs sp) : RefC (w.setCell ⟨h, 1, none⟩ (.bool true)) (grow T w (w.setCell ⟨h, 1, none⟩ (.bool true))) h bv bs true ∧ Chg T w (w.setCell ⟨h, 1, none⟩ (.bool true)) := by
  have hset := grown_at (World.grownBy.refl w (some h)) 1 (.bool true)
  have hsz3 : (w.setCell ⟨h, 1, none⟩ (.bool true)).heap.size = w.heap.size := by simp [World.setCell]
  refine ⟨⟨?_, .inl k.self, k.blk.set1 1 _, k.own.kept hset (.inr k.off), k.off, fun b hb => .inl (k.mem b hb), k.bd⟩, Chg.of_grown hset (fun b e => by cases e; exact k.self)⟩
  rintro j (hj | hj)
  · have := k.foot j hj; omega
  · exact hj.2
theorem RefC.grow_same (k : RefC w T h bv bs sp) : RefC w (grow T w w) h bv bs sp := k.mono (fun j hj => .inl hj) (by
  rintro j (hj | hj)
  · exact k.foot j hj
  · exact hj.2)
end
/-- The document's writer has these bytes, or is spoilt; it has at most so many. -/
def RefAt (w : World) (T : Nat → Prop) (h : Nat) (s : Option (List Int)) (m : Nat) : Prop := ∃ bv bs sp, RefC w T h bv bs sp ∧ bs.length ≤ m ∧ s = if sp then none else some bs
theorem RefAt.kept {w w' : World} {T : Nat → Prop} {h m : Nat} {s : Option (List Int)} {row : Option Nat} (k : RefAt w T h s m) (hg : w.grownBy w' row) (hr : ∀ b, row = some b → ¬ T b) : RefAt w' T h s m := by
  obtain ⟨bv, bs, sp, k, hm, hs⟩ := k; exact ⟨bv, bs, sp, k.kept hg hr, hm, hs⟩
theorem RefAt.below {w w' : World} {T : Nat → Prop} {h m : Nat} {s : Option (List Int)} (k : RefAt w T h s m) (hb : Below w.heap.size w w') : RefAt w' T h s m := k.kept (grown_below hb none) (fun b e => by cases e)
theorem RefAt.foot {w : World} {T : Nat → Prop} {h m : Nat} {s : Option (List Int)} (k : RefAt w T h s m) : ∀ j, T j → j < w.heap.size := by
  obtain ⟨bv, bs, sp, k, hm, hs⟩ := k; exact k.foot
theorem RefAt.self {w : World} {T : Nat → Prop} {h m : Nat} {s : Option (List Int)} (k : RefAt w T h s m) : T h := by
  obtain ⟨bv, bs, sp, k, hm, hs⟩ := k; exact k.self
theorem RefAt.lt {w : World} {T : Nat → Prop} {h m : Nat} {s : Option (List Int)} (k : RefAt w T h s m) : h < w.heap.size := k.foot h k.self
/-- What a call leaves that puts something. -/
structure RPut (w : World) (T : Nat → Prop) (h : Nat) (s : Option (List Int)) (m : Nat) (w' : World) : Prop where
  rf : RefAt w' (grow T w w') h s m
  fr : Chg T w w'
theorem RPut.trans {w w1 w2 : World} {T : Nat → Prop} {h m1 m2 : Nat} {s1 s2 : Option (List Int)} (a : RPut w T h s1 m1 w1) (b : RPut w1 (grow T w w1) h s2 m2 w2) (hf : ∀ k, T k → k < w.heap.size) : RPut w T h s2 m2 w2 := by
  obtain ⟨bv, bs, sp, k, hm, hs⟩ := b.rf
  refine ⟨⟨bv, bs, sp, k.mono (grow_trans a.fr.size b.fr.size) ?_, hm, hs⟩, a.fr.trans b.fr⟩
  have := a.fr.size
  have := b.fr.size
  rintro j (hj | hj)
  · have := hf j hj; omega
  · exact hj.2
theorem RPut.after {w w1 w2 : World} {T : Nat → Prop} {h m : Nat} {s : Option (List Int)} (hb : Below w.heap.size w w1) (b : RPut w1 T h s m w2) (hf : ∀ k, T k → k < w.heap.size) : RPut w T h s m w2 := by
  obtain ⟨bv, bs, sp, k, hm, hs⟩ := b.rf
  have := hb.size
  have := b.fr.size
  refine ⟨⟨bv, bs, sp, k.mono ?_ ?_, hm, hs⟩, ⟨b.fr.os.trans hb.os, b.fr.tape.trans hb.tape, b.fr.output.trans hb.output, by omega, fun j hj hT => (b.fr.block j (by omega) hT).trans (hb.block j hj)⟩⟩
  · rintro j (hj | hj)
    · exact .inl hj
    · exact .inr ⟨by omega, hj.2⟩
  · rintro j (hj | hj)
    · have := hf j hj; omega
    · exact hj.2
theorem RPut.same {w : World} {T : Nat → Prop} {h m : Nat} {s : Option (List Int)} (k : RefAt w T h s m) : RPut w T h s m w := by
  obtain ⟨bv, bs, sp, k, hm, hs⟩ := k; exact ⟨⟨bv, bs, sp, k.grow_same, hm, hs⟩, Chg.refl _ _⟩
theorem RefAt.more {w : World} {T : Nat → Prop} {h m m' : Nat} {s : Option (List Int)} (k : RefAt w T h s m) (hm : m ≤ m') : RefAt w T h s m' := by
  obtain ⟨bv, bs, sp, k, h1, hs⟩ := k; exact ⟨bv, bs, sp, k, Nat.le_trans h1 hm, hs⟩
theorem RPut.more {w w' : World} {T : Nat → Prop} {h m m' : Nat} {s : Option (List Int)} (k : RPut w T h s m w') (hm : m ≤ m') : RPut w T h s m' w' := ⟨k.rf.more hm, k.fr⟩
end Go.Proofs.YtmmebaphhgggfaaGreatDoor
