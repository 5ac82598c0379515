/- Two disks of a law's own: the program's, and the document's; each call leaves the other one as it was. -/
import Derived.Test.YtgjdoiblgbdebaaDoorLaw03Hold
import Derived.Test.YtgjdoiblgbdebaaDoorRef3Flip
import Derived.Test.YtgjdoiblgbdebaaDoorRef3New
import Derived.Test.YtgjdoiblgbdebaaDoorKitOverAt
import Derived.Test.YtgjdoiblgbdebaaDoorKitC
namespace Go.Proofs.YtgjdoiblgbdebaaDoor
open Go.RowKit
structure Two (w0 w : World) (Td Tr : Nat → Prop) (hd hr : Nat) (D E : DM) : Prop where
  d : OwnT w0 w Td hd D
  r : RefAt3 w Tr hr E
  rlo : ∀ k, Tr k → w0.heap.size ≤ k
  ap : ∀ k, Td k → ¬ Tr k
section
variable {w0 w w2 : World} {Td Tr : Nat → Prop} {hd hr : Nat} {D E D' E' : DM}
theorem Two.dev (k : Two w0 w Td Tr hd hr D E) (d : OwnT w0 w2 (grow Td w w2) hd D') (hc : Chg Td w w2) : Two w0 w2 (grow Td w w2) Tr hd hr D' E :=
  ⟨d, k.r.keep hc.size (fun b hb => hc.block b (k.r.foot b hb) (fun h => k.ap b h hb)), k.rlo, fun j hj hr => by
    rcases hj with hj | hj
    · exact k.ap j hj hr
    · have := k.r.foot j hr; omega⟩
theorem Two.ref (k : Two w0 w Td Tr hd hr D E) (r : Ref3 w Tr hr E' w2) : Two w0 w2 Td (grow Tr w w2) hd hr D E' :=
  ⟨⟨k.d.at_.keep r.fr.size (fun b hb => r.fr.block b (k.d.at_.foot b hb) (k.ap b hb)), r.fr.below k.d.below k.rlo k.d.below.size, k.d.lo⟩, r.at_, fun j hj => by
    rcases hj with hj | hj
    · exact k.rlo j hj
    · have := k.d.below.size; omega, fun j hj hr => by
    rcases hr with hr | hr
    · exact k.ap j hj hr
    · have := k.d.at_.foot j hj; omega⟩
theorem Two.on (k : Two w0 w Td Tr hd hr D E) (hb : Below w.heap.size w w2) : Two w0 w2 Td Tr hd hr D E := ⟨k.d.on hb, k.r.below hb, k.rlo, k.ap⟩
theorem Two.drewN (k : Two w0 w Td Tr hd hr D E) (n : Nat) : Two w0 (w.drewN n) Td Tr hd hr D E := k.on (drewN_below (Below.refl _ _) n)
theorem Two.drew (k : Two w0 w Td Tr hd hr D E) : Two w0 w.drew Td Tr hd hr D E := k.on (Below.refl _ _).drew
/-- A block that is neither disk's has turned. -/
theorem Two.grown (k : Two w0 w Td Tr hd hr D E) {row : Option Nat} (hg : w.grownBy w2 row) (hr0 : ∀ b, row = some b → ¬ Td b ∧ ¬ Tr b ∧ w0.heap.size ≤ b) : Two w0 w2 Td Tr hd hr D E :=
  ⟨⟨k.d.at_.keep hg.size (fun b hb => hg.block b (k.d.at_.foot b hb) (fun e => (hr0 b e.symm).1 hb)), k.d.below.grown hg k.d.below.size (fun b e => (hr0 b e).2.2), k.d.lo⟩, k.r.keep hg.size (fun b hb => hg.block b (k.r.foot b hb) (fun e => (hr0 b e.symm).2.1 hb)), k.rlo, k.ap⟩
/-- A new block is neither disk's. -/
theorem Two.new (k : Two w0 w Td Tr hd hr D E) {b : Nat} (hb : w.heap.size ≤ b) : ¬ Td b ∧ ¬ Tr b ∧ w0.heap.size ≤ b :=
  ⟨fun h => by have := k.d.at_.foot b h; omega, fun h => by have := k.r.foot b h; omega, by have := k.d.below.size; omega⟩
theorem Two.old (k : Two w0 w Td Tr hd hr D E) {b : Nat} (hb : b < w0.heap.size) : ¬ Td b ∧ ¬ Tr b :=
  ⟨fun h => by have := k.d.lo b h; omega, fun h => by have := k.rlo b h; omega⟩
end
/-- Neither disk's sets have it; it is there. -/
structure Free (w : World) (Td Tr : Nat → Prop) (b : Nat) : Prop where
  td : ¬ Td b
  tr : ¬ Tr b
  lt : b < w.heap.size
theorem Free.dev {w w2 : World} {Td Tr : Nat → Prop} {b : Nat} (h : Free w Td Tr b) (hs : w.heap.size ≤ w2.heap.size) : Free w2 (grow Td w w2) Tr b :=
  ⟨fun e => by
    rcases e with e | e
    · exact h.td e
    · have := h.lt; omega, h.tr, Nat.lt_of_lt_of_le h.lt hs⟩
theorem Free.ref {w w2 : World} {Td Tr : Nat → Prop} {b : Nat} (h : Free w Td Tr b) (hs : w.heap.size ≤ w2.heap.size) : Free w2 Td (grow Tr w w2) b :=
  ⟨h.td, fun e => by
    rcases e with e | e
    · exact h.tr e
    · have := h.lt; omega, Nat.lt_of_lt_of_le h.lt hs⟩
theorem Free.on {w w2 : World} {Td Tr : Nat → Prop} {b : Nat} (h : Free w Td Tr b) (hs : w.heap.size ≤ w2.heap.size) : Free w2 Td Tr b := ⟨h.td, h.tr, Nat.lt_of_lt_of_le h.lt hs⟩
/-! ### Deeds -/
structure DeedV where
  what : Int
  n : Int
  A : Option Addr
  bs : List Int
  c : Nat
  torn : Int
  part : Int
  mask : Nat
def DeedV.cells (x : DeedV) : List Value := [.int .i64 x.what, .int .i64 x.n, .slice x.A x.bs.length x.c, .int .i64 x.torn, .int .i64 x.part, .int .u32 (x.mask : Int)]
structure DeedV.ok (w : World) (x : DeedV) : Prop where
  bytes : BytesAt w x.A x.bs
  nil : x.A = none → x.c = 0
  len : x.bs.length ≤ 140737488351232
  n : x.n ≤ 9223372036854775807
  mask : x.mask < 4294967296
  old : x.bs ≠ [] → ∀ a, x.A = some a → a.block < w.heap.size
theorem DeedV.ok.below {w w' : World} {x : DeedV} (h : x.ok w) (hb : Below w.heap.size w w') : x.ok w' := ⟨h.bytes.below hb, h.nil, h.len, h.n, h.mask, fun hne a e => Nat.lt_of_lt_of_le (h.old hne a e) hb.size⟩
/-- What a deed makes of a disk. -/
def DM.deed (D : DM) (x : DeedV) : DM :=
  if x.what % 9 = 0 then D else if x.what % 9 = 1 ∨ x.what % 9 = 2 then (D.write x.n x.bs).2 else if x.what % 9 = 3 then D.sync.2 else if x.what % 9 = 4 then D.arm x.n else if x.what % 9 = 5 then D.crash.2
  else if x.what % 9 = 6 then (D.wake x.n x.torn x.part).2 else if x.what % 9 = 7 then (D.rot x.n x.torn x.mask).2 else (D.wipe x.n).2
/-- So many deeds make so many turns, crashes, writes at most. -/
theorem DM.Few.deed {D : DM} {k : Nat} (h : D.Few k) (x : DeedV) : (D.deed x).Few (k + 1) := by
  have h1 := h.tu
  have h2 := h.cr
  have h3 := h.ws
  have h0 : D.Few (k + 1) := ⟨by omega, by omega, by omega⟩
  have ht : D.trips.Few (k + 1) := ⟨by show D.turns ≤ _; omega, by show D.crashes + 1 ≤ _; omega, by show D.waits.length ≤ _; omega⟩
  unfold DM.deed
  split
  · exact h0
  · split
    · unfold DM.write
      split
      · exact h0
      · split
        · exact h0
        · split
          · exact ht
          · exact ⟨by show D.turns + 1 ≤ _; omega, by show D.crashes ≤ _; omega, by show (D.waits ++ [_]).length ≤ _; rw [List.length_append, List.length_singleton]; omega⟩
    · split
      · unfold DM.sync
        split
        · exact h0
        · split
          · exact ht
          · exact ⟨by show D.turns + 1 ≤ _; omega, by show D.crashes ≤ _; omega, by show ([] : List (Nat × List Int)).length ≤ _; exact Nat.zero_le _⟩
      · split
        · unfold DM.arm
          split
          · exact h0
          · exact ⟨by show D.turns ≤ _; omega, by show D.crashes ≤ _; omega, by show D.waits.length ≤ _; omega⟩
        · split
          · unfold DM.crash
            split
            · exact h0
            · exact ⟨by show D.turns ≤ _; omega, by show D.crashes + 1 ≤ _; omega, by show D.waits.length ≤ _; omega⟩
          · split
            · unfold DM.wake
              split
              · exact ⟨by show D.turns ≤ _; omega, by show D.crashes ≤ _; omega, by show ([] : List (Nat × List Int)).length ≤ _; exact Nat.zero_le _⟩
              · exact h0
            · have hh : ∀ n b, (D.hurt n b).2.Few (k + 1) := fun n b => by
                unfold DM.hurt
                split
                · exact h0
                · split
                  · exact h0
                  · exact ⟨by show D.turns ≤ _; omega, by show D.crashes ≤ _; omega, by show D.waits.length ≤ _; omega⟩
              split
              · unfold DM.rot
                split
                · exact hh _ _
                · exact h0
              · unfold DM.wipe
                split
                · exact hh _ _
                · exact h0
end Go.Proofs.YtgjdoiblgbdebaaDoor
