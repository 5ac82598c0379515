/- What may turn: a set of blocks, which grows by what is new. -/
/- The plain mathematics of fields, texts, rows and entries as bytes: no program here. -/
/- Blocks that are known whole; what a writer has in memory; its small functions. -/
/- A writer's own small calls: spoil, add. -/
import Derived.Test.YtpdfmpegcejmkaaGreatDoorKitBlock
import Derived.RowKit
import Derived.WalkKit
import Derived.Laws.BitsAllLaws
import Derived.Maps.AppendAt
import Derived.Deep.AppendLies
namespace Go.Proofs.YtpdfmpegcejmkaaGreatDoor
open Go.RowKit
/-- S, and what is new. -/
def grow (S : Nat → Prop) (w w' : World) : Nat → Prop := fun k => S k ∨ (w.heap.size ≤ k ∧ k < w'.heap.size)
theorem grow_trans {S : Nat → Prop} {w w1 w2 : World} (h1 : w.heap.size ≤ w1.heap.size) (h2 : w1.heap.size ≤ w2.heap.size) : ∀ k, grow (grow S w w1) w1 w2 k → grow S w w2 k := by
  rintro k ((h | h) | h)
  · exact .inl h
  · exact .inr ⟨h.1, by omega⟩
  · exact .inr ⟨by omega, h.2⟩
/-- Only blocks of T, and new ones, have turned. -/
structure Chg (T : Nat → Prop) (w w' : World) : Prop where
  os : w'.os = w.os
  tape : w'.tape = w.tape
  output : w'.output = w.output
  size : w.heap.size ≤ w'.heap.size
  block : ∀ k, k < w.heap.size → ¬ T k → w'.heap[k]? = w.heap[k]?
theorem Chg.refl (T : Nat → Prop) (w : World) : Chg T w w := ⟨rfl, rfl, rfl, Nat.le_refl _, fun _ _ _ => rfl⟩
theorem Chg.trans {T : Nat → Prop} {w w1 w2 : World} (h : Chg T w w1) (k : Chg (grow T w w1) w1 w2) : Chg T w w2 :=
  ⟨k.os.trans h.os, k.tape.trans h.tape, k.output.trans h.output, Nat.le_trans h.size k.size, fun j hj hT => (k.block j (Nat.lt_of_lt_of_le hj h.size) (by
    rintro (h1 | h1)
    · exact hT h1
    · omega)).trans (h.block j hj hT)⟩
theorem Chg.of_grown {T : Nat → Prop} {w w' : World} {row : Option Nat} (h : w.grownBy w' row) (hT : ∀ b, row = some b → T b) : Chg T w w' :=
  ⟨h.os, h.tape, h.output, h.size, fun j hj hn => h.block j hj (fun e => hn (hT j e.symm))⟩
theorem Chg.of_below {T : Nat → Prop} {w w' : World} (h : Below w.heap.size w w') : Chg T w w' := ⟨h.os, h.tape, h.output, h.size, fun j hj _ => h.block j hj⟩
theorem Chg.drewN {T : Nat → Prop} {w w' : World} (h : Chg T w w') (n : Nat) : Chg T w (w'.drewN n) := ⟨h.os, h.tape, h.output, h.size, h.block⟩
theorem Chg.below {T : Nat → Prop} {B : Nat} {a w w' : World} (h : Chg T w w') (hb : Below B a w) (hT : ∀ k, T k → B ≤ k) (hB : B ≤ w.heap.size) : Below B a w' :=
  ⟨h.os.trans hb.os, h.tape.trans hb.tape, h.output.trans hb.output, Nat.le_trans hb.size h.size, fun k hk => (h.block k (by omega) (fun e => by have := hT k e; omega)).trans (hb.block k hk)⟩
theorem Chg.set {T : Nat → Prop} {w w' : World} (h : Chg T w w') {b i : Nat} (hb : T b ∨ w.heap.size ≤ b) (v : Value) : Chg T w (w'.setCell ⟨b, i, none⟩ v) :=
  ⟨h.os, h.tape, h.output, by simpa [World.setCell] using h.size, fun k hk hT => (Below.heap_setCell w' ⟨b, i, none⟩ v k (by
    intro e
    have e : k = b := e
    rcases hb with hb | hb
    · exact hT (e ▸ hb)
    · omega)).trans (h.block k hk hT)⟩
theorem Chg.alloc {T : Nat → Prop} {w w' : World} (h : Chg T w w') (o : Obj) : Chg T w (w'.alloc o) :=
  ⟨h.os, h.tape, h.output, Nat.le_trans h.size (by simp), fun k hk hT => (Below.heap_alloc w' o k (Nat.lt_of_lt_of_le hk h.size)).trans (h.block k hk hT)⟩
theorem Chg.drew {T : Nat → Prop} {w w' : World} (h : Chg T w w') : Chg T w w'.drew := ⟨h.os, h.tape, h.output, h.size, h.block⟩
theorem Chg.mono {S T : Nat → Prop} {w w' : World} (h : Chg S w w') (hS : ∀ k, S k → T k) : Chg T w w' := ⟨h.os, h.tape, h.output, h.size, fun k hk hT => h.block k hk (fun e => hT (hS k e))⟩
theorem Chg.on {T : Nat → Prop} {w w1 w2 : World} (h : Chg T w w1) (hb : Below w1.heap.size w1 w2) : Chg T w w2 := h.trans (Chg.of_below hb)
theorem grow_old {S : Nat → Prop} {w w' : World} {k : Nat} (hk : k < w.heap.size) (h : grow S w w' k) : S k := by
  rcases h with h | h
  · exact h
  · omega
theorem grow_lt {S : Nat → Prop} {w w' : World} (hS : ∀ k, S k → k < w.heap.size) (hs : w.heap.size ≤ w'.heap.size) : ∀ k, grow S w w' k → k < w'.heap.size := by
  rintro k (h | h)
  · exact Nat.lt_of_lt_of_le (hS k h) hs
  · exact h.2
/-- Two steps: T grows twice. -/
theorem Chg.chain {T : Nat → Prop} {w w1 w2 : World} (h : Chg T w w1) (k : Chg (grow T w w1) w1 w2) : Chg T w w2 := h.trans k
/-- What is owned stays, where its block stays. -/
theorem own_keep {w w' : World} {B : Nat} {e : TypeId} {size n : Nat} {v : Value} {xs : List Value} (h : w.ownsRow B e size v n xs) (hk : ∀ b, v.ownBlock = some b → w'.heap[b]? = w.heap[b]?) : w'.ownsRow B e size v n xs := by
  refine ⟨h.1, ?_⟩
  rcases h.2 with h | ⟨g, cap, cur, h1, h2, h3, h4⟩
  · exact .inl h
  · exact .inr ⟨g, cap, cur, h1, h2, (hk g (by rw [h1]; rfl)).trans h3, h4⟩
theorem own_lt {w : World} {B : Nat} {e : TypeId} {size n : Nat} {v : Value} {xs : List Value} (h : w.ownsRow B e size v n xs) {b : Nat} (hb : v.ownBlock = some b) : b < w.heap.size := (h.lt b hb).2
theorem BlockIs.keep {w w' : World} {g : Nat} {t : TypeId} {cs : Array Value} (h : BlockIs w g t cs) (hk : w'.heap[g]? = w.heap[g]?) : BlockIs w' g t cs := hk.trans h
theorem BytesAt.hold {w w' : World} {A : Option Addr} {zs : List Int} (h : BytesAt w A zs) (hk : ∀ a, A = some a → w'.heap[a.block]? = w.heap[a.block]?) : BytesAt w' A zs :=
  ⟨h.1, fun hz => by
    obtain ⟨b, off, e, hc⟩ := h.2 hz
    exact ⟨b, off, e, fun i hi => (World.cell?_of_block (a := ⟨b, off + i, none⟩) (hk ⟨b, off, none⟩ e)).trans (hc i hi)⟩⟩
end Go.Proofs.YtpdfmpegcejmkaaGreatDoor
namespace Go.Proofs.YtpdfmpegcejmkaaGreatDoor
/-- A number's bytes, the lowest first. -/
def le : Nat → Int → List Int
  | 0, _ => []
  | k + 1, n => n % 256 :: le k (n / 256)
/-- What bytes tell, the lowest first. -/
def unle : List Int → Int
  | [] => 0
  | z :: zs => z + 256 * unle zs
theorem le_len (k : Nat) (n : Int) : (le k n).length = k := by
  induction k generalizing n with
  | zero => rfl
  | succ k ih => simp [le, ih]
theorem le_bd (k : Nat) (n : Int) : ∀ z ∈ le k n, 0 ≤ z ∧ z < 256 := by
  induction k generalizing n with
  | zero => intro z hz; cases hz
  | succ k ih =>
    intro z hz
    rcases List.mem_cons.1 hz with rfl | h
    · omega
    · exact ih _ z h
theorem unle_le (k : Nat) (n : Int) (h0 : 0 ≤ n) (h1 : n < 256 ^ k) : unle (le k n) = n := by
  induction k generalizing n with
  | zero => simp at h1; simp [le, unle]; omega
  | succ k ih =>
    rw [Int.pow_succ] at h1
    simp only [le, unle]
    rw [ih (n / 256) (by omega) (by omega)]
    omega
theorem unle_bd (zs : List Int) (hz : ∀ z ∈ zs, 0 ≤ z ∧ z < 256) : 0 ≤ unle zs ∧ unle zs < 256 ^ zs.length := by
  induction zs with
  | nil => simp [unle]
  | cons z zs ih =>
    have h := ih (fun y hy => hz y (List.mem_cons_of_mem _ hy))
    have h0 := hz z List.mem_cons_self
    simp only [unle, List.length_cons, Int.pow_succ]
    omega
theorem le_unle (zs : List Int) (hz : ∀ z ∈ zs, 0 ≤ z ∧ z < 256) : le zs.length (unle zs) = zs := by
  induction zs with
  | nil => rfl
  | cons z zs ih =>
    have h := ih (fun y hy => hz y (List.mem_cons_of_mem _ hy))
    have h0 := hz z List.mem_cons_self
    simp only [List.length_cons, le, unle]
    rw [show (z + 256 * unle zs) / 256 = unle zs by omega, h, show (z + 256 * unle zs) % 256 = z by omega]
/-- The greatest number of a field; below 0: there is no such field. -/
def top (w : Int) : Int := if w = 1 then 255 else if w = 2 then 65535 else if w = 4 then 4294967295 else if w = 6 then 1099511627776 else -1
theorem top_lt (w : Int) : top w < 256 ^ w.toNat ∨ top w = -1 := by
  unfold top
  repeat' split
  all_goals first | (left; subst_vars; decide) | exact .inr rfl
theorem top_cases (w : Int) : (w = 1 ∧ top w = 255) ∨ (w = 2 ∧ top w = 65535) ∨ (w = 4 ∧ top w = 4294967295) ∨ (w = 6 ∧ top w = 1099511627776) ∨ (w ≠ 1 ∧ w ≠ 2 ∧ w ≠ 4 ∧ w ≠ 6 ∧ top w = -1) := by
  unfold top
  repeat' split
  all_goals omega
def inTop (w : Int) (ns : List Int) : Bool := ns.all fun n => decide (0 ≤ n ∧ n ≤ top w)
/-- The bytes of fields of one width; none: they spoil. -/
def fieldsB (w : Int) (ns : List Int) : Option (List Int) :=
  if top w < 0 then none else if inTop w ns then some (ns.flatMap (le w.toNat)) else none
/-- What a writer has, when something more is put. -/
def putO : Option (List Int) → Option (List Int) → Option (List Int)
  | some x, some y => some (x ++ y)
  | _, _ => none
theorem putO_none (s : Option (List Int)) : putO s none = none := by cases s <;> rfl
theorem none_putO (s : Option (List Int)) : putO none s = none := by cases s <;> rfl
theorem putO_assoc (a b c : Option (List Int)) : putO (putO a b) c = putO a (putO b c) := by
  cases a <;> cases b <;> cases c <;> simp [putO]
theorem putO_nil (a : Option (List Int)) : putO a (some []) = a := by cases a <;> simp [putO]
def textB (b : List Int) : Option (List Int) := if b.length ≤ 65535 then some (le 2 b.length ++ b) else none
def rowB (l : List Int) : Option (List Int) := putO (fieldsB 1 [(l.length : Int)]) (fieldsB 6 l)
structure Ent where
  index : Int
  term : Int
  kind : Int
  body : List Int
def rightB (e : Ent) : Bool := decide (1 ≤ e.kind ∧ e.kind ≤ 3 ∧ 1 ≤ e.index ∧ e.index ≤ 1099511627776 ∧ 0 ≤ e.term ∧ e.term ≤ 1099511627776 ∧ e.body.length ≤ 200)
def entryB (e : Ent) : Option (List Int) :=
  if rightB e then some (le 1 e.kind ++ (le 6 e.index ++ (le 6 e.term ++ (le 2 e.body.length ++ e.body)))) else none
theorem fieldsB_one (w n : Int) (ht : 0 ≤ top w) (h0 : 0 ≤ n) (h1 : n ≤ top w) : fieldsB w [n] = some (le w.toNat n) := by
  unfold fieldsB inTop; rw [if_neg (by omega)]; simp [h0, h1]
theorem fieldsB_bad (w : Int) (ns : List Int) (ht : top w < 0) : fieldsB w ns = none := by unfold fieldsB; rw [if_pos ht]
theorem fieldsB_out (w : Int) (ns : List Int) (n : Int) (hm : n ∈ ns) (h : n < 0 ∨ top w < n) : fieldsB w ns = none := by
  unfold fieldsB
  split
  · rfl
  · rw [if_neg]
    unfold inTop
    intro hall
    have := List.all_eq_true.1 hall n hm
    simp at this; omega
theorem fieldsB_ok (w : Int) (ns : List Int) (ht : 0 ≤ top w) (h : ∀ n ∈ ns, 0 ≤ n ∧ n ≤ top w) : fieldsB w ns = some (ns.flatMap (le w.toNat)) := by
  unfold fieldsB
  rw [if_neg (by omega), if_pos]
  unfold inTop
  exact List.all_eq_true.2 fun n hn => by simpa using h n hn
theorem flat_len (k : Nat) (ns : List Int) : (ns.flatMap (le k)).length = k * ns.length := by
  induction ns with
  | nil => simp
  | cons n ns ih => rw [List.flatMap_cons, List.length_append, ih, le_len, List.length_cons, Nat.mul_add, Nat.mul_one, Nat.add_comm]
theorem flat_bd (k : Nat) (ns : List Int) : ∀ z ∈ ns.flatMap (le k), 0 ≤ z ∧ z < 256 := by
  intro z hz
  obtain ⟨n, _, h⟩ := List.mem_flatMap.1 hz
  exact le_bd k n z h
theorem textB_put (b : List Int) : textB b = putO (fieldsB 2 [(b.length : Int)]) (some b) := by
  unfold textB
  by_cases h : b.length ≤ 65535
  · rw [if_pos h, fieldsB_one 2 _ (by decide) (by omega) (by show _ ≤ (65535 : Int); omega)]; rfl
  · rw [if_neg h, fieldsB_out 2 _ (b.length : Int) List.mem_cons_self (.inr (by show (65535 : Int) < _; omega))]; rfl
theorem entryB_put (e : Ent) (h : rightB e = true) : entryB e = putO (fieldsB 1 [e.kind]) (putO (fieldsB 6 [e.index, e.term]) (textB e.body)) := by
  have h' := of_decide_eq_true h
  unfold entryB
  rw [if_pos h, fieldsB_one 1 _ (by decide) (by omega) (by show _ ≤ (255 : Int); omega),
    fieldsB_ok 6 _ (by decide) (by intro n hn; simp at hn; rcases hn with rfl | rfl <;> (show _ ∧ _ ≤ (1099511627776 : Int); omega))]
  unfold textB
  rw [if_pos (by omega)]
  simp [putO]
/-! ### What is got -/
inductive RSt where
  | ok (at_ : Nat)
  | bad (pos : Nat) (long : Bool)
def isOk : RSt → Bool
  | .ok _ => true
  | .bad _ _ => false
def fieldR (bs : List Int) (w : Int) : RSt → Int × RSt
  | .bad p l => (0, .bad p l)
  | .ok k =>
    if top w < 0 ∨ w > (bs.length : Int) - k then (0, .bad k false)
    else if unle ((bs.drop k).take w.toNat) > top w then (0, .bad k false)
    else (unle ((bs.drop k).take w.toNat), .ok (k + w.toNat))
def countR (bs : List Int) (w most each : Int) : RSt → Int × RSt
  | .bad p l => (0, .bad p l)
  | .ok k => match fieldR bs w (.ok k) with
    | (_, .bad p l) => (0, .bad p l)
    | (n, .ok j) => if n > most then (0, .bad k true) else if n * each > (bs.length : Int) - j then (0, .bad k false) else (n, .ok j)
def textR (bs : List Int) (most : Int) (s : RSt) : List Int × RSt :=
  match countR bs 2 most 1 s with
  | (_, .bad p l) => ([], .bad p l)
  | (n, .ok j) => ((bs.drop j).take n.toNat, .ok (j + n.toNat))
/-- So many fields of 6, one behind the other. -/
def runR (bs : List Int) : Nat → RSt → List Int × RSt
  | 0, s => ([], s)
  | k + 1, s => ((runR bs k s).1 ++ [(fieldR bs 6 (runR bs k s).2).1], (fieldR bs 6 (runR bs k s).2).2)
def rowR (bs : List Int) (most : Int) (s : RSt) : List Int × RSt :=
  match countR bs 1 most 6 s with
  | (_, .bad p l) => ([], .bad p l)
  | (n, .ok j) => match runR bs n.toNat (.ok j) with
    | (_, .bad p l) => ([], .bad p l)
    | (xs, .ok i) => (xs, .ok i)
def noEnt : Ent := ⟨0, 0, 0, []⟩
def entryR (bs : List Int) : RSt → Ent × RSt
  | .bad p l => (noEnt, .bad p l)
  | .ok k =>
    let a := fieldR bs 1 (.ok k)
    let b := fieldR bs 6 a.2
    let c := fieldR bs 6 b.2
    let d := textR bs 65535 c.2
    match d.2 with
    | .bad p l => (noEnt, .bad p l)
    | .ok j => if rightB ⟨b.1, c.1, a.1, d.1⟩ then (⟨b.1, c.1, a.1, d.1⟩, .ok j) else (noEnt, .bad k false)
def leftR (bs : List Int) : RSt → Int
  | .ok k => (bs.length : Int) - k
  | .bad _ _ => 0
end Go.Proofs.YtpdfmpegcejmkaaGreatDoor
namespace Go.Proofs.YtpdfmpegcejmkaaGreatDoor
open Go.RowKit
/-- A row's block is none of these. -/
def OffOf (S : Nat → Prop) (A : Option Addr) : Prop := ∀ a, A = some a → S a.block
/-- The pieces of a writer, the last one first: their blocks are all in S. -/
def Chain (w : World) (S : Nat → Prop) : Option Addr → List (List Int) → Prop
  | p, [] => p = none
  | p, zs :: rest => ∃ (g : Nat) (ahead : Option Addr) (x cap : Nat), p = some ⟨g, 0, none⟩ ∧ S g ∧ S x ∧ zs ≠ [] ∧ zs.length ≤ cap ∧ cap ≤ 9223372036854775807 ∧
      BlockIs w g 206 #[.pointer ahead, .slice (some ⟨x, 0, none⟩) zs.length cap] ∧ BytesAt w (some ⟨x, 0, none⟩) zs ∧ Chain w S ahead rest
theorem Chain.mono {w : World} {S S' : Nat → Prop} (hS : ∀ k, S k → S' k) : ∀ {p : Option Addr} {l : List (List Int)}, Chain w S p l → Chain w S' p l
  | _, [], h => h
  | _, _ :: _, ⟨g, a, x, cap, h1, h2, h3, h4, h5, h6, h7, h8, h9⟩ => ⟨g, a, x, cap, h1, hS _ h2, hS _ h3, h4, h5, h6, h7, h8, Chain.mono hS h9⟩
theorem Chain.kept {w w' : World} {S : Nat → Prop} {row : Option Nat} (hg : w.grownBy w' row) (hS : ∀ k, S k → some k ≠ row) : ∀ {p : Option Addr} {l : List (List Int)}, Chain w S p l → Chain w' S p l
  | _, [], h => h
  | _, _ :: _, ⟨g, a, x, cap, h1, h2, h3, h4, h5, h6, h7, h8, h9⟩ => ⟨g, a, x, cap, h1, h2, h3, h4, h5, h6, h7.kept hg (hS _ h2), h8.far hg (fun a e => by cases e; exact hS _ h3), Chain.kept hg hS h9⟩
theorem Chain.lt {w : World} {S : Nat → Prop} {p : Option Addr} {zs : List Int} {l : List (List Int)} (h : Chain w S p (zs :: l)) : ∃ g, p = some ⟨g, 0, none⟩ ∧ g < w.heap.size := by
  obtain ⟨g, a, x, cap, h1, _, _, _, _, _, h7, _⟩ := h
  exact ⟨g, h1, h7.lt⟩
/-- A writer's block: its own, or that of a struct that holds it alone. -/
def WBlk (w : World) (g : Nat) (cs : Array Value) : Prop := ∃ t, BlockIs w g t cs
section
variable {w w' : World} {g : Nat} {cs : Array Value}
theorem WBlk.lt (h : WBlk w g cs) : g < w.heap.size := h.elim fun _ h => h.lt
theorem WBlk.cell (h : WBlk w g cs) (i : Nat) : w.cell? ⟨g, i, none⟩ = cs[i]? := h.elim fun _ h => h.cell i
theorem WBlk.free (h : WBlk w g cs) (i : Nat) : w.frozen? ⟨g, i, none⟩ = false := h.elim fun _ h => h.free i
theorem WBlk.kept (h : WBlk w g cs) {row : Option Nat} (hg : w.grownBy w' row) (hne : some g ≠ row) : WBlk w' g cs := h.elim fun t h => ⟨t, h.kept hg hne⟩
theorem WBlk.below {B : Nat} (h : WBlk w g cs) (hb : Below B w w') (hg : g < B) : WBlk w' g cs := h.elim fun t h => ⟨t, h.below hb hg⟩
theorem WBlk.set1 (h : WBlk w g cs) (i : Nat) (u : Value) : WBlk (w.setCell ⟨g, i, none⟩ u) g (cs.setIfInBounds i u) := h.elim fun t h => ⟨t, h.set1 i u⟩
end
instance {w : World} {g : Nat} {t : TypeId} {cs : Array Value} : CoeOut (BlockIs w g t cs) (WBlk w g cs) := ⟨fun h => ⟨t, h⟩⟩
/-- What a writer has in memory, by its bytes; none: it is spoilt. -/
def WrCells (w : World) (S : Nat → Prop) (g : Nat) : Option (List Int) → Prop
  | none => ∃ p, WBlk w g #[.pointer p, .bool true]
  | some bs => ∃ p l, WBlk w g #[.pointer p, .bool false] ∧ Chain w S p l ∧ bs = l.reverse.flatten
/-- The writer in block g has these bytes, or none (it is spoilt); what it has besides lies in S, blocks that are there, and not g. -/
structure WrAt (w : World) (S : Nat → Prop) (g : Nat) (s : Option (List Int)) : Prop where
  foot : ∀ k, S k → k ≠ g ∧ k < w.heap.size
  cells : WrCells w S g s
theorem WrAt.isBlock {w : World} {S : Nat → Prop} {g : Nat} {s : Option (List Int)} (h : WrAt w S g s) : ∃ p, WBlk w g #[.pointer p, .bool s.isNone] := by
  cases s with
  | none => exact h.cells
  | some bs => obtain ⟨p, l, h, _⟩ := h.cells; exact ⟨p, h⟩
theorem WrAt.lt {w : World} {S : Nat → Prop} {g : Nat} {s : Option (List Int)} (h : WrAt w S g s) : g < w.heap.size := by
  obtain ⟨p, h⟩ := h.isBlock; exact h.lt
theorem WrAt.mono {w : World} {S S' : Nat → Prop} {g : Nat} {s : Option (List Int)} (h : WrAt w S g s) (hS : ∀ k, S k → S' k) (hf : ∀ k, S' k → k ≠ g ∧ k < w.heap.size) : WrAt w S' g s :=
  ⟨hf, by
    cases s with
    | none => exact h.cells
    | some bs => obtain ⟨p, l, h1, h2, h3⟩ := h.cells; exact ⟨p, l, h1, h2.mono hS, h3⟩⟩
theorem WrAt.kept {w w' : World} {S : Nat → Prop} {g : Nat} {s : Option (List Int)} {row : Option Nat} (h : WrAt w S g s) (hg : w.grownBy w' row) (h0 : some g ≠ row) (hS : ∀ k, S k → some k ≠ row) : WrAt w' S g s :=
  ⟨fun k hk => ⟨(h.foot k hk).1, Nat.lt_of_lt_of_le (h.foot k hk).2 hg.size⟩, by
    cases s with
    | none => obtain ⟨p, h⟩ := h.cells; exact ⟨p, h.kept hg h0⟩
    | some bs => obtain ⟨p, l, h1, h2, h3⟩ := h.cells; exact ⟨p, l, h1.kept hg h0, h2.kept hg hS, h3⟩⟩
theorem WrAt.below {w w' : World} {S : Nat → Prop} {g : Nat} {s : Option (List Int)} (h : WrAt w S g s) (hb : Below w.heap.size w w') : WrAt w' S g s :=
  h.kept (grown_below hb none) (by simp) (fun _ _ => by simp)
theorem grow_foot {S : Nat → Prop} {w w' : World} {g : Nat} (hf : ∀ k, S k → k ≠ g ∧ k < w.heap.size) (hg : g < w.heap.size) (hs : w.heap.size ≤ w'.heap.size) : ∀ k, grow S w w' k → k ≠ g ∧ k < w'.heap.size := by
  rintro k (h | h)
  · exact ⟨(hf k h).1, by have := (hf k h).2; omega⟩
  · exact ⟨by omega, h.2⟩
/-- What a call that puts something leaves. -/
structure Put (w : World) (S : Nat → Prop) (g : Nat) (s : Option (List Int)) (w' : World) : Prop where
  wr : WrAt w' (grow S w w') g s
  fr : w.grownBy w' (some g)
theorem Put.trans {w w1 w2 : World} {S : Nat → Prop} {g : Nat} {s1 s2 : Option (List Int)} (h : Put w S g s1 w1) (k : Put w1 (grow S w w1) g s2 w2) (hf : ∀ k, S k → k ≠ g ∧ k < w.heap.size) (hg : g < w.heap.size) : Put w S g s2 w2 :=
  ⟨k.wr.mono (grow_trans h.fr.size k.fr.size) (grow_foot hf hg (Nat.le_trans h.fr.size k.fr.size)), h.fr.trans k.fr⟩
/-- First something that turns nothing, then a call that puts. -/
theorem Put.after {w w1 w2 : World} {S : Nat → Prop} {g : Nat} {s : Option (List Int)} (hb : Below w.heap.size w w1) (k : Put w1 S g s w2) (hf : ∀ k, S k → k ≠ g ∧ k < w.heap.size) (hg : g < w.heap.size) : Put w S g s w2 :=
  ⟨k.wr.mono (by
    rintro k (h | h)
    · exact .inl h
    · exact .inr ⟨by have := hb.size; omega, h.2⟩) (grow_foot hf hg (Nat.le_trans hb.size k.fr.size)), (grown_below hb _).trans k.fr⟩
theorem Put.same {w : World} {S : Nat → Prop} {g : Nat} {s : Option (List Int)} (h : WrAt w S g s) : Put w S g s w :=
  ⟨h.mono (fun _ h => .inl h) (by
    rintro k (hk | hk)
    · exact h.foot k hk
    · omega), World.grownBy.refl _ _⟩
set_option maxRecDepth 100000 in
theorem greatest_any (n : Int) (w : World) :
    Calls Tryz.prog 100 #[.int .i64 n] w fun e w' => e = .returned (.int .i64 (top n)) ∧ w = w' := by
  rcases top_cases n with ⟨rfl, h⟩ | ⟨rfl, h⟩ | ⟨rfl, h⟩ | ⟨rfl, h⟩ | ⟨h1, h2, h4, h6, h⟩
  all_goals have H := Lib.hid h; clear h
  · go_enter Tryz.func100, Tryz.ntmps100
    go_wp2
    go_ret
    exact ⟨ret_int H.out.symm, rfl⟩
  · go_enter Tryz.func100, Tryz.ntmps100
    go_wp2
    go_ret
    exact ⟨ret_int H.out.symm, rfl⟩
  · go_enter Tryz.func100, Tryz.ntmps100
    go_wp2
    go_ret
    exact ⟨ret_int H.out.symm, rfl⟩
  · go_enter Tryz.func100, Tryz.ntmps100
    go_wp2
    go_ret
    exact ⟨ret_int H.out.symm, rfl⟩
  · have b1 : (n == 1) = false := by simpa using h1
    have b2 : (n == 2) = false := by simpa using h2
    have b4 : (n == 4) = false := by simpa using h4
    have b6 : (n == 6) = false := by simpa using h6
    clear h1 h2 h4 h6
    go_enter Tryz.func100, Tryz.ntmps100
    go_wp2
    go_ret
    exact ⟨ret_int H.out.symm, rfl⟩
theorem whole_is (w : World) (g : Nat) (p : Option Addr) (b : Bool) (h : WBlk w g #[.pointer p, .bool b]) :
    Calls Tryz.prog 99 #[.pointer (some ⟨g, 0, none⟩)] w fun e w' => e = .returned (.bool (!b)) ∧ w = w' := by
  have c1 : w.cell? ⟨g, 1, none⟩ = some (.bool b) := h.cell 1
  go_enter Tryz.func99, Tryz.ntmps99
  go_wp2
  go_ret
  exact ⟨rfl, rfl⟩
theorem whole_nil (w : World) :
    Calls Tryz.prog 99 #[.pointer none] w fun e w' => e = .returned (.bool false) ∧ w = w' := by
  go_enter Tryz.func99, Tryz.ntmps99
  go_wp2
  go_ret
  exact ⟨rfl, rfl⟩
end Go.Proofs.YtpdfmpegcejmkaaGreatDoor
namespace Go.Proofs.YtpdfmpegcejmkaaGreatDoor
open Go.RowKit
theorem spoil_any (w : World) (S : Nat → Prop) (g : Nat) (s : Option (List Int)) (h : WrAt w S g s) :
    Calls Tryz.prog 101 #[.pointer (some ⟨g, 0, none⟩)] w fun e w' => e = .returned (.tuple #[]) ∧ Put w S g none w' := by
  obtain ⟨p, hb⟩ := h.isBlock
  generalize s.isNone = b at hb
  have c0 : w.cell? ⟨g, 0, none⟩ = some (.pointer p) := hb.cell 0
  have c1 : w.cell? ⟨g, 1, none⟩ = some (.bool b) := hb.cell 1
  have f0 := hb.free 0
  have f1 := hb.free 1
  have hg : w.grownBy ((w.setCell ⟨g, 0, none⟩ (.pointer none)).setCell ⟨g, 1, none⟩ (.bool true)) (some g) := grown_at (grown_at (World.grownBy.refl _ _) _ _) _ _
  have hP : Put w S g none ((w.setCell ⟨g, 0, none⟩ (.pointer none)).setCell ⟨g, 1, none⟩ (.bool true)) := ⟨⟨grow_foot h.foot h.lt hg.size, ⟨none, (hb.set1 0 (.pointer none)).set1 1 (.bool true)⟩⟩, hg⟩
  clear hb h hg
  go_enter Tryz.func101, Tryz.ntmps101
  go_wp2
  go_end0
  exact ⟨rfl, hP⟩
theorem add_some (w : World) (S : Nat → Prop) (g : Nat) (bs zs : List Int) (x cap : Nat) (h : WrAt w S g (some bs)) (hz : BytesAt w (some ⟨x, 0, none⟩) zs) (hn : zs ≠ []) (hxg : x ≠ g) (hxl : x < w.heap.size)
    (hc : zs.length ≤ cap) (hm : cap ≤ 9223372036854775807) :
    Calls Tryz.prog 103 #[.pointer (some ⟨g, 0, none⟩), .slice (some ⟨x, 0, none⟩) zs.length cap] w fun e w' => e = .returned (.tuple #[]) ∧ Put w (fun k => S k ∨ k = x) g (some (bs ++ zs)) w' := by
  obtain ⟨p, l, hb, hch, hbs⟩ := h.cells
  have hfoot := Lib.hid h.foot
  have c0 : w.cell? ⟨g, 0, none⟩ = some (.pointer p) := hb.cell 0
  have f0 := hb.free 0
  have hA := fun o => (World.cell?_alloc_lt w o ⟨g, 0, none⟩ hb.lt).trans c0
  have fA := fun o => (World.frozen?_alloc_old w o ⟨g, 0, none⟩ (Nat.ne_of_lt hb.lt)).trans f0
  have hpos : 0 < zs.length := List.length_pos_iff.2 hn
  have Hb := Lib.hid hb
  have Hbs := Lib.hid hbs
  clear hb hbs h
  go_enter Tryz.func103, Tryz.ntmps103
  go_wp2
  go_end0
  generalize hW : w.alloc (.cells #[.pointer p, .slice (some ⟨x, 0, none⟩) zs.length cap] 206) = W
  have hsz : W.heap.size = w.heap.size + 1 := by rw [← hW]; simp
  have hlt := Hb.out.lt
  have g1 : w.grownBy W none := by rw [← hW]; exact World.grownBy_alloc _ _ _
  have g2 : W.grownBy (W.setCell ⟨g, 0, none⟩ (.pointer (some ⟨w.heap.size, 0, none⟩))) (some g) := grown_at (World.grownBy.refl _ _) _ _
  have b1 : BlockIs W w.heap.size 206 #[.pointer p, .slice (some ⟨x, 0, none⟩) zs.length cap] := by rw [← hW]; exact BlockIs.made _ _ _
  have hch2 : Chain (W.setCell ⟨g, 0, none⟩ (.pointer (some ⟨w.heap.size, 0, none⟩))) S p l := (hch.kept g1 (fun _ _ => by simp)).kept g2 (fun k hk e => (hfoot.out k hk).1 (by simpa using e))
  have hxz : BytesAt (W.setCell ⟨g, 0, none⟩ (.pointer (some ⟨w.heap.size, 0, none⟩))) (some ⟨x, 0, none⟩) zs := (hz.far g1 (fun _ _ => by simp)).far g2 (fun a e he => by cases e; exact hxg (by simpa using he))
  have hfr : w.grownBy (W.setCell ⟨g, 0, none⟩ (.pointer (some ⟨w.heap.size, 0, none⟩))) (some g) := (g1.but _).trans g2
  have hfoot2 : ∀ k, (S k ∨ k = x) → k ≠ g ∧ k < w.heap.size := by
    rintro k (hk | rfl)
    · exact hfoot.out k hk
    · exact ⟨hxg, hxl⟩
  refine ⟨rfl, ⟨⟨grow_foot hfoot2 hlt hfr.size, ⟨some ⟨w.heap.size, 0, none⟩, zs :: l, ((Hb.out.kept g1 (by simp)).set1 0 _), ⟨w.heap.size, p, x, cap, rfl, ?_, ?_, hn, hc, hm, ?_, hxz, ?_⟩, ?_⟩⟩, hfr⟩⟩
  · exact .inr ⟨Nat.le_refl _, by simp [World.setCell, hsz]⟩
  · exact .inl (.inr rfl)
  · exact b1.kept g2 (by simp; omega)
  · exact hch2.mono (fun k hk => .inl (.inl hk))
  · rw [Hbs.out]; simp
theorem add_none (w : World) (v : Value) (X : Option Addr) (cap : Nat) (q : Value) (hv : v = .slice X 0 cap) :
    Calls Tryz.prog 103 #[q, v] w fun e w' => e = .returned (.tuple #[]) ∧ w = w' := by
  subst hv
  go_enter Tryz.func103, Tryz.ntmps103
  go_wp2
  go_end0
  exact ⟨rfl, rfl⟩
end Go.Proofs.YtpdfmpegcejmkaaGreatDoor
