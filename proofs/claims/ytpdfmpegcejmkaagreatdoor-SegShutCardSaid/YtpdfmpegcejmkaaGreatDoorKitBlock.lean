/- What every text of the kit shares: rows of bytes in memory, rows of rows, owned rows of bytes, what stays below, cuts of a slice. -/
/- The statements' own helpers: a number brought into a range; are two rows of bytes the same. -/
/- Blocks that are known whole; what grows. -/
import Derived.Test.YtpdfmpegcejmkaaGreatDoorProg
import Derived.WalkKit
import Derived.WalkLawsBesides
import Derived.WalkSpells
import Derived.Laws.BitsAllLaws
import Derived.LoopTactic
import Derived.Lib.Hide
import Derived.Deep.LoopGhost
import Derived.Outline
import Derived.RegionTactic
import Derived.BigRegion
import Derived.Below
import Derived.OwnWalk
import Derived.Laws.OwnMore
import Derived.Laws.ShiftsVarLaws
import Derived.Deep.QuietTactic
import Derived.BigQuiet
import Derived.Deep.RegionWith
import Derived.Deep.RegionHeld3
import Derived.Deep.WholeRow
import Derived.Maps.AppendAt
namespace Go.Proofs.YtpdfmpegcejmkaaGreatDoor
open Go.RowKit
theorem ret_int {k : IntKind} {a b : Int} (h : a = b) : Ending.returned (.int k a) = .returned (.int k b) := by rw [h]
theorem val_int {k : IntKind} {a b : Int} (h : a = b) : Value.int k a = .int k b := by rw [h]
/-- The optional address A is where these bytes lie. -/
def BytesAt (w : World) (A : Option Addr) (zs : List Int) : Prop :=
  (∀ z ∈ zs, 0 ≤ z ∧ z < 256) ∧ (zs ≠ [] → ∃ b off, A = some ⟨b, off, none⟩ ∧ ∀ i, i < zs.length → w.cell? ⟨b, off + i, none⟩ = some (.int .u8 (zs.getD i 0)))
theorem BytesAt.drewN {w : World} {A : Option Addr} {zs : List Int} (h : BytesAt w A zs) (n : Nat) : BytesAt (w.drewN n) A zs := h

theorem BytesAt.tail4 {w : World} {b off : Nat} {z0 z1 z2 z3 : Int} {rest : List Int} (h : BytesAt w (some ⟨b, off, none⟩) (z0 :: z1 :: z2 :: z3 :: rest)) : BytesAt w (some ⟨b, off + 4, none⟩) rest := by
  refine ⟨fun z hz => h.1 z (by simp [hz]), fun _ => ⟨b, off + 4, rfl, fun i hi => ?_⟩⟩
  obtain ⟨b', off', e, hc⟩ := h.2 (by simp)
  obtain ⟨rfl, rfl⟩ : b = b' ∧ off = off' := by simpa using e
  have := hc (i + 4) (by simp; omega)
  rw [show off + 4 + i = off + (i + 4) by omega]
  simpa using this
theorem BytesAt.nil (w : World) (A : Option Addr) : BytesAt w A [] := ⟨(fun z hz => by cases hz), (fun h => absurd rfl h)⟩
theorem BytesAt.one {w : World} {b off : Nat} {zs : List Int} (h : BytesAt w (some ⟨b, off, none⟩) zs) (i : Nat) (hi : i < zs.length) : w.cell? ⟨b, off + i, none⟩ = some (.int .u8 (zs.getD i 0)) := by
  obtain ⟨b', off', e, hc⟩ := h.2 (by intro e; simp [e] at hi)
  obtain ⟨rfl, rfl⟩ : b = b' ∧ off = off' := by simpa using e
  exact hc i hi
theorem BytesAt.some_ {w : World} {A : Option Addr} {zs : List Int} (h : BytesAt w A zs) (hne : zs ≠ []) : ∃ b off, A = some ⟨b, off, none⟩ := by
  obtain ⟨b, off, e, _⟩ := h.2 hne
  exact ⟨b, off, e⟩
theorem Below.drewN {B : Nat} {a w : World} (h : Below B a w) (n : Nat) : Below B a (w.drewN n) := ⟨h.os, h.tape, h.output, h.size, h.block⟩
structure Part where
  A : Option Addr
  zs : List Int
  cap : Nat
def Part.val (p : Part) : Value := .slice p.A p.zs.length p.cap
def Part.ok (w : World) (p : Part) : Prop := BytesAt w p.A p.zs ∧ p.zs.length ≤ p.cap ∧ p.cap ≤ 9223372036854775807
def PartsAt (w : World) (A : Option Addr) (ps : List Part) : Prop :=
  (∀ p ∈ ps, p.ok w) ∧ (ps ≠ [] → ∃ b off, A = some ⟨b, off, none⟩ ∧ ∀ i p, ps[i]? = some p → w.cell? ⟨b, off + i, none⟩ = some p.val)
def bytesOf (ps : List Part) : List Int := ps.flatMap (·.zs)
theorem BytesAt.below {w w' : World} {A : Option Addr} {zs : List Int} (h : BytesAt w A zs) (hb : Below w.heap.size w w') : BytesAt w' A zs :=
  ⟨h.1, fun hne => by
    obtain ⟨b, off, e, hc⟩ := h.2 hne
    exact ⟨b, off, e, fun i hi => (hb.cell (p := ⟨b, off + i, none⟩) (World.block_lt_of_cell? _ _ (hc i hi))).trans (hc i hi)⟩⟩
theorem Part.ok.below {w w' : World} {p : Part} (h : p.ok w) (hb : Below w.heap.size w w') : p.ok w' := ⟨h.1.below hb, h.2⟩
theorem PartsAt.below {w w' : World} {A : Option Addr} {ps : List Part} (h : PartsAt w A ps) (hb : Below w.heap.size w w') : PartsAt w' A ps :=
  ⟨fun p hp => (h.1 p hp).below hb, fun hne => by
    obtain ⟨b, off, e, hc⟩ := h.2 hne
    exact ⟨b, off, e, fun i p hp => (hb.cell (p := ⟨b, off + i, none⟩) (World.block_lt_of_cell? _ _ (hc i p hp))).trans (hc i p hp)⟩⟩
theorem bytesOf_one (A : Option Addr) (zs : List Int) (cap : Nat) : bytesOf [⟨A, zs, cap⟩] = zs := by unfold bytesOf; simp
/-- One part, in a row of its own. -/
theorem partsAt_new {w : World} {A : Option Addr} {zs : List Int} {cap : Nat} (t : TypeId) (hz : BytesAt w A zs) (hcap : zs.length ≤ cap) (hm : cap ≤ 9223372036854775807) :
    PartsAt (w.alloc (.cells #[.slice A zs.length cap] t)) (some ⟨w.heap.size, 0, none⟩) [⟨A, zs, cap⟩] := by
  refine ⟨fun p hp => ?_, fun _ => ⟨w.heap.size, 0, rfl, fun i p hp => ?_⟩⟩
  · obtain rfl : p = ⟨A, zs, cap⟩ := by simpa using hp
    exact ⟨hz.below ((Below.refl _ _).alloc (Nat.le_refl _) _), hcap, hm⟩
  · match i, hp with
    | 0, hp =>
      obtain rfl : (⟨A, zs, cap⟩ : Part) = p := by simpa using hp
      simp [Part.val]
    | i + 1, hp => simp at hp
theorem below_global {w w1 : World} {v : Value} (g : Nat) (hg : w.cell? ⟨g, 0, none⟩ = some v) (hb : Below w.heap.size w w1) : w1.cell? ⟨g, 0, none⟩ = some v :=
  (hb.cell (p := ⟨g, 0, none⟩) (World.block_lt_of_cell? _ _ hg)).trans hg
theorem undrew {B : Nat} {w w1 : World} (h : Below B w.drew w1) : Below B w w1 := ⟨h.os, h.tape, h.output, h.size, h.block⟩
/-- One part that lies at the head of block g. -/
theorem partsAt_cell {w : World} {g : Nat} {A : Option Addr} {zs : List Int} {cap : Nat} (hc : w.cell? ⟨g, 0, none⟩ = some (.slice A zs.length cap)) (hz : BytesAt w A zs) (hcap : zs.length ≤ cap) (hm : cap ≤ 9223372036854775807) :
    PartsAt w (some ⟨g, 0, none⟩) [⟨A, zs, cap⟩] := by
  refine ⟨fun p hp => ?_, fun _ => ⟨g, 0, rfl, fun i p hp => ?_⟩⟩
  · obtain rfl : p = ⟨A, zs, cap⟩ := by simpa using hp
    exact ⟨hz, hcap, hm⟩
  · match i, hp with
    | 0, hp =>
      obtain rfl : (⟨A, zs, cap⟩ : Part) = p := by simpa using hp
      simpa [Part.val] using hc
    | i + 1, hp => simp at hp
theorem BytesAt.keep {w w' : World} {b off : Nat} {zs : List Int} (h : BytesAt w (some ⟨b, off, none⟩) zs) (hk : ∀ o, w'.cell? ⟨b, o, none⟩ = w.cell? ⟨b, o, none⟩) : BytesAt w' (some ⟨b, off, none⟩) zs :=
  ⟨h.1, fun hne => by
    obtain ⟨b', off', e, hc⟩ := h.2 hne
    obtain ⟨rfl, rfl⟩ : b = b' ∧ off = off' := by simpa using e
    exact ⟨b, off, rfl, fun i hi => (hk _).trans (hc i hi)⟩⟩
theorem bytesAt_cells {w : World} {b off : Nat} {zs : List Int} (hr : ∀ z ∈ zs, 0 ≤ z ∧ z < 256) (hc : ∀ i, i < zs.length → w.cell? ⟨b, off + i, none⟩ = some (.int .u8 (zs.getD i 0))) : BytesAt w (some ⟨b, off, none⟩) zs :=
  ⟨hr, fun _ => ⟨b, off, rfl, hc⟩⟩
theorem BytesAt.part {w : World} {b off k : Nat} {zs ys : List Int} (h : BytesAt w (some ⟨b, off, none⟩) zs) (hr : ∀ z ∈ ys, 0 ≤ z ∧ z < 256) (hy : ∀ i, i < ys.length → k + i < zs.length ∧ ys.getD i 0 = zs.getD (k + i) 0) : BytesAt w (some ⟨b, off + k, none⟩) ys :=
  ⟨hr, fun _ => ⟨b, off + k, rfl, fun i hi => by
    obtain ⟨h1, h2⟩ := hy i hi
    rw [h2, Nat.add_assoc]
    exact h.one (k + i) h1⟩⟩
theorem cell_row (W : World) (v : Value) (t : TypeId) : (W.alloc (.cells #[v] t)).cell? ⟨W.heap.size, 0, none⟩ = some v := by rw [World.cell?_alloc_new]; rfl
theorem cell_row1 (W : World) (o : Obj) (v : Value) (t : TypeId) : ((W.alloc o).alloc (.cells #[v] t)).cell? ⟨W.heap.size + 1, 0, none⟩ = some v := by
  rw [World.cell?_alloc_at _ _ _ _ (by simp)]; rfl
theorem cell_row0 (W : World) (o : Obj) (v : Value) (t : TypeId) : ((W.alloc (.cells #[v] t)).alloc o).cell? ⟨W.heap.size, 0, none⟩ = some v := by
  rw [World.cell?_alloc_past _ _ _ (by simp), World.cell?_alloc_new]; rfl
theorem row3_cells (W : World) (x y z : Value) (t : TypeId) : (W.alloc (.cells #[x, y, z] t)).cell? ⟨W.heap.size, 0, none⟩ = some x ∧ (W.alloc (.cells #[x, y, z] t)).cell? ⟨W.heap.size, 1, none⟩ = some y ∧ (W.alloc (.cells #[x, y, z] t)).cell? ⟨W.heap.size, 2, none⟩ = some z := by
  rw [World.cell?_alloc_new, World.cell?_alloc_new, World.cell?_alloc_new]; exact ⟨rfl, rfl, rfl⟩
theorem below_new (w : World) (o : Obj) : Below w.heap.size w (w.alloc o) := (Below.refl _ _).alloc (Nat.le_refl _) o
theorem infoByte : (Tryz.prog.info? 5).map (fun i => (i.zero, i.size, i.bytes)) = some (some (.int .u8 0), 1, 1) := by kernel_rfl
def u8s (zs : List Int) : List Value := zs.map (Value.int .u8)
theorem own_bytes {w : World} {B g n cap : Nat} {zs : List Int} (h : w.ownsRow B 5 1 (.slice (some ⟨g, 0, none⟩) n cap) n (u8s zs)) (hr : ∀ z ∈ zs, 0 ≤ z ∧ z < 256) : BytesAt w (some ⟨g, 0, none⟩) zs := by
  refine ⟨hr, fun _ => ⟨g, 0, rfl, fun i hi => ?_⟩⟩
  have hl : (u8s zs).length = n * 1 := h.1
  have hn : i < n * 1 := by rw [← hl]; simpa [u8s] using hi
  rw [Nat.zero_add, h.cellAt i hn]
  simp [u8s, List.getD_eq_getElem?_getD, List.getElem?_eq_getElem hi]
theorem u8s_set (zs : List Int) (q : Nat) (z : Int) : (u8s zs).set q (.int .u8 z) = u8s (zs.set q z) := by unfold u8s; rw [List.map_set]
theorem mem_set_bd {zs : List Int} {q : Nat} {z' : Int} (hr : ∀ z ∈ zs, 0 ≤ z ∧ z < 256) (h0 : 0 ≤ z') (h1 : z' < 256) : ∀ z ∈ zs.set q z', 0 ≤ z ∧ z < 256 := by
  intro z hz
  rcases List.mem_or_eq_of_mem_set hz with h | rfl
  · exact hr z h
  · exact ⟨h0, h1⟩
theorem set_same (zs : List Int) (q : Nat) (hq : q < zs.length) : zs.set q (zs.getD q 0) = zs := by
  rw [List.getD_eq_getElem?_getD, List.getElem?_eq_getElem hq, Option.getD_some]; exact List.set_getElem_self hq
theorem ownsRow_drew {w : World} {B : Nat} {e : TypeId} {size n : Nat} {v : Value} {xs : List Value} (h : w.ownsRow B e size v n xs) : w.drew.ownsRow B e size v n xs := h
theorem drewN_below {B : Nat} {a w : World} (h : Below B a w) (n : Nat) : Below B a (w.drewN n) := Below.drewN h n
theorem own_form {w : World} {B : Nat} {e : TypeId} {size n : Nat} {v : Value} {xs : List Value} (h : w.ownsRow B e size v n xs) (hn : 0 < n) :
    ∃ g cap, v = .slice (some ⟨g, 0, none⟩) n cap ∧ B ≤ g ∧ g < w.heap.size ∧ n ≤ cap ∧ cap ≤ maxLen := by
  rcases h.2 with ⟨_, h0⟩ | ⟨g, cap, cur, hv, hb, hg, hc, hm, _, _⟩
  · omega
  · refine ⟨g, cap, hv, hb, ?_, hc, hm⟩
    rcases Nat.lt_or_ge g w.heap.size with hlt | hge
    · exact hlt
    · rw [Array.getElem?_eq_none hge] at hg; cases hg
theorem src_cells (zs : List Int) (zb zo : Nat) (w : World) (o : Obj) (hc : ∀ i, i < zs.length → w.cell? ⟨zb, zo + i, none⟩ = some (.int .u8 (zs.getD i 0))) :
    ∀ j u, (u8s zs)[j]? = some u → (w.alloc o).cell? ((⟨zb, zo, none⟩ : Addr).add j) = some u := by
  intro j u hj
  simp only [u8s, List.getElem?_map] at hj
  cases hq : zs[j]? with
  | none => simp [hq] at hj
  | some z =>
    obtain rfl : Value.int .u8 z = u := by simpa [hq] using hj
    have hlt := (List.getElem?_eq_some_iff.1 hq).1
    have hadd : (⟨zb, zo, none⟩ : Addr).add j = ⟨zb, zo + j, none⟩ := by unfold Addr.add; split <;> simp_all
    have h1 := hc j hlt
    rw [List.getD_eq_getElem?_getD, hq] at h1
    rw [hadd, World.cell?_alloc_lt _ _ _ (World.block_lt_of_cell? _ _ h1)]
    exact h1
theorem u8s_one (zs : List Int) : ∀ u ∈ u8s zs, u.oneCell' = true := by
  intro u hu
  simp only [u8s, List.mem_map] at hu
  obtain ⟨z, _, rfl⟩ := hu
  rfl
theorem u8s_app (xs ys : List Int) : u8s xs ++ u8s ys = u8s (xs ++ ys) := by unfold u8s; rw [List.map_append]
theorem u8s_snoc (xs : List Int) (z : Int) : u8s (xs ++ [z]) = u8s xs ++ [.int .u8 z] := by unfold u8s; rw [List.map_append]; rfl
theorem u8s_len (xs : List Int) : (u8s xs).length = xs.length := by unfold u8s; simp
theorem own_same {w : World} {B : Nat} {e : TypeId} {size n m : Nat} {v : Value} {xs ys : List Value} (h : w.ownsRow B e size v n xs) (hn : n = m) (hx : xs = ys) : w.ownsRow B e size v m ys := by subst hn; subst hx; exact h
theorem grown_of_below {w w' : World} (hb : Below w.heap.size w w') : w.grownBy w' none := ⟨hb.os, hb.tape, hb.output, hb.size, fun k hk _ => hb.block k hk⟩
theorem own_slice {w : World} {B : Nat} {e : TypeId} {size n : Nat} {v : Value} {xs : List Value} (h : w.ownsRow B e size v n xs) : ∃ X cap, v = .slice X n cap ∧ n ≤ cap ∧ cap ≤ maxLen := by
  rcases h.2 with ⟨rfl, rfl⟩ | ⟨g, cap, cur, rfl, _, _, hc, hm, _⟩
  · exact ⟨none, 0, rfl, Nat.le_refl _, by decide⟩
  · exact ⟨some ⟨g, 0, none⟩, cap, rfl, hc, hm⟩
theorem PartsAt.drewN {w : World} {A : Option Addr} {ps : List Part} (h : PartsAt w A ps) (n : Nat) : PartsAt (w.drewN n) A ps := h
theorem bytes_same {qs ps : List Part} (h : qs.map Part.zs = ps.map Part.zs) : bytesOf qs = bytesOf ps := by
  unfold bytesOf
  rw [List.flatMap_def, List.flatMap_def, h]
theorem cell_below {w w1 : World} {v : Value} {a : Addr} (hc : w.cell? a = some v) (hb : Below w.heap.size w w1) : w1.cell? a = some v := (hb.cell (World.block_lt_of_cell? _ _ hc)).trans hc
def total (ps : List Part) : Nat := (ps.map fun p => p.zs.length).sum
theorem total_snoc (ps : List Part) (k : Nat) (p : Part) (h : ps[k]? = some p) : total (ps.take (k + 1)) = total (ps.take k) + p.zs.length := by
  unfold total
  rw [List.take_add_one, h]; simp
theorem total_part {ps : List Part} {p : Part} (h : p ∈ ps) : p.zs.length ≤ total ps := by
  unfold total
  induction ps with
  | nil => cases h
  | cons q qs ih =>
    rw [List.map_cons, List.sum_cons]
    rcases List.mem_cons.1 h with rfl | h
    · omega
    · have := ih h; omega
theorem bits8_bd (op : BinOp) (x y : Int) : 0 ≤ bits op .u8 x y ∧ bits op .u8 x y < 256 := by
  have h : ∃ n : Int, bits op .u8 x y = IntKind.u8.wrap n := by
    unfold bits
    exact ⟨_, rfl⟩
  obtain ⟨n, hn⟩ := h
  rw [hn, IntKind.wrap_u8']
  omega
theorem bytesAt_lit (W : World) (zs : List Int) (hr : ∀ z ∈ zs, 0 ≤ z ∧ z < 256) : BytesAt (W.alloc (.cells (u8s zs).toArray 5)) (some ⟨W.heap.size, 0, none⟩) zs := by
  refine bytesAt_cells hr (fun i hi => ?_)
  rw [World.cell?_alloc_new, Nat.zero_add, List.getElem?_toArray]
  unfold u8s
  rw [List.getElem?_map, List.getD_eq_getElem?_getD, List.getElem?_eq_getElem hi]; rfl
theorem row4_cells (W : World) (x y z u : Value) (t : TypeId) : ∀ i p, [x, y, z, u][i]? = some p → (W.alloc (.cells #[x, y, z, u] t)).cell? ⟨W.heap.size, i, none⟩ = some p := by
  intro i p hp
  rw [World.cell?_alloc_new]
  match i, hp with
  | 0, hp => exact hp
  | 1, hp => exact hp
  | 2, hp => exact hp
  | 3, hp => exact hp
  | i + 4, hp => simp at hp
theorem u32_of (n : Int) (h0 : 0 ≤ n) (h1 : n ≤ 4294967295) : ∃ t : BitVec 32, n = (t.toNat : Int) := by
  obtain ⟨m, rfl⟩ := Int.eq_ofNat_of_zero_le h0
  refine ⟨BitVec.ofNat 32 m, ?_⟩
  rw [BitVec.toNat_ofNat, Nat.mod_eq_of_lt (by omega)]
theorem own_reads {w : World} {B n cap : Nat} {X : Option Addr} {zs : List Int} (h : w.ownsRow B 5 1 (.slice X n cap) n (u8s zs)) (hr : ∀ z ∈ zs, 0 ≤ z ∧ z < 256) : BytesAt w X zs := by
  rcases Nat.eq_zero_or_pos n with h0 | h0
  · subst h0
    have hl : (u8s zs).length = 0 := by simpa using h.1
    rw [u8s_len] at hl
    obtain rfl := List.eq_nil_of_length_eq_zero hl
    exact BytesAt.nil _ _
  · obtain ⟨g, c, e, _⟩ := own_form h h0
    obtain ⟨rfl, rfl⟩ : X = some ⟨g, 0, none⟩ ∧ cap = c := by simpa using e
    exact own_bytes h hr
theorem ownsRow_below {w w' : World} {B : Nat} {e : TypeId} {size n : Nat} {v : Value} {xs : List Value} (h : w.ownsRow B e size v n xs) (hb : Below w.heap.size w w') : w'.ownsRow B e size v n xs := by
  refine h.kept (grown_of_below hb) ?_
  cases hv : Value.ownBlock v with
  | none => exact .inl rfl
  | some g => exact .inr (by simp)
/-- A row's tail, as the walk writes it. -/
def cutAt (X : Option Addr) (cap k : Nat) : Option Addr := if cap = k then X else Option.map (fun x => x.add k) X
theorem cut_reads {W : World} {X : Option Addr} {zs : List Int} {cap k : Nat} (h : BytesAt W X zs) (hk : zs.length ≤ cap) : BytesAt W (cutAt X cap k) (zs.drop k) := by
  refine ⟨fun z hz => h.1 z (List.mem_of_mem_drop hz), fun hne => ?_⟩
  have hlt : k < zs.length := by
    rcases Nat.lt_or_ge k zs.length with h1 | h1
    · exact h1
    · exact absurd (List.drop_eq_nil_of_le h1) hne
  obtain ⟨b, off, rfl, hc⟩ := h.2 (by intro e; simp [e] at hlt)
  unfold cutAt
  rw [if_neg (by omega)]
  refine ⟨b, off + k, ?_, fun i hi => ?_⟩
  · show some ((⟨b, off, none⟩ : Addr).add k) = _
    congr 1
    unfold Addr.add; split <;> simp_all
  · rw [List.length_drop] at hi
    rw [Nat.add_assoc, hc (k + i) (by omega)]
    simp [List.getD_eq_getElem?_getD]
theorem front_reads {W : World} {X : Option Addr} {zs : List Int} {k : Nat} (h : BytesAt W X zs) : BytesAt W X (zs.take k) := by
  refine ⟨fun z hz => h.1 z (List.mem_of_mem_take hz), fun hne => ?_⟩
  obtain ⟨b, off, e, hc⟩ := h.2 (by intro e; subst e; simp at hne)
  refine ⟨b, off, e, fun i hi => ?_⟩
  rw [List.length_take] at hi
  rw [hc i (by omega)]
  simp only [List.getD_eq_getElem?_getD]
  rw [List.getElem?_take_of_lt (by omega)]
theorem row2_cells (W : World) (x y : Value) (t : TypeId) : (W.alloc (.cells #[x, y] t)).cell? ⟨W.heap.size, 0, none⟩ = some x ∧ (W.alloc (.cells #[x, y] t)).cell? ⟨W.heap.size, 1, none⟩ = some y := by
  rw [World.cell?_alloc_new, World.cell?_alloc_new]; exact ⟨rfl, rfl⟩
theorem row2_drew (W : World) (x y : Value) (t : TypeId) : (W.alloc (.cells #[x, y] t)).drew.cell? ⟨W.heap.size, 0, none⟩ = some x ∧ (W.alloc (.cells #[x, y] t)).drew.cell? ⟨W.heap.size, 1, none⟩ = some y := row2_cells W x y t
theorem cut_run2 (X : Option Addr) (n k cap : Nat) (w : World) (h1 : k ≤ n) (h2 : n ≤ cap) : (Instr.slice 27 (.slice X n cap) (some (.int .i64 (k : Int))) (some (.int .i64 (n : Int))) none).run Tryz.prog w = .ok (.slice (cutAt X cap k) (n - k) (cap - k)) w := by
  have hs : (sizeOf (Tryz.prog.elem 27)).run Tryz.prog w = .ok 1 w := by kernel_rfl
  rw [run_slice_lh w 27 X n cap (by kernel_rfl) .i64 .i64 k n (by omega) (by omega) (by omega), hs]
  simp [Result.andThen, sliced, cutAt]
theorem cut_run1 (X : Option Addr) (n k cap : Nat) (w : World) (h1 : k ≤ n) : (Instr.slice 27 (.slice X n cap) (some (.int .i64 (k : Int))) none none).run Tryz.prog w = .ok (.slice (cutAt X cap k) (n - k) (cap - k)) w := by
  have hs : (sizeOf (Tryz.prog.elem 27)).run Tryz.prog w = .ok 1 w := by kernel_rfl
  rw [run_slice_l w 27 X n cap (by kernel_rfl) .i64 k (by omega) (by omega), hs]
  simp [Result.andThen, sliced, cutAt]
theorem mem_snoc_bd {zs : List Int} {z' : Int} (hr : ∀ z ∈ zs, 0 ≤ z ∧ z < 256) (h0 : 0 ≤ z') (h1 : z' < 256) : ∀ z ∈ zs ++ [z'], 0 ≤ z ∧ z < 256 := by
  intro z hz
  rcases List.mem_append.1 hz with h | h
  · exact hr z h
  · obtain rfl := List.mem_singleton.1 h
    exact ⟨h0, h1⟩
end Go.Proofs.YtpdfmpegcejmkaaGreatDoor
namespace Go.Proofs.YtpdfmpegcejmkaaGreatDoor
open Go.RowKit
theorem ret_bool {a b : Bool} (h : a = b) : Ending.returned (.bool a) = .returned (.bool b) := by rw [h]
theorem pick_neg (x n : Int) (hn : 0 < n) (h : x.tmod n < 0) : x.tmod n + n = x % n := by
  have h1 := Int.tmod_eq_emod (a := x) (b := n)
  have h2 := Int.emod_nonneg x (show n ≠ 0 by omega)
  have h3 := Int.emod_lt_of_pos x hn
  by_cases hc : 0 ≤ x ∨ n ∣ x
  · rw [if_pos hc] at h1; omega
  · rw [if_neg hc] at h1; omega
theorem pick_pos (x n : Int) (hn : 0 < n) (h : ¬ x.tmod n < 0) : x.tmod n = x % n := by
  have h1 := Int.tmod_eq_emod (a := x) (b := n)
  have h2 := Int.emod_nonneg x (show n ≠ 0 by omega)
  have h3 := Int.emod_lt_of_pos x hn
  by_cases hc : 0 ≤ x ∨ n ∣ x
  · rw [if_pos hc] at h1; omega
  · rw [if_neg hc] at h1; omega
theorem tmod_bd (x n : Int) (hn : 0 < n) : -n < x.tmod n ∧ x.tmod n < n := by
  have h1 := Int.tmod_eq_emod (a := x) (b := n)
  have h2 := Int.emod_nonneg x (show n ≠ 0 by omega)
  have h3 := Int.emod_lt_of_pos x hn
  by_cases hc : 0 ≤ x ∨ n ∣ x
  · rw [if_pos hc] at h1; omega
  · rw [if_neg hc] at h1
    by_cases h0 : x % n = 0
    · exact absurd (.inr (Int.dvd_of_emod_eq_zero h0)) hc
    · omega
def sameB (xs ys : List Int) : Bool := decide (xs = ys)
theorem same_len (xs ys : List Int) (h : xs.length ≠ ys.length) : sameB xs ys = false := by unfold sameB; exact decide_eq_false (fun e => h (by rw [e]))
theorem same_all (xs ys : List Int) (k : Nat) (h : xs.take k = ys.take k) (hx : k = xs.length) (hy : xs.length = ys.length) : sameB xs ys = true := by
  unfold sameB; rw [hx, List.take_length, hy, List.take_length] at h; exact decide_eq_true h
theorem same_not (xs ys : List Int) (k : Nat) (_ : k < xs.length) (_ : k < ys.length) (h : (xs.getD k 0 != ys.getD k 0) = true) : sameB xs ys = false := by
  unfold sameB; refine decide_eq_false (fun e => ?_); subst e; simp at h
theorem same_next (xs ys : List Int) (k : Nat) (hx : k < xs.length) (hy : k < ys.length) (hp : xs.take k = ys.take k) (h : (xs.getD k 0 != ys.getD k 0) = false) : xs.take (k + 1) = ys.take (k + 1) := by
  rw [List.take_add_one, List.take_add_one, hp, List.getElem?_eq_getElem hx, List.getElem?_eq_getElem hy]
  simp only [List.getD_eq_getElem?_getD, List.getElem?_eq_getElem hx, List.getElem?_eq_getElem hy, Option.getD_some] at h
  have : xs[k] = ys[k] := by simpa using h
  rw [this]
set_option maxRecDepth 100000 in
set_option maxHeartbeats 1000000 in
theorem sameBytes_any (xs ys : List Int) (A B : Option Addr) (ca cb : Nat) (w : World) (ha : BytesAt w A xs) (hb : BytesAt w B ys) (_hx : xs.length ≤ 9223372036854775807) :
    Calls Tryz.prog 36 #[.slice A xs.length ca, .slice B ys.length cb] w fun e w' => e = .returned (.bool (sameB xs ys)) ∧ ∃ n, w' = w.drewN n := by
  by_cases hl : xs.length = ys.length
  · have hne : ((xs.length : Int) != (ys.length : Int)) = false := by rw [hl]; simp
    have Hl := Lib.hid hl; clear hl
    go_enter Tryz.func36, Tryz.ntmps36
    go_wp2_with fail
    go_loopg [5] xs.length (fun g i wx => (∃ nq, wx = w.drewN nq) ∧ ∃ k : Nat, k ≤ xs.length ∧ g = xs.length - k ∧ i = .int .i64 (k : Int) ∧ Hid (xs.take k = ys.take k))
    case atStart => exact ⟨⟨0, rfl⟩, 0, by omega, rfl, rfl, Lib.hid rfl⟩
    case round =>
      obtain ⟨⟨nq, rfl⟩, k, hk, hg, rfl, hp⟩ := hrel
      have Hg := Lib.hid hg; clear hg
      by_cases hlt : k < xs.length
      · have hly : k < ys.length := by have := Hl.out; omega
        obtain ⟨b1, o1, rfl⟩ := ha.some_ (by intro e; simp [e] at hlt)
        obtain ⟨b2, o2, rfl⟩ := hb.some_ (by intro e; simp [e] at hly)
        have c1 := ha.one k hlt
        have c2 := hb.one k hly
        have Hs : ∀ x y, xs.getD k 0 = x → ys.getD k 0 = y → Hid (((x != y) = true → sameB xs ys = false) ∧ ((x != y) = false → xs.take (k + 1) = ys.take (k + 1))) := fun x y h1 h2 =>
          Lib.hid ⟨fun h => same_not xs ys k hlt hly (by rw [h1, h2]; exact h), fun h => same_next xs ys k hlt hly hp.out (by rw [h1, h2]; exact h)⟩
        generalize xs.getD k 0 = x at c1 Hs
        generalize ys.getD k 0 = y at c2 Hs
        have Hs := Hs x y rfl rfl
        go_wp2_with fail
        go_quiet (fail)
        go_wp2_with fail
        · go_ret
          exact ⟨ret_bool (Hs.out.1 (by assumption)).symm, _, World.drewN_drewN _ _ _⟩
        · go_roundg (xs.length - (k + 1))
          case measure => rw [Hg.out]; omega
          case rel => exact ⟨⟨_, rfl⟩, k + 1, by omega, rfl, by go_num, Lib.hid (Hs.out.2 (by assumption))⟩
      · have hkk : k = xs.length := by omega
        have Hk := Lib.hid hkk; clear hkk
        go_wp2_with fail
        go_ret
        exact ⟨ret_bool (same_all xs ys k hp.out Hk.out Hl.out).symm, _, rfl⟩
  · have hne : ((xs.length : Int) != (ys.length : Int)) = true := by simp; omega
    have Hl := Lib.hid hl; clear hl
    go_enter Tryz.func36, Tryz.ntmps36
    go_wp2_with fail
    go_ret
    exact ⟨ret_bool (same_len xs ys Hl.out).symm, 0, rfl⟩
end Go.Proofs.YtpdfmpegcejmkaaGreatDoor
namespace Go.Proofs.YtpdfmpegcejmkaaGreatDoor
open Go.RowKit
/-- Block g is just these cells, none frozen. -/
def BlockIs (w : World) (g : Nat) (t : TypeId) (cs : Array Value) : Prop := w.heap[g]? = some (.cells cs t (0, 0))
section
variable {w w' : World} {g : Nat} {t : TypeId} {cs : Array Value}
theorem BlockIs.lt (h : BlockIs w g t cs) : g < w.heap.size := (Array.getElem?_eq_some_iff.1 h).1
theorem BlockIs.cell (h : BlockIs w g t cs) (i : Nat) : w.cell? ⟨g, i, none⟩ = cs[i]? := cell_of_row w g i cs t (0, 0) h
theorem BlockIs.free (h : BlockIs w g t cs) (i : Nat) : w.frozen? ⟨g, i, none⟩ = false := by
  unfold BlockIs at h
  simp [World.frozen?, h]
theorem BlockIs.made (w : World) (t : TypeId) (cs : Array Value) : BlockIs (w.alloc (.cells cs t)) w.heap.size t cs := heap_alloc_new w _
theorem BlockIs.kept (h : BlockIs w g t cs) {row : Option Nat} (hg : w.grownBy w' row) (hne : some g ≠ row) : BlockIs w' g t cs := (hg.block g h.lt hne).trans h
theorem BlockIs.below {B : Nat} (h : BlockIs w g t cs) (hb : Below B w w') (hg : g < B) : BlockIs w' g t cs := (hb.block g hg).trans h
theorem BlockIs.set1 (h : BlockIs w g t cs) (i : Nat) (u : Value) : BlockIs (w.setCell ⟨g, i, none⟩ u) g t (cs.setIfInBounds i u) := by
  unfold BlockIs at h ⊢
  simp [World.setCell, Array.getElem?_modify, h]
end
theorem grown_drewN {w w' : World} {row : Option Nat} (h : w.grownBy w' row) (n : Nat) : w.grownBy (w'.drewN n) row := ⟨h.os, h.tape, h.output, h.size, h.block⟩
theorem grown_set {w w' : World} {g : Nat} (h : w.grownBy w' (some g)) {a : Addr} (ha : a.block = g ∨ w.heap.size ≤ a.block) (u : Value) : w.grownBy (w'.setCell a u) (some g) :=
  ⟨h.os, h.tape, h.output, by simpa [World.setCell] using h.size, fun k hk hne => (Below.heap_setCell w' a u k (by
    rintro rfl
    rcases ha with rfl | ha
    · exact hne rfl
    · omega)).trans (h.block k hk hne)⟩
theorem grown_at {w w' : World} {g : Nat} (h : w.grownBy w' (some g)) (i : Nat) (u : Value) : w.grownBy (w'.setCell ⟨g, i, none⟩ u) (some g) := grown_set h (a := ⟨g, i, none⟩) (.inl rfl) u
theorem grown_alloc {w w' : World} {row : Option Nat} (h : w.grownBy w' row) (o : Obj) : w.grownBy (w'.alloc o) row :=
  ⟨h.os, h.tape, h.output, Nat.le_trans h.size (by simp), fun k hk hne => (Below.heap_alloc w' o k (Nat.lt_of_lt_of_le hk h.size)).trans (h.block k hk hne)⟩
theorem grown_below {w w' : World} (h : Below w.heap.size w w') (row : Option Nat) : w.grownBy w' row := ⟨h.os, h.tape, h.output, h.size, fun k hk _ => h.block k hk⟩
/-- Only block g, and what is new since, has turned: all below a block ahead of both stays. -/
theorem below_grown {B : Nat} {a w w' : World} {g : Nat} (h : Below B a w) (hg : w.grownBy w' (some g)) (hB : B ≤ w.heap.size) (hBg : B ≤ g) : Below B a w' :=
  h.grown hg hB (fun k e => by cases e; exact hBg)
theorem BytesAt.far {w w' : World} {A : Option Addr} {zs : List Int} {row : Option Nat} (h : BytesAt w A zs) (hg : w.grownBy w' row) (hne : ∀ a, A = some a → some a.block ≠ row) : BytesAt w' A zs :=
  ⟨h.1, fun hz => by
    obtain ⟨b, off, e, hc⟩ := h.2 hz
    exact ⟨b, off, e, fun i hi => hg.cell (hc i hi) (hne ⟨b, off, none⟩ e)⟩⟩
end Go.Proofs.YtpdfmpegcejmkaaGreatDoor
