/- One more record behind records that follow each other: plain mathematics. -/
/- A row of blocks of the law's own: each block is a row of bytes of its own, too. -/
import Derived.Test.YtpdfmpegcejmkaaGreatDoorSegFootM
import Derived.Test.YtpdfmpegcejmkaaGreatDoorKitStr
import Derived.Test.YtpdfmpegcejmkaaGreatDoorSegOpened
import Derived.Laws.OwnMore
namespace Go.Proofs.YtpdfmpegcejmkaaGreatDoor
theorem rightB_ident {e : Ent} (h : rightB e = true) (hi : e.index ≤ 1099511627776) : aheadI e.ident (e.index + 1) := by
  obtain ⟨h1, h2, h3, h4⟩ := ent_right h
  refine ⟨?_, ?_⟩
  · unfold knownI Ent.ident
    simp only
    omega
  · show e.index = e.index + 1 - 1
    omega
theorem lastE_snoc : ∀ (l : List Ent) (a : IdentI) (e : Ent), lastE a (l ++ [e]) = e.ident
  | [], _, _ => rfl
  | x :: l, a, e => by
    show lastE x.ident (l ++ [e]) = _
    exact lastE_snoc l x.ident e
theorem rowsE_snoc : ∀ (l : List Ent) (a : IdentI) (e : Ent), rowsE a (l ++ [e]) = rowsE a l ++ [sealB (recU (lastE a l) e)]
  | [], _, _ => rfl
  | x :: l, a, e => by
    show sealB (recU a x) :: rowsE x.ident (l ++ [e]) = _
    rw [rowsE_snoc l x.ident e]
    rfl
theorem chainE_snoc : ∀ (l : List Ent) (f : Int) (a : IdentI) (e : Ent), ChainE f a l → rightB e = true → e.index = f + l.length → aheadI (lastE a l) (f + l.length) → ChainE f a (l ++ [e])
  | [], f, a, e, _, hr, hi, ha => by
    have hi : e.index = f + ((0 : Nat) : Int) := hi
    have ha : aheadI a (f + ((0 : Nat) : Int)) := ha
    rw [show f + ((0 : Nat) : Int) = f by omega] at hi ha
    exact ⟨hr, hi, ha, trivial⟩
  | x :: l, f, a, e, h, hr, hi, ha => by
    obtain ⟨h1, h2, h3, h4⟩ := h
    have hl : ((x :: l).length : Int) = l.length + 1 := by simp
    refine ⟨h1, h2, h3, chainE_snoc l (f + 1) x.ident e h4 hr (by rw [hi, hl]; omega) ?_⟩
    rw [hl] at ha
    rw [show f + 1 + (l.length : Int) = f + ((l.length : Int) + 1) by omega]
    exact ha
/-- So many records, of a law's own. -/
structure Recs (f : Int) (a : IdentI) (n : Nat) (l : List Ent) : Prop where
  ch : ChainE f a l
  len : l.length = n
  la : aheadI (lastE a l) (f + n)
  bd : ∀ e ∈ l, ∀ z ∈ e.body, 0 ≤ z ∧ z < 256
theorem Recs.nil {f : Int} {a : IdentI} (h : aheadI a f) : Recs f a 0 [] := ⟨trivial, rfl, by rw [show f + ((0 : Nat) : Int) = f by omega]; exact h, fun _ h => by cases h⟩
theorem Recs.snoc {f : Int} {a : IdentI} {n : Nat} {l : List Ent} (h : Recs f a n l) {e : Ent} (hr : rightB e = true) (hi : e.index = f + n) (hb : ∀ z ∈ e.body, 0 ≤ z ∧ z < 256) : Recs f a (n + 1) (l ++ [e]) := by
  have hl := h.len
  have hi2 := (ent_right hr).2.1.2
  refine ⟨chainE_snoc l f a e h.ch hr (by rw [hl]; exact hi) (by rw [hl]; exact h.la), by simp [hl], ?_, fun x hx => ?_⟩
  · rw [lastE_snoc, show f + ((n + 1 : Nat) : Int) = e.index + 1 by omega]
    exact rightB_ident hr hi2
  · rcases List.mem_append.1 hx with hx | hx
    · exact h.bd x hx
    · obtain rfl := List.mem_singleton.1 hx
      exact hb
theorem Recs.row {f : Int} {a : IdentI} {n : Nat} {l : List Ent} (h : Recs f a n l) : ∀ r ∈ rowsE a l, r.length = 256 ∧ ∀ z ∈ r, 0 ≤ z ∧ z < 256 := by
  intro r hr
  obtain ⟨j, hj, rfl⟩ := List.getElem_of_mem hr
  rw [rowsE_len] at hj
  obtain ⟨e, a', h1, h2, h3, h4, h5⟩ := rowsE_get l f a j h.ch hj
  rw [List.getElem?_eq_getElem (by rw [rowsE_len]; exact hj)] at h5
  rw [Option.some.inj h5]
  exact ⟨seal_len (recU_right h2).2.2, seal_bd (recU_right h2) (recU_bd (h.bd e h1))⟩
end Go.Proofs.YtpdfmpegcejmkaaGreatDoor
namespace Go.Proofs.YtpdfmpegcejmkaaGreatDoor
open Go.RowKit
/-- Rows of two types lie in two blocks. -/
theorem own_types {w : World} {B1 B2 : Nat} {e1 e2 : TypeId} {s1 s2 n1 n2 : Nat} {v1 v2 : Value} {x1 x2 : List Value} (h1 : w.ownsRow B1 e1 s1 v1 n1 x1) (h2 : w.ownsRow B2 e2 s2 v2 n2 x2) (he : e1 ≠ e2) : v1.ownBlock = none ∨ v1.ownBlock ≠ v2.ownBlock := by
  rcases h1.2 with ⟨rfl, _⟩ | ⟨g1, c1, u1, rfl, _, hg1, _⟩
  · exact .inl rfl
  · right
    rcases h2.2 with ⟨rfl, _⟩ | ⟨g2, c2, u2, rfl, _, hg2, _⟩
    · intro e; cases e
    · intro e
      have e : some g1 = some g2 := e
      injection e with e
      subst e
      rw [hg1] at hg2
      injection hg2 with hg2
      injection hg2 with _ hg2
      exact he hg2
theorem own_block {w : World} {B g : Nat} {e t : TypeId} {s n : Nat} {v : Value} {x : List Value} {cs : Array Value} (h1 : w.ownsRow B e s v n x) (h2 : BlockIs w g t cs) (he : e ≠ t) : v.ownBlock ≠ some g := by
  rcases h1.2 with ⟨rfl, _⟩ | ⟨g1, c1, u1, rfl, _, hg1, _⟩
  · intro e; cases e
  · intro e
    have e : some g1 = some g := e
    injection e with e
    subst e
    unfold BlockIs at h2
    rw [hg1] at h2
    injection h2 with h2
    injection h2 with _ h2
    exact he h2
/-- A block without bytes turns: bytes stay. -/
theorem BytesAt.tagged {w w' : World} {q : Nat} {t : TypeId} {cs : Array Value} {A : Option Addr} {zs : List Int} (h : BytesAt w A zs) (hg : w.grownBy w' (some q)) (hq : BlockIs w q t cs) (hc : ∀ (i : Nat) (z : Int), cs[i]? ≠ some (Value.int .u8 z)) : BytesAt w' A zs :=
  ⟨h.1, fun hne => by
    obtain ⟨b, off, e, hcl⟩ := h.2 hne
    refine ⟨b, off, e, fun i hi => hg.cell (hcl i hi) (fun e2 => ?_)⟩
    have e3 : b = q := Option.some.inj e2
    subst e3
    have h1 := hcl i hi
    rw [hq.cell] at h1
    exact hc _ _ h1⟩
/-- A block of 256 bytes, in a row of its own. -/
structure BlkP (w : World) (B : Nat) (p : Part) : Prop where
  len : p.zs.length = 256
  bd : ∀ z ∈ p.zs, 0 ≤ z ∧ z < 256
  own : w.ownsRow B 5 1 p.val 256 (u8s p.zs)
theorem BlkP.ok {w : World} {B : Nat} {p : Part} (h : BlkP w B p) : p.ok w := by
  have ho := h.own
  unfold Part.val at ho
  rw [h.len] at ho
  obtain ⟨X, c, e, h1, h2⟩ := own_slice ho
  obtain ⟨rfl, rfl⟩ : p.A = X ∧ p.cap = c := by simpa using e
  exact ⟨own_reads ho h.bd, by rw [h.len]; exact h1, by unfold maxLen at h2; omega⟩
structure BlkRow (w : World) (B : Nat) (lv : Value) (ps : List Part) : Prop where
  own : w.ownsRow B 27 1 lv ps.length (ps.map Part.val)
  blk : ∀ p ∈ ps, BlkP w B p
section
variable {w w' : World} {B : Nat} {lv : Value} {ps : List Part} {p : Part}
theorem BlkP.below (h : BlkP w B p) (hb : Below w.heap.size w w') : BlkP w' B p := ⟨h.len, h.bd, ownsRow_below h.own hb⟩
theorem BlkP.kept {row : Option Nat} (h : BlkP w B p) (hg : w.grownBy w' row) (hne : p.val.ownBlock = none ∨ p.val.ownBlock ≠ row) : BlkP w' B p := ⟨h.len, h.bd, h.own.kept hg hne⟩
theorem BlkP.mono {B' : Nat} (h : BlkP w B p) (hB : B' ≤ B) : BlkP w B' p := ⟨h.len, h.bd, own_lift h.own (fun b x => Nat.le_trans hB (h.own.lt b x).1)⟩
theorem BlkRow.below (h : BlkRow w B lv ps) (hb : Below w.heap.size w w') : BlkRow w' B lv ps := ⟨ownsRow_below h.own hb, fun p hp => (h.blk p hp).below hb⟩
theorem BlkRow.old {q : Nat} (h : BlkRow w B lv ps) (hg : w.grownBy w' (some q)) (hq : q < B) : BlkRow w' B lv ps :=
  ⟨h.own.kept hg (.inr (fun x => by have := (h.own.lt _ x).1; omega)), fun p hp => (h.blk p hp).kept hg (.inr (fun x => by have := ((h.blk p hp).own.lt _ x).1; omega))⟩
theorem BlkRow.typed {q : Nat} {t : TypeId} {cs : Array Value} (h : BlkRow w B lv ps) (hg : w.grownBy w' (some q)) (hq : BlockIs w q t cs) (h1 : 5 ≠ t) (h2 : 27 ≠ t) : BlkRow w' B lv ps :=
  ⟨h.own.kept hg (.inr (own_block h.own hq h2)), fun p hp => (h.blk p hp).kept hg (.inr (own_block (h.blk p hp).own hq h1))⟩
theorem BlkRow.nil (w : World) (B : Nat) : BlkRow w B (.slice none 0 0) [] := ⟨World.ownsRow_nil _ _ _ _, fun _ h => by cases h⟩
theorem BlkRow.slice (h : BlkRow w B lv ps) : ∃ X cap, lv = .slice X ps.length cap ∧ ps.length ≤ cap := by
  obtain ⟨X, cap, e, h1, _⟩ := own_slice h.own
  exact ⟨X, cap, e, h1⟩
theorem BlkRow.parts {X : Option Addr} {cap : Nat} (h : BlkRow w B (.slice X ps.length cap) ps) : PartsAt w X ps := by
  refine ⟨fun p hp => (h.blk p hp).ok, fun hne => ?_⟩
  obtain ⟨g, c, e, _⟩ := own_form h.own (List.length_pos_iff.2 hne)
  obtain ⟨rfl, rfl⟩ : X = some ⟨g, 0, none⟩ ∧ cap = c := by simpa using e
  refine ⟨g, 0, rfl, fun i p hp => ?_⟩
  have hi := (List.getElem?_eq_some_iff.1 hp).1
  rw [Nat.zero_add, h.own.cellAt i (by omega), List.getElem?_map, hp]
  rfl
/-- One more block. -/
theorem BlkRow.push {lv' : Value} (h : BlkRow w B lv ps) (hp : BlkP w B p) (ho : w'.ownsRow B 27 1 lv' (ps.length + 1) (ps.map Part.val ++ [p.val])) (hg : w.grownBy w' lv.ownBlock) : BlkRow w' B lv' (ps ++ [p]) := by
  have hne : 5 ≠ 27 := by decide
  refine ⟨own_same ho (by simp) (by simp), fun q hq => ?_⟩
  rcases List.mem_append.1 hq with hq | hq
  · exact (h.blk q hq).kept hg (own_types (h.blk q hq).own h.own hne)
  · obtain rfl := List.mem_singleton.1 hq
    exact hp.kept hg (own_types hp.own h.own hne)
/-- Another block in one's place. -/
theorem BlkRow.set {g cap : Nat} (h : BlkRow w B (.slice (some ⟨g, 0, none⟩) ps.length cap) ps) (hp : BlkP w B p) (j : Nat) : BlkRow (w.setCell ⟨g, j, none⟩ p.val) B (.slice (some ⟨g, 0, none⟩) ps.length cap) (ps.set j p) ∧ w.grownBy (w.setCell ⟨g, j, none⟩ p.val) (some g) := by
  have hne : 5 ≠ 27 := by decide
  obtain ⟨h1, h2⟩ := h.own.stored j p.val
  refine ⟨⟨own_same h1 (by simp) (by rw [List.map_set]), fun q hq => ?_⟩, h2⟩
  rcases List.mem_or_eq_of_mem_set hq with hq | rfl
  · exact (h.blk q hq).kept h2 (own_types (h.blk q hq).own h.own hne)
  · exact hp.kept h2 (own_types hp.own h.own hne)
/-- A byte of a block is turned, of no block of the row. -/
theorem BlkP.set {g cap : Nat} {zs : List Int} (h : BlkP w B ⟨some ⟨g, 0, none⟩, zs, cap⟩) (j : Nat) (z : Int) (hz : 0 ≤ z ∧ z < 256) : BlkP (w.setCell ⟨g, j, none⟩ (.int .u8 z)) B ⟨some ⟨g, 0, none⟩, zs.set j z, cap⟩ ∧ w.grownBy (w.setCell ⟨g, j, none⟩ (.int .u8 z)) (some g) := by
  have ho := h.own
  have hl : zs.length = 256 := h.len
  unfold Part.val at ho
  simp only [hl] at ho
  obtain ⟨h1, h2⟩ := ho.stored j (.int .u8 z)
  refine ⟨⟨by simp only [List.length_set]; exact hl, fun y hy => ?_, ?_⟩, h2⟩
  · rcases List.mem_or_eq_of_mem_set hy with hy | rfl
    · exact h.bd y hy
    · exact hz
  · unfold Part.val
    simp only [List.length_set, hl]
    exact own_same h1 rfl (by unfold u8s; rw [List.map_set])
end
theorem xor8_all : ∀ (x : Fin 256) (j : Fin 8), bits .xor .u8 (x.val : Int) (2 ^ j.val % 256) = ((x.val ^^^ (1 <<< j.val) : Nat) : Int) := by decide +kernel
/-- What a bit that is turned makes of a byte. -/
theorem xor8 {x : Int} (hx : 0 ≤ x ∧ x < 256) {j : Nat} (hj : j < 8) : bits .xor .u8 x (2 ^ j % 256) = ((x.toNat ^^^ (1 <<< j) : Nat) : Int) := by
  have h := xor8_all ⟨x.toNat, by omega⟩ ⟨j, hj⟩
  have hx2 : (x.toNat : Int) = x := by omega
  simp only [hx2] at h
  exact h
/-- A byte is turned of a block that stands in a row of blocks. -/
theorem BlkRow.turn {w : World} {B B' : Nat} {lv : Value} {qs : List Part} {j g cap : Nat} {zs : List Int} (hq : ∀ x ∈ qs, BlkP w B x) (hp : BlkP w B' ⟨some ⟨g, 0, none⟩, zs, cap⟩) (hB : B ≤ B') (ho : w.ownsRow B 27 1 lv qs.length ((qs.set j ⟨some ⟨g, 0, none⟩, zs, cap⟩).map Part.val))
    (hlt : ∀ x ∈ qs, ∀ r, x.val.ownBlock = some r → r < g) (i : Nat) (z : Int) (hz : 0 ≤ z ∧ z < 256) : BlkRow (w.setCell ⟨g, i, none⟩ (.int .u8 z)) B lv (qs.set j ⟨some ⟨g, 0, none⟩, zs.set i z, cap⟩) ∧ w.grownBy (w.setCell ⟨g, i, none⟩ (.int .u8 z)) (some g) := by
  obtain ⟨h1, h2⟩ := hp.set i z hz
  refine ⟨⟨?_, fun x hx => ?_⟩, h2⟩
  · refine own_same (ho.kept h2 (own_types ho (hp.own) (by decide))) (by simp) ?_
    rw [List.map_set, List.map_set]
    unfold Part.val
    simp only [List.length_set]
  · rcases List.mem_or_eq_of_mem_set hx with hx | rfl
    · exact (hq x hx).kept h2 (.inr (fun e => by have := hlt x hx g e; omega))
    · exact h1.mono hB
end Go.Proofs.YtpdfmpegcejmkaaGreatDoor
