/- The document's own disk (limpetref03), in memory: each kind of block has a type of its own, so none is another. -/
import Derived.Test.YtgjdoiblgbdebaaDoorDevMem
import Derived.Laws.AppendOwnNone
namespace Go.Proofs.YtgjdoiblgbdebaaDoor
open Go.RowKit
/-- Rows of two types lie in two blocks. -/
theorem own_tags {w : World} {B1 B2 : Nat} {e1 e2 : TypeId} {s1 s2 n1 n2 : Nat} {v1 v2 : Value} {x1 x2 : List Value} (h1 : w.ownsRow B1 e1 s1 v1 n1 x1) (h2 : w.ownsRow B2 e2 s2 v2 n2 x2) (he : e1 ≠ e2) : v1.ownBlock = none ∨ v1.ownBlock ≠ v2.ownBlock := by
  rcases h1.2 with ⟨rfl, _⟩ | ⟨g1, c1, u1, rfl, _, hg1, _⟩
  · exact .inl rfl
  · right
    rcases h2.2 with ⟨rfl, _⟩ | ⟨g2, c2, u2, rfl, _, hg2, _⟩
    · intro e; cases e
    · intro e
      have e : some g1 = some g2 := e
      injection e with e
      subst e
      rw [hg1] at hg2
      injection hg2 with hg2
      injection hg2 with _ hg2
      exact he hg2
theorem own_tag {w : World} {B g : Nat} {e t : TypeId} {s n : Nat} {v : Value} {x : List Value} {cs : Array Value} (h1 : w.ownsRow B e s v n x) (h2 : BlockIs w g t cs) (he : e ≠ t) : v.ownBlock ≠ some g := by
  rcases h1.2 with ⟨rfl, _⟩ | ⟨g1, c1, u1, rfl, _, hg1, _⟩
  · intro e; cases e
  · intro e
    have e : some g1 = some g := e
    injection e with e
    subst e
    unfold BlockIs at h2
    rw [hg1] at h2
    injection h2 with h2
    injection h2 with _ h2
    exact he h2
/-- A row of bytes of its own. -/
structure RB where
  g : Nat
  cap : Nat
  bs : List Int
def RB.v (b : RB) : Value := .slice (some ⟨b.g, 0, none⟩) 256 b.cap
instance : Inhabited RB := ⟨⟨0, 0, []⟩⟩
/-- A row of bytes that is owned, as the cells of its block; its first ones written over. -/
theorem own_cur {w : World} {g cap m : Nat} {xs : List Int} (h : w.ownsRow 0 5 1 (.slice (some ⟨g, 0, none⟩) m cap) m (u8s xs)) : ∃ cur : List Value, w.heap[g]? = some (.cells cur.toArray 5 (0, 0)) ∧ cur.length = cap ∧ m ≤ cap ∧ cap ≤ maxLen ∧ cur.take m = u8s xs := by
  rcases h.2 with ⟨e, _⟩ | ⟨g', cap', cur, e, _, hg, h1, h2, h3, h4⟩
  · cases e
  · have e2 : some (⟨g, 0, none⟩ : Addr) = some ⟨g', 0, none⟩ ∧ m = m ∧ cap = cap' := by injection e with a b c; exact ⟨a, rfl, c⟩
    obtain ⟨e1, _, rfl⟩ := e2
    have e1 : g = g' := by injection e1 with e1; injection e1
    subst e1
    exact ⟨cur.toList, by simpa using hg, by rw [Array.length_toList, h3, Nat.mul_one], h1, h2, by rw [Nat.mul_one] at h4; exact h4⟩
theorem own_over {w' : World} {g cap m : Nat} {xs ys : List Int} {cur : List Value} (hx : xs.length = m) (hy : ys.length ≤ m) (h1 : cur.length = cap) (h2 : m ≤ cap) (h3 : cap ≤ maxLen) (h4 : cur.take m = u8s xs) (hg : w'.heap[g]? = some (.cells (splice cur 0 (u8s ys)).toArray 5 (0, 0))) :
    w'.ownsRow 0 5 1 (.slice (some ⟨g, 0, none⟩) m cap) m (u8s (ys ++ xs.drop ys.length)) := by
  refine ⟨by rw [u8s_len, List.length_append, List.length_drop]; omega, .inr ⟨g, cap, _, rfl, Nat.zero_le _, hg, h2, h3, ?_, ?_⟩⟩
  · rw [List.size_toArray, length_splice _ _ _ (by rw [u8s_len]; omega), h1, Nat.mul_one]
  · unfold splice
    rw [Nat.mul_one, List.take_zero, List.nil_append, Nat.zero_add, u8s_len, ← u8s_app, List.take_append, u8s_len, List.take_of_length_le (by rw [u8s_len]; exact hy)]
    congr 1
    rw [List.take_drop, show ys.length + (m - ys.length) = m by omega, h4]
    unfold u8s
    rw [List.map_drop]
structure RB.ok (w : World) (T : Nat → Prop) (b : RB) : Prop where
  own : w.ownsRow 0 5 1 b.v 256 (u8s b.bs)
  bd : BlkOk b.bs
  mem : T b.g
structure RC where
  b : RB
  hurt : Bool
instance : Inhabited RC := ⟨⟨default, false⟩⟩
structure RL where
  n : Nat
  b : RB
instance : Inhabited RL := ⟨⟨0, default⟩⟩
def RC.cells (c : RC) : List Value := [c.b.v, .bool c.hurt]
def RL.cells (l : RL) : List Value := [.int .i64 (l.n : Int), l.b.v]
def RC.m (c : RC) : List Int × Bool := (c.b.bs, c.hurt)
def RL.m (l : RL) : Nat × List Int := (l.n, l.b.bs)
theorem RB.ok.keep {w w' : World} {T T' : Nat → Prop} {b : RB} (h : b.ok w T) (hk : w'.heap[b.g]? = w.heap[b.g]?) (hT : T' b.g) : b.ok w' T' :=
  ⟨own_keep h.own (fun g e => by
    have e : some b.g = some g := e
    injection e with e
    rw [← e]; exact hk), h.bd, hT⟩
theorem RB.ok.bytes {w : World} {T : Nat → Prop} {b : RB} (h : b.ok w T) : BytesAt w (some ⟨b.g, 0, none⟩) b.bs := own_bytes h.own h.bd.2
theorem RB.ok.cap_le {w : World} {T : Nat → Prop} {b : RB} (h : b.ok w T) : 256 ≤ b.cap ∧ b.cap ≤ maxLen := by
  rcases h.own.2 with ⟨e, _⟩ | ⟨g, c, u, e, _, _, h1, h2, _⟩
  · cases e
  · have e : Value.slice (some ⟨b.g, 0, none⟩) 256 b.cap = .slice (some ⟨g, 0, none⟩) 256 c := e
    injection e with _ _ e
    subst e
    exact ⟨h1, h2⟩
/-- The document's disk: six cells of its own, its blocks, its writes that wait. -/
structure RefR (w : World) (T : Nat → Prop) (h : Nat) (cv wv : Value) (C : List RC) (L : List RL) (ar tu cr : Int) (dn : Bool) : Prop where
  foot : ∀ k, T k → k < w.heap.size
  self : T h
  blk : BlockIs w h 66 #[cv, wv, .int .i64 ar, .int .i64 tu, .int .i64 cr, .bool dn]
  cown : w.ownsRow 0 68 2 cv C.length (C.flatMap RC.cells)
  wown : w.ownsRow 0 94 2 wv L.length (L.flatMap RL.cells)
  cm : ∀ b, cv.ownBlock = some b → T b
  wm : ∀ b, wv.ownBlock = some b → T b
  cb : ∀ c ∈ C, c.b.ok w T
  wb : ∀ l ∈ L, l.n < C.length ∧ l.b.ok w T
  many : C.length ≤ 4096
theorem rc_len (c : RC) : (RC.cells c).length = 2 := rfl
theorem rl_len (l : RL) : (RL.cells l).length = 2 := rfl
section
variable {w w' : World} {T T' : Nat → Prop} {h : Nat} {cv wv : Value} {C : List RC} {L : List RL} {ar tu cr : Int} {dn : Bool}
theorem RefR.lt (k : RefR w T h cv wv C L ar tu cr dn) : h < w.heap.size := k.foot h k.self
theorem RefR.keep (k : RefR w T h cv wv C L ar tu cr dn) (hs : w.heap.size ≤ w'.heap.size) (hk : ∀ b, T b → w'.heap[b]? = w.heap[b]?) : RefR w' T h cv wv C L ar tu cr dn :=
  ⟨fun _ hj => Nat.lt_of_lt_of_le (k.foot _ hj) hs, k.self, k.blk.keep (hk _ k.self), own_keep k.cown (fun b hb => hk b (k.cm b hb)), own_keep k.wown (fun b hb => hk b (k.wm b hb)), k.cm, k.wm, fun c hc => (k.cb c hc).keep (hk _ (k.cb c hc).mem) (k.cb c hc).mem, fun l hl => ⟨(k.wb l hl).1, (k.wb l hl).2.keep (hk _ (k.wb l hl).2.mem) (k.wb l hl).2.mem⟩, k.many⟩
theorem RefR.below (k : RefR w T h cv wv C L ar tu cr dn) (hb : Below w.heap.size w w') : RefR w' T h cv wv C L ar tu cr dn := k.keep hb.size (fun b hT => hb.block b (k.foot b hT))
theorem RefR.drewN (k : RefR w T h cv wv C L ar tu cr dn) (n : Nat) : RefR (w.drewN n) T h cv wv C L ar tu cr dn := k.keep (Nat.le_refl _) (fun _ _ => rfl)
theorem RefR.drew (k : RefR w T h cv wv C L ar tu cr dn) : RefR w.drew T h cv wv C L ar tu cr dn := k.keep (Nat.le_refl _) (fun _ _ => rfl)
theorem RefR.mono (k : RefR w T h cv wv C L ar tu cr dn) (hT : ∀ j, T j → T' j) (hf : ∀ j, T' j → j < w.heap.size) : RefR w T' h cv wv C L ar tu cr dn :=
  ⟨hf, hT _ k.self, k.blk, k.cown, k.wown, fun b hb => hT _ (k.cm b hb), fun b hb => hT _ (k.wm b hb), fun c hc => (k.cb c hc).keep rfl (hT _ (k.cb c hc).mem), fun l hl => ⟨(k.wb l hl).1, (k.wb l hl).2.keep rfl (hT _ (k.wb l hl).2.mem)⟩, k.many⟩
theorem RefR.cell6 (k : RefR w T h cv wv C L ar tu cr dn) :
    w.cell? ⟨h, 0, none⟩ = some cv ∧ w.cell? ⟨h, 1, none⟩ = some wv ∧ w.cell? ⟨h, 2, none⟩ = some (.int .i64 ar) ∧ w.cell? ⟨h, 3, none⟩ = some (.int .i64 tu) ∧ w.cell? ⟨h, 4, none⟩ = some (.int .i64 cr) ∧ w.cell? ⟨h, 5, none⟩ = some (.bool dn) :=
  ⟨k.blk.cell 0, k.blk.cell 1, k.blk.cell 2, k.blk.cell 3, k.blk.cell 4, k.blk.cell 5⟩
theorem RefR.wmin (k : RefR w T h cv wv C L ar tu cr dn) : ∀ p ∈ L.map RL.m, p.1 < C.length ∧ BlkOk p.2 := fun p hp => by
  obtain ⟨l, hl, rfl⟩ := List.mem_map.1 hp
  exact ⟨(k.wb l hl).1, (k.wb l hl).2.bd⟩
theorem RefR.cmin (k : RefR w T h cv wv C L ar tu cr dn) : ∀ c ∈ C.map RC.m, BlkOk c.1 := fun p hp => by
  obtain ⟨c, hc, rfl⟩ := List.mem_map.1 hp
  exact (k.cb c hc).bd
/-- Where its blocks lie, if there is one. -/
theorem RefR.cform (k : RefR w T h cv wv C L ar tu cr dn) (h0 : 0 < C.length) : ∃ g cap, cv = .slice (some ⟨g, 0, none⟩) C.length cap ∧ C.length ≤ cap ∧ cap ≤ maxLen := by
  obtain ⟨g, cap, e, _, _, h1, h2⟩ := own_form k.cown h0
  exact ⟨g, cap, e, h1, h2⟩
theorem RefR.wform (k : RefR w T h cv wv C L ar tu cr dn) (h0 : 0 < L.length) : ∃ g cap, wv = .slice (some ⟨g, 0, none⟩) L.length cap ∧ L.length ≤ cap ∧ cap ≤ maxLen := by
  obtain ⟨g, cap, e, _, _, h1, h2⟩ := own_form k.wown h0
  exact ⟨g, cap, e, h1, h2⟩
theorem flat2_at {α : Type} (f : α → List Value) (hf : ∀ x, (f x).length = 2) {l : List α} {n : Nat} (hn : n < l.length) {i : Nat} (hi : i < 2) : (l.flatMap f)[n * 2 + i]? = (f l[n])[i]? := flat_at f 2 (fun x _ => hf x) hn hi
theorem RefR.cat (k : RefR w T h cv wv C L ar tu cr dn) {n : Nat} (hn : n < C.length) {g cap : Nat} (e : cv = .slice (some ⟨g, 0, none⟩) C.length cap) : w.cell? ⟨g, n * 2, none⟩ = some C[n].b.v ∧ w.cell? ⟨g, n * 2 + 1, none⟩ = some (.bool C[n].hurt) := by
  subst e
  have h0 := k.cown.cellAt (n * 2) (by omega)
  have h1 := k.cown.cellAt (n * 2 + 1) (by omega)
  have e0 := flat2_at RC.cells rc_len hn (i := 0) (by decide)
  have e1 := flat2_at RC.cells rc_len hn (i := 1) (by decide)
  rw [Nat.add_zero] at e0
  exact ⟨h0.trans e0, h1.trans e1⟩
theorem RefR.wat (k : RefR w T h cv wv C L ar tu cr dn) {n : Nat} (hn : n < L.length) {g cap : Nat} (e : wv = .slice (some ⟨g, 0, none⟩) L.length cap) : w.cell? ⟨g, n * 2, none⟩ = some (.int .i64 (L[n].n : Int)) ∧ w.cell? ⟨g, n * 2 + 1, none⟩ = some L[n].b.v := by
  subst e
  have h0 := k.wown.cellAt (n * 2) (by omega)
  have h1 := k.wown.cellAt (n * 2 + 1) (by omega)
  have e0 := flat2_at RL.cells rl_len hn (i := 0) (by decide)
  have e1 := flat2_at RL.cells rl_len hn (i := 1) (by decide)
  rw [Nat.add_zero] at e0
  exact ⟨h0.trans e0, h1.trans e1⟩
theorem flat2_set0 {α : Type} (f : α → List Value) (hf : ∀ x, (f x).length = 2) {l : List α} {n : Nat} (hn : n < l.length) (y : α) (v : Value) (hy : f y = (f l[n]).set 0 v) : (l.flatMap f).set (n * 2) v = (l.set n y).flatMap f := by
  have h1 := flat_splice f 2 (fun x _ => hf x) hn (o := 0) (vs := [v]) (y := y) (by simp) (by rw [splice_one _ _ _ (by rw [hf]; decide)]; exact hy)
  rw [Nat.add_zero, splice_one _ _ _ (by rw [flat_len f 2 _ (fun x _ => hf x)]; omega)] at h1
  exact h1
theorem flat2_set1 {α : Type} (f : α → List Value) (hf : ∀ x, (f x).length = 2) {l : List α} {n : Nat} (hn : n < l.length) (y : α) (v : Value) (hy : f y = (f l[n]).set 1 v) : (l.flatMap f).set (n * 2 + 1) v = (l.set n y).flatMap f := by
  have h1 := flat_splice f 2 (fun x _ => hf x) hn (o := 1) (vs := [v]) (y := y) (by simp) (by rw [splice_one _ _ _ (by rw [hf]; decide)]; exact hy)
  rw [splice_one _ _ _ (by rw [flat_len f 2 _ (fun x _ => hf x)]; omega)] at h1
  exact h1
/-- What turned is the blocks' row alone. -/
theorem RefR.turnC (k : RefR w T h cv wv C L ar tu cr dn) {g cap : Nat} (e : cv = .slice (some ⟨g, 0, none⟩) C.length cap) {C' : List RC} (hl : C'.length = C.length) (ho : w'.ownsRow 0 68 2 cv C.length (C'.flatMap RC.cells)) (hg : w.grownBy w' (some g)) (hc : ∀ c ∈ C', c ∈ C ∨ c.b.ok w T) : RefR w' T h cv wv C' L ar tu cr dn := by
  subst e
  have tg : ∀ b : RB, b.ok w T → b.ok w' T := fun b hb => by
    have hne := own_tags hb.own k.cown (by decide)
    refine hb.keep (hg.block _ (k.foot _ hb.mem) ?_) hb.mem
    intro e
    rcases hne with hne | hne
    · cases hne
    · exact hne e
  refine ⟨fun _ hj => Nat.lt_of_lt_of_le (k.foot _ hj) hg.size, k.self, k.blk.kept hg (fun e => own_tag k.cown k.blk (by decide) e.symm), by rw [hl]; exact ho, k.wown.kept hg (own_tags k.wown k.cown (by decide)), k.cm, k.wm, fun c hc' => ?_, fun l hl' => ⟨by rw [hl]; exact (k.wb l hl').1, tg _ (k.wb l hl').2⟩, by rw [hl]; exact k.many⟩
  rcases hc c hc' with hc' | hc'
  · exact tg _ (k.cb c hc')
  · exact tg _ hc'
/-- A block's bytes are another row. -/
theorem RefR.setB (k : RefR w T h cv wv C L ar tu cr dn) {g cap : Nat} (e : cv = .slice (some ⟨g, 0, none⟩) C.length cap) {n : Nat} (hn : n < C.length) (b : RB) (hb : b.ok w T) : RefR (w.setCell ⟨g, n * 2, none⟩ b.v) T h cv wv (C.set n { C[n] with b := b }) L ar tu cr dn ∧ w.grownBy (w.setCell ⟨g, n * 2, none⟩ b.v) (some g) := by
  subst e
  obtain ⟨h1, h2⟩ := k.cown.stored (n * 2) b.v
  rw [flat2_set0 RC.cells rc_len hn { C[n] with b := b } b.v rfl] at h1
  refine ⟨k.turnC rfl (List.length_set) h1 h2 (fun c hc => ?_), h2⟩
  rcases List.mem_or_eq_of_mem_set hc with hc | rfl
  · exact .inl hc
  · exact .inr hb
theorem RefR.setH (k : RefR w T h cv wv C L ar tu cr dn) {g cap : Nat} (e : cv = .slice (some ⟨g, 0, none⟩) C.length cap) {n : Nat} (hn : n < C.length) (x : Bool) : RefR (w.setCell ⟨g, n * 2 + 1, none⟩ (.bool x)) T h cv wv (C.set n { C[n] with hurt := x }) L ar tu cr dn ∧ w.grownBy (w.setCell ⟨g, n * 2 + 1, none⟩ (.bool x)) (some g) := by
  subst e
  obtain ⟨h1, h2⟩ := k.cown.stored (n * 2 + 1) (.bool x)
  rw [flat2_set1 RC.cells rc_len hn { C[n] with hurt := x } (.bool x) rfl] at h1
  refine ⟨k.turnC rfl (List.length_set) h1 h2 (fun c hc => ?_), h2⟩
  rcases List.mem_or_eq_of_mem_set hc with hc | rfl
  · exact .inl hc
  · exact .inr (k.cb C[n] (List.getElem_mem hn))
/-- What turned is its own six cells alone. -/
theorem RefR.own6 (k : RefR w T h cv wv C L ar tu cr dn) {cv' wv' : Value} {C' : List RC} {L' : List RL} {ar' tu' cr' : Int} {dn' : Bool} (hg : w.grownBy w' (some h)) (hb : BlockIs w' h 66 #[cv', wv', .int .i64 ar', .int .i64 tu', .int .i64 cr', .bool dn'])
    (hc : w'.ownsRow 0 68 2 cv' C'.length (C'.flatMap RC.cells)) (hw : w'.ownsRow 0 94 2 wv' L'.length (L'.flatMap RL.cells)) (hcm : ∀ b, cv'.ownBlock = some b → T b) (hwm : ∀ b, wv'.ownBlock = some b → T b)
    (hcb : ∀ c ∈ C', c ∈ C) (hwb : ∀ l ∈ L', l ∈ L) (hl : C'.length = C.length) : RefR w' T h cv' wv' C' L' ar' tu' cr' dn' := by
  have tg : ∀ b : RB, b.ok w T → b.ok w' T := fun b hb => by
    refine hb.keep (hg.block _ (k.foot _ hb.mem) ?_) hb.mem
    intro e
    exact own_tag hb.own k.blk (by decide) e
  exact ⟨fun _ hj => Nat.lt_of_lt_of_le (k.foot _ hj) hg.size, k.self, hb, hc, hw, hcm, hwm, fun c hc' => tg _ (k.cb c (hcb c hc')), fun l hl' => ⟨by rw [hl]; exact (k.wb l (hwb l hl')).1, tg _ (k.wb l (hwb l hl')).2⟩, by rw [hl]; exact k.many⟩
theorem RefR.cset (k : RefR w T h cv wv C L ar tu cr dn) (i : Nat) (u : Value) : w.grownBy (w.setCell ⟨h, i, none⟩ u) (some h) ∧ (w.setCell ⟨h, i, none⟩ u).ownsRow 0 68 2 cv C.length (C.flatMap RC.cells) ∧ (w.setCell ⟨h, i, none⟩ u).ownsRow 0 94 2 wv L.length (L.flatMap RL.cells) := by
  have hg : w.grownBy (w.setCell ⟨h, i, none⟩ u) (some h) := grown_at (World.grownBy.refl w (some h)) i u
  exact ⟨hg, k.cown.kept hg (.inr (own_tag k.cown k.blk (by decide))), k.wown.kept hg (.inr (own_tag k.wown k.blk (by decide)))⟩
theorem RefR.setA (k : RefR w T h cv wv C L ar tu cr dn) (x : Int) : RefR (w.setCell ⟨h, 2, none⟩ (.int .i64 x)) T h cv wv C L x tu cr dn :=
  k.own6 (k.cset 2 _).1 (k.blk.set1 2 _) (k.cset 2 _).2.1 (k.cset 2 _).2.2 k.cm k.wm (fun _ h => h) (fun _ h => h) rfl
theorem RefR.setT (k : RefR w T h cv wv C L ar tu cr dn) (x : Int) : RefR (w.setCell ⟨h, 3, none⟩ (.int .i64 x)) T h cv wv C L ar x cr dn :=
  k.own6 (k.cset 3 _).1 (k.blk.set1 3 _) (k.cset 3 _).2.1 (k.cset 3 _).2.2 k.cm k.wm (fun _ h => h) (fun _ h => h) rfl
theorem RefR.setCr (k : RefR w T h cv wv C L ar tu cr dn) (x : Int) : RefR (w.setCell ⟨h, 4, none⟩ (.int .i64 x)) T h cv wv C L ar tu x dn :=
  k.own6 (k.cset 4 _).1 (k.blk.set1 4 _) (k.cset 4 _).2.1 (k.cset 4 _).2.2 k.cm k.wm (fun _ h => h) (fun _ h => h) rfl
theorem RefR.setD (k : RefR w T h cv wv C L ar tu cr dn) (x : Bool) : RefR (w.setCell ⟨h, 5, none⟩ (.bool x)) T h cv wv C L ar tu cr x :=
  k.own6 (k.cset 5 _).1 (k.blk.set1 5 _) (k.cset 5 _).2.1 (k.cset 5 _).2.2 k.cm k.wm (fun _ h => h) (fun _ h => h) rfl
theorem RefR.setW0 (k : RefR w T h cv wv C L ar tu cr dn) : RefR (w.setCell ⟨h, 1, none⟩ (.slice none 0 0)) T h cv (.slice none 0 0) C [] ar tu cr dn :=
  k.own6 (k.cset 1 _).1 (k.blk.set1 1 _) (k.cset 1 _).2.1 (World.ownsRow_nil _ _ _ _) k.cm (fun b e => by cases e) (fun _ h => h) (fun _ h => by cases h) rfl
theorem RefR.setWv (k : RefR w T h cv wv C L ar tu cr dn) {w1 w2 : World} {v' : Value} {l : RL} (hb : Below w.heap.size w w1) (hn : l.n < C.length) (hl : l.b.ok w1 T') (hT : ∀ j, T j → T' j) (ho : w2.ownsRow 0 94 2 v' (L.length + 1) (L.flatMap RL.cells ++ RL.cells l)) (hg : w1.grownBy w2 wv.ownBlock) (hv : v'.ownBlock = wv.ownBlock ∨ v'.ownBlock = some w1.heap.size) (hf : ∀ j, T' j → j < w1.heap.size) :
    RefR (w2.setCell ⟨h, 1, none⟩ v') (fun j => T' j ∨ (w1.heap.size ≤ j ∧ j < w2.heap.size)) h cv v' C (L ++ [l]) ar tu cr dn ∧ Chg T w (w2.setCell ⟨h, 1, none⟩ v') := by
  have k1 := (k.below hb).mono hT hf
  have hs1 := hb.size
  have hs2 := hg.size
  have htW : ∀ b : RB, b.ok w1 T' → wv.ownBlock ≠ some b.g := fun b hb => by
    rcases own_tags k1.wown hb.own (by decide) with e | e
    · rw [e]; intro e; cases e
    · exact e
  have hset := (grown_at (World.grownBy.refl w2 (some h)) 1 v')
  have hblk2 : BlockIs w2 h 66 #[cv, wv, .int .i64 ar, .int .i64 tu, .int .i64 cr, .bool dn] := k1.blk.kept hg (fun e => own_tag k1.wown k1.blk (by decide) e.symm)
  have hc2 : w2.ownsRow 0 68 2 cv C.length (C.flatMap RC.cells) := k1.cown.kept hg (own_tags k1.cown k1.wown (by decide))
  have tg : ∀ b : RB, b.ok w1 T' → b.ok (w2.setCell ⟨h, 1, none⟩ v') (fun j => T' j ∨ (w1.heap.size ≤ j ∧ j < w2.heap.size)) := fun b hb => by
    refine hb.keep ((Below.heap_setCell w2 ⟨h, 1, none⟩ v' b.g ?_).trans (hg.block _ (hf _ hb.mem) (fun e => htW b hb e.symm))) (.inl hb.mem)
    intro e
    have e : b.g = h := e
    exact own_tag hb.own k1.blk (by decide) (by rw [← e]; rfl)
  have hlt := fun b (e : v'.ownBlock = some b) => (ho.lt b e).2
  refine ⟨⟨?_, .inl k1.self, hblk2.set1 1 v', hc2.kept hset (.inr (own_tag hc2 hblk2 (by decide))), ?_, fun b e => .inl (k1.cm b e), ?_, fun c hc => tg _ (k1.cb c hc), ?_, k.many⟩, ?_⟩
  · rintro j (hj | hj)
    · have := hf j hj
      show j < (w2.setCell _ _).heap.size
      rw [show (w2.setCell ⟨h, 1, none⟩ v').heap.size = w2.heap.size by simp [World.setCell]]; omega
    · rw [show (w2.setCell ⟨h, 1, none⟩ v').heap.size = w2.heap.size by simp [World.setCell]]; exact hj.2
  · rw [List.length_append, List.flatMap_append]
    refine own_same (ho.kept hset (.inr (own_tag ho hblk2 (by decide)))) rfl (by simp)
  · intro b e
    rcases hv with h1 | h1
    · exact .inl (k1.wm b (h1 ▸ e))
    · rw [h1] at e; injection e with e
      have := hlt b (by rw [h1, e])
      exact .inr ⟨by omega, this⟩
  · intro x hx
    rcases List.mem_append.1 hx with hx | hx
    · exact ⟨(k1.wb x hx).1, tg _ (k1.wb x hx).2⟩
    · obtain rfl := List.mem_singleton.1 hx
      exact ⟨hn, tg _ hl⟩
  · refine Chg.set ⟨hg.os.trans hb.os, hg.tape.trans hb.tape, hg.output.trans hb.output, by omega, fun j hj hT => ?_⟩ (.inl k.self) _
    exact (hg.block j (by omega) (fun e => hT (k.wm j e.symm))).trans (hb.block j hj)
/-- Only its own blocks, and new ones, have turned. -/
theorem RefR.chg1 (k : RefR w T h cv wv C L ar tu cr dn) (i : Nat) (u : Value) : Chg T w (w.setCell ⟨h, i, none⟩ u) := Chg.of_grown (k.cset i u).1 (fun b e => by cases e; exact k.self)
end
/-- What is in memory is the disk that the page tells. -/
structure RefM (D : DM) (C : List RC) (L : List RL) (ar tu cr : Int) (dn : Bool) : Prop where
  cells : D.cells = C.map RC.m
  waits : D.waits = L.map RL.m
  ar : ar = D.armed
  tu : tu = D.turns
  cr : cr = D.crashes
  dn : dn = D.down
  lo : D.armed ≤ 9223372036854775807
def RefAt3 (w : World) (T : Nat → Prop) (h : Nat) (D : DM) : Prop := ∃ cv wv C L ar tu cr dn, RefR w T h cv wv C L ar tu cr dn ∧ RefM D C L ar tu cr dn
section
variable {w w' : World} {T T' : Nat → Prop} {h : Nat} {D : DM}
theorem RefAt3.keep (k : RefAt3 w T h D) (hs : w.heap.size ≤ w'.heap.size) (hk : ∀ b, T b → w'.heap[b]? = w.heap[b]?) : RefAt3 w' T h D := by
  obtain ⟨cv, wv, C, L, ar, tu, cr, dn, k, m⟩ := k; exact ⟨cv, wv, C, L, ar, tu, cr, dn, k.keep hs hk, m⟩
theorem RefAt3.below (k : RefAt3 w T h D) (hb : Below w.heap.size w w') : RefAt3 w' T h D := by
  obtain ⟨cv, wv, C, L, ar, tu, cr, dn, k, m⟩ := k; exact ⟨cv, wv, C, L, ar, tu, cr, dn, k.below hb, m⟩
theorem RefAt3.mono (k : RefAt3 w T h D) (hT : ∀ j, T j → T' j) (hf : ∀ j, T' j → j < w.heap.size) : RefAt3 w T' h D := by
  obtain ⟨cv, wv, C, L, ar, tu, cr, dn, k, m⟩ := k; exact ⟨cv, wv, C, L, ar, tu, cr, dn, k.mono hT hf, m⟩
theorem RefAt3.foot (k : RefAt3 w T h D) : ∀ j, T j → j < w.heap.size := by
  obtain ⟨cv, wv, C, L, ar, tu, cr, dn, k, m⟩ := k; exact k.foot
theorem RefAt3.self (k : RefAt3 w T h D) : T h := by
  obtain ⟨cv, wv, C, L, ar, tu, cr, dn, k, m⟩ := k; exact k.self
theorem RefAt3.grow_same (k : RefAt3 w T h D) : RefAt3 w (grow T w w) h D := k.mono (fun _ hj => .inl hj) (by
  rintro j (hj | hj)
  · exact k.foot j hj
  · exact hj.2)
end
/-- What a call of the document's disk leaves. -/
structure Ref3 (w : World) (T : Nat → Prop) (h : Nat) (D : DM) (w' : World) : Prop where
  at_ : RefAt3 w' (grow T w w') h D
  fr : Chg T w w'
theorem Ref3.same {w : World} {T : Nat → Prop} {h : Nat} {D : DM} (k : RefAt3 w T h D) : Ref3 w T h D w := ⟨k.grow_same, Chg.refl _ _⟩
theorem Ref3.below {w w' : World} {T : Nat → Prop} {h : Nat} {D : DM} (k : RefAt3 w T h D) (hb : Below w.heap.size w w') : Ref3 w T h D w' :=
  ⟨(k.below hb).mono (fun _ hj => .inl hj) (grow_lt k.foot hb.size), Chg.of_below hb⟩
theorem Ref3.trans {w w1 w2 : World} {T : Nat → Prop} {h : Nat} {D1 D2 : DM} (a : Ref3 w T h D1 w1) (b : Ref3 w1 (grow T w w1) h D2 w2) (hf : ∀ k, T k → k < w.heap.size) : Ref3 w T h D2 w2 :=
  ⟨b.at_.mono (grow_trans a.fr.size b.fr.size) (grow_lt hf (Nat.le_trans a.fr.size b.fr.size)), a.fr.trans b.fr⟩
end Go.Proofs.YtgjdoiblgbdebaaDoor
