/- seg.recordOf: the record of an index whose block this is. -/
import Derived.Test.YtpdfmpegcejmkaaGreatDoorUnitLaid
import Derived.Test.YtpdfmpegcejmkaaGreatDoorKitBoxes
import Derived.Test.YtpdfmpegcejmkaaGreatDoorKitAppendL
namespace Go.Proofs.YtpdfmpegcejmkaaGreatDoor
open Go.RowKit
/-- A cut of a row of the call's own, or none. -/
def PartOf (B : Nat) (w : World) (v : Value) (xs : List Int) : Prop := ∃ (Y : Option Addr) (cy : Nat) (bs : List Int) (k : Nat), w.ownsRow B 5 1 (.slice Y bs.length cy) bs.length (u8s bs) ∧ (∀ z ∈ bs, 0 ≤ z ∧ z < 256) ∧ bs.length ≤ 239 ∧ k ≤ bs.length ∧ v = .slice (cutAt Y cy k) (bs.length - k) (cy - k) ∧ xs = bs.drop k
theorem PartOf.nil (B : Nat) (w : World) : PartOf B w (.slice none 0 0) [] := by
  refine ⟨none, 0, [], 0, World.ownsRow_nil _ _ _ _, ?_, Nat.zero_le _, Nat.le_refl _, rfl, rfl⟩
  intro z hz
  cases hz
theorem PartOf.kept {B q : Nat} {w w' : World} {v : Value} {xs : List Int} (h : PartOf B w v xs) (hg : w.grownBy w' (some q)) (hq : q < B) : PartOf B w' v xs := by
  obtain ⟨Y, cy, bs, k, h1, h2⟩ := h
  exact ⟨Y, cy, bs, k, h1.kept hg (.inr (fun x => by have := (h1.lt _ x).1; omega)), h2⟩
theorem PartOf.mono {B B' : Nat} {w : World} {v : Value} {xs : List Int} (h : PartOf B w v xs) (hB : B' ≤ B) : PartOf B' w v xs := by
  obtain ⟨Y, cy, bs, k, h1, h2⟩ := h
  exact ⟨Y, cy, bs, k, own_lift h1 (fun b x => Nat.le_trans hB (h1.lt b x).1), h2⟩
theorem PartOf.below {B : Nat} {w w' : World} {v : Value} {xs : List Int} (h : PartOf B w v xs) (hb : Below w.heap.size w w') : PartOf B w' v xs := by
  obtain ⟨Y, cy, bs, k, h1, h2⟩ := h
  exact ⟨Y, cy, bs, k, ownsRow_below h1 hb, h2⟩
theorem PartOf.reads {B : Nat} {w : World} {v : Value} {xs : List Int} (h : PartOf B w v xs) : ∃ X c, v = .slice X xs.length c ∧ BytesAt w X xs ∧ xs.length ≤ c ∧ c ≤ maxLen ∧ (X = none → c = 0) := by
  obtain ⟨Y, cy, bs, k, h1, h2, h3, h4, rfl, rfl⟩ := h
  obtain ⟨Y', cy', e, h5, h6⟩ := own_slice h1
  obtain ⟨rfl, rfl⟩ : Y = Y' ∧ cy = cy' := by simpa using e
  refine ⟨_, _, by rw [List.length_drop], cut_reads (own_reads h1 h2) h5, by rw [List.length_drop]; omega, by omega, fun hx => ?_⟩
  have h7 := own_nil_cap h1
  unfold cutAt at hx
  split at hx
  · omega
  · cases Y with
    | none => have := h7 rfl; omega
    | some ad => cases hx
theorem fieldR_zero (bs : List Int) (w : Int) (s : RSt) (p : Nat) (l : Bool) (h : (fieldR bs w s).2 = .bad p l) : (fieldR bs w s).1 = 0 := by
  cases s with
  | bad _ _ => rfl
  | ok k =>
    unfold fieldR at h ⊢
    simp only at h ⊢
    split
    · rfl
    · next h1 =>
      rw [if_neg h1] at h
      split
      · rfl
      · next h2 => rw [if_neg h2] at h; cases h
/-- What the package takes for the entry, and the ident ahead. -/
def codeE (n : Int) (bs : List Int) : Ent × IdentI :=
  (⟨n, (fieldR bs 6 (fieldR bs 1 (fieldR bs 6 (.ok 0)).2).2).1, (fieldR bs 1 (fieldR bs 6 (fieldR bs 1 (fieldR bs 6 (.ok 0)).2).2).2).1, bs.drop (restK bs (fieldR bs 1 (fieldR bs 6 (fieldR bs 1 (fieldR bs 6 (.ok 0)).2).2).2).2)⟩, ⟨n - 1, (fieldR bs 6 (.ok 0)).1, (fieldR bs 1 (fieldR bs 6 (.ok 0)).2).1⟩)
theorem parted_code (n : Int) (bs : List Int) (hb : ∀ z ∈ bs, 0 ≤ z ∧ z < 256) : partedE n bs = if (recordR (codeE n bs).2 (codeE n bs).1).2 ≠ 0 then (noEnt, noIdent, 4) else ((codeE n bs).1, (codeE n bs).2, 0) := by
  rw [parted_read n bs hb]
  unfold codeE
  simp only
  have hz := fieldR_zero bs 1 (fieldR bs 6 (fieldR bs 1 (fieldR bs 6 (.ok 0)).2).2).2
  cases hq : (fieldR bs 1 (fieldR bs 6 (fieldR bs 1 (fieldR bs 6 (.ok 0)).2).2).2).2 with
  | ok j => rfl
  | bad p l =>
    have h0 := hz p l hq
    rw [h0]
    simp only [readE]
    rw [if_pos]
    unfold recordR
    rw [if_pos]
    · decide
    · refine decide_eq_false ?_
      simp
/-- Seven cells, the first four of which are stored anew. -/
theorem BlockIs.put4 {w : World} {g : Nat} {t : TypeId} {a b c d e f h : Value} (k : BlockIs w g t #[a, b, c, d, e, f, h]) (x y z u : Value) :
    BlockIs ((((w.setCell ⟨g, 0, none⟩ x).setCell ⟨g, 1, none⟩ y).setCell ⟨g, 2, none⟩ z).setCell ⟨g, 3, none⟩ u) g t #[x, y, z, u, e, f, h] ∧ w.grownBy ((((w.setCell ⟨g, 0, none⟩ x).setCell ⟨g, 1, none⟩ y).setCell ⟨g, 2, none⟩ z).setCell ⟨g, 3, none⟩ u) (some g) :=
  ⟨(((k.set1 0 x).set1 1 y).set1 2 z).set1 3 u, grown_at (grown_at (grown_at (grown_at (World.grownBy.refl w (some g)) 0 x) 1 y) 2 z) 3 u⟩
theorem BlockIs.put7 {w : World} {g : Nat} {t : TypeId} {a b c d e f h : Value} (k : BlockIs w g t #[a, b, c, d, e, f, h]) (x y z u x' y' z' : Value) :
    BlockIs (((((((w.setCell ⟨g, 0, none⟩ x).setCell ⟨g, 1, none⟩ y).setCell ⟨g, 2, none⟩ z).setCell ⟨g, 3, none⟩ u).setCell ⟨g, 4, none⟩ x').setCell ⟨g, 5, none⟩ y').setCell ⟨g, 6, none⟩ z') g t #[x, y, z, u, x', y', z'] ∧ w.grownBy (((((((w.setCell ⟨g, 0, none⟩ x).setCell ⟨g, 1, none⟩ y).setCell ⟨g, 2, none⟩ z).setCell ⟨g, 3, none⟩ u).setCell ⟨g, 4, none⟩ x').setCell ⟨g, 5, none⟩ y').setCell ⟨g, 6, none⟩ z') (some g) :=
  by
  obtain ⟨h4, g4⟩ := k.put4 x y z u
  generalize (((w.setCell ⟨g, 0, none⟩ x).setCell ⟨g, 1, none⟩ y).setCell ⟨g, 2, none⟩ z).setCell ⟨g, 3, none⟩ u = w4 at *
  have h5 : BlockIs (w4.setCell ⟨g, 4, none⟩ x') g t #[x, y, z, u, x', f, h] := h4.set1 4 x'
  have h6 : BlockIs ((w4.setCell ⟨g, 4, none⟩ x').setCell ⟨g, 5, none⟩ y') g t #[x, y, z, u, x', y', h] := h5.set1 5 y'
  exact ⟨h6.set1 6 z', grown_at (grown_at (grown_at g4 4 x') 5 y') 6 z'⟩
theorem BlockIs.seven {w : World} {g : Nat} {t : TypeId} {a b c d e f h : Value} (k : BlockIs w g t #[a, b, c, d, e, f, h]) : w.cell? ⟨g, 0, none⟩ = some a ∧ w.cell? ⟨g, 1, none⟩ = some b ∧ w.cell? ⟨g, 2, none⟩ = some c ∧ w.cell? ⟨g, 3, none⟩ = some d ∧ w.cell? ⟨g, 4, none⟩ = some e ∧ w.cell? ⟨g, 5, none⟩ = some f ∧ w.cell? ⟨g, 6, none⟩ = some h :=
  ⟨k.cell 0, k.cell 1, k.cell 2, k.cell 3, k.cell 4, k.cell 5, k.cell 6⟩
theorem BlockIs.free7 {w : World} {g : Nat} {t : TypeId} {cs : Array Value} (k : BlockIs w g t cs) : w.frozen? ⟨g, 0, none⟩ = false ∧ w.frozen? ⟨g, 1, none⟩ = false ∧ w.frozen? ⟨g, 2, none⟩ = false ∧ w.frozen? ⟨g, 3, none⟩ = false ∧ w.frozen? ⟨g, 4, none⟩ = false ∧ w.frozen? ⟨g, 5, none⟩ = false ∧ w.frozen? ⟨g, 6, none⟩ = false :=
  ⟨k.free 0, k.free 1, k.free 2, k.free 3, k.free 4, k.free 5, k.free 6⟩
abbrev zero7 : Array Value := #[.int .i64 0, .int .i64 0, .int .i64 0, .slice none 0 0, .int .i64 0, .int .i64 0, .int .i64 0]
/-- Amid recordOf: the box of the result, the reader's box, the reader, the body. -/
structure RoG (σ : Sen) (w : World) (g p : Nat) (Y : Option Addr) (cy : Nat) (bs : List Int) (s : RSt) (W : World) : Prop where
  x : BlockIs W w.heap.size 95 zero7
  b : BlockIs W p 122 #[.pointer (some ⟨g, 0, none⟩), .slice Y bs.length cy]
  rd : RdAt σ W g bs s
  o : W.ownsRow (w.heap.size + 1) 5 1 (.slice Y bs.length cy) bs.length (u8s bs)
  bl : Below w.heap.size w W
  n1 : w.heap.size < g
  n2 : g < p
  n3 : ∀ a, Y = some a → a.block < g
section
variable {σ : Sen} {w W W' : World} {g p q : Nat} {Y : Option Addr} {cy : Nat} {bs : List Int} {s s2 : RSt}
theorem RoG.got (k : RoG σ w g p Y cy bs s W) (h : Got σ W g bs s2 W') : RoG σ w g p Y cy bs s2 W' :=
  ⟨k.x.kept h.fr (fun e => by have := Option.some.inj e; have := k.n1; omega), k.b.kept h.fr (fun e => by have := Option.some.inj e; have := k.n2; omega), h.rd, k.o.kept h.fr (.inr (fun e => by
    cases Y with
    | none => cases e
    | some a => have h1 := k.n3 a rfl; have h2 : a.block = g := Option.some.inj e; omega)), below_grown k.bl h.fr k.bl.size (by have := k.n1; omega), k.n1, k.n2, k.n3⟩
theorem RoG.below (k : RoG σ w g p Y cy bs s W) (h : Below W.heap.size W W') : RoG σ w g p Y cy bs s W' :=
  ⟨k.x.below h k.x.lt, k.b.below h k.b.lt, k.rd.below h, ownsRow_below k.o h, k.bl.trans (h.mono k.bl.size), k.n1, k.n2, k.n3⟩
theorem RoG.grown (k : RoG σ w g p Y cy bs s W) (h : W.grownBy W' (some q)) (hq : p < q) : RoG σ w g p Y cy bs s W' :=
  ⟨k.x.kept h (fun e => by have := Option.some.inj e; have := k.n1; have := k.n2; omega), k.b.kept h (fun e => by have := Option.some.inj e; omega), k.rd.newer h (fun b e => by have := Option.some.inj e; have := k.n2; omega), k.o.kept h (.inr (fun e => by
    cases Y with
    | none => cases e
    | some a => have h1 := k.n3 a rfl; have h2 : a.block = q := Option.some.inj e; have := k.n2; omega)), below_grown k.bl h k.bl.size (by have := k.n1; have := k.n2; omega), k.n1, k.n2, k.n3⟩
theorem RoG.env (k : RoG σ w g p Y cy bs s W) (hC : GlAt σ w) : EnvF σ w g W := ⟨hC.f, k.bl, Nat.le_of_lt k.n1⟩
theorem RoG.cells (k : RoG σ w g p Y cy bs s W) : W.cell? ⟨p, 0, none⟩ = some (.pointer (some ⟨g, 0, none⟩)) ∧ W.cell? ⟨p, 1, none⟩ = some (.slice Y bs.length cy) := ⟨k.b.cell 0, k.b.cell 1⟩
end
set_option maxRecDepth 100000 in
set_option maxHeartbeats 4000000 in
theorem grecOf_neg (ρ : SenQ) (w : World) (hQ : GlQ ρ w) (A : Option Addr) (m c : Nat) (n : Int) (hn : n < 0) :
    Calls Tryz.prog 64 #[.slice A m c, .int .i64 n] w fun e w' => Faults ρ 4 e ∧ Below w.heap.size w w' := by
  have hb1 := below_new w (.cells zero7 95)
  have hg := (hQ.below hb1).ix
  have HM := Lib.hid (fun w => gmust_err ρ n _ _ hQ.err_ix w)
  have HE := Lib.hid hQ.err_ix
  have HB := Lib.hid hb1
  clear hQ hb1
  unfold errK at *
  go_enter Tryz.func64, Tryz.ntmps64
  go_wp2_with fail
  refine (HM.out _).mono ?_
  rintro e w3 ⟨rfl, rfl⟩
  exact ⟨rfl, ⟨n, _, rfl, HE.out⟩, HB.out⟩
set_option maxRecDepth 100000 in
set_option maxHeartbeats 4000000 in
theorem grecOf_as (σ : Sen) (τ : SenU) (ρ : SenQ) (w : World) (hC : GlAt σ w) (hU : GlU τ w) (A : Option Addr) (b : List Int) (c : Nat) (hb : BytesAt w A b) (hbc : b.length ≤ c) (hm : c ≤ 9223372036854775807) (n : Int) (hn : 0 ≤ n) (he : (asB b 5 n).2 ≠ 0) :
    Calls Tryz.prog 64 #[.slice A b.length c, .int .i64 n] w fun e w' => Faults ρ (asB b 5 n).2 e ∧ Below w.heap.size w w' := by
  have hb1 := below_new w (.cells zero7 95)
  have HA := Lib.hid (gopened_bad σ τ ρ _ (hC.below hb1) (hU.below hb1) A b c (hb.below hb1) hbc hm 5 n he)
  have HB := Lib.hid hb1
  have hn' : ¬ n < 0 := by omega
  clear hC hU hb hbc hm hb1 he hn
  go_enter Tryz.func64, Tryz.ntmps64
  go_wp2_with fail
  refine HA.out.mono ?_
  rintro e w2 ⟨⟨k, v, rfl, hv⟩, b2⟩
  exact ⟨rfl, ⟨k, v, rfl, hv⟩, HB.out.trans (b2.mono HB.out.size)⟩
theorem lack_form (ρ : SenQ) (e : Ent) (a : IdentI) : ((recordR a e).2 = 0 ∧ ρ.lack e a = .nilIface) ∨ ((recordR a e).2 ≠ 0 ∧ ∃ t x, ρ.lack e a = .iface t x) := by
  by_cases h : (recordR a e).2 = 0
  · exact .inl ⟨h, lack_none h⟩
  · refine .inr ⟨h, ?_⟩
    unfold recordR at h
    unfold SenQ.lack
    by_cases hr : rightB e = false
    · rw [if_pos hr]; exact ⟨_, _, rfl⟩
    · rw [if_neg hr] at h ⊢
      by_cases ha : aheadI a e.index
      · rw [if_neg (fun x => x ha)] at h; exact absurd rfl h
      · rw [if_neg ha]; exact ⟨_, _, rfl⟩
set_option maxRecDepth 100000 in
set_option maxHeartbeats 8000000 in
theorem grecOf_body (σ : Sen) (τ : SenU) (ρ : SenQ) (w : World) (hC : GlAt σ w) (hU : GlU τ w) (hQ : GlQ ρ w) (A : Option Addr) (b : List Int) (c : Nat) (hb : BytesAt w A b) (hbc : b.length ≤ c) (hm : c ≤ 9223372036854775807) (n : Int) (hn : 0 ≤ n) (hn2 : n ≤ 9223372036854775807) (he : (asB b 5 n).2 = 0) :
    Calls Tryz.prog 64 #[.slice A b.length c, .int .i64 n] w fun e w' => (((recordR (codeE n (asB b 5 n).1).2 (codeE n (asB b 5 n).1).1).2 = 0 ∧ ∃ v, e = .returned (.agg #[.int .i64 (codeE n (asB b 5 n).1).1.index, .int .i64 (codeE n (asB b 5 n).1).1.term, .int .i64 (codeE n (asB b 5 n).1).1.kind, v, .int .i64 (codeE n (asB b 5 n).1).2.idx, .int .i64 (codeE n (asB b 5 n).1).2.term, .int .i64 (codeE n (asB b 5 n).1).2.kind]) ∧ PartOf (w.heap.size + 1) w' v (codeE n (asB b 5 n).1).1.body) ∨ ((recordR (codeE n (asB b 5 n).1).2 (codeE n (asB b 5 n).1).1).2 ≠ 0 ∧ Faults ρ 4 e)) ∧ Below w.heap.size w w' := by
  have hb1 := below_new w (.cells zero7 95)
  have hX := BlockIs.made w 95 zero7
  have HO := Lib.hid (gopened_good σ τ _ (hC.below hb1) (hU.below hb1) A b c (hb.below hb1) hbc hm 5 n he)
  obtain ⟨hl, hbd⟩ := asB_len hb.1 (k := 5) (n := n)
  have hn' : ¬ n < 0 := by omega
  have HL := Lib.hid (fun W (h : Below w.heap.size w W) A' c' (hl' : ((codeE n (asB b 5 n).1).1).body.length ≤ 9223372036854775807) => rlack_any ρ W (hQ.below h) (codeE n (asB b 5 n).1).1 A' c' hl' (codeE n (asB b 5 n).1).2)
  have HLv := Lib.hid (lack_form ρ (codeE n (asB b 5 n).1).1 (codeE n (asB b 5 n).1).2)
  have HQ := Lib.hid hQ
  obtain ⟨lv, hlv⟩ : ∃ lv, ρ.lack (codeE n (asB b 5 n).1).1 (codeE n (asB b 5 n).1).2 = lv := ⟨_, rfl⟩
  obtain ⟨R, hR⟩ : ∃ R, (recordR (codeE n (asB b 5 n).1).2 (codeE n (asB b 5 n).1).1).2 = R := ⟨_, rfl⟩
  rw [hlv] at HL HLv
  rw [hR] at HLv ⊢
  clear hlv hR
  unfold recV codeE at HL
  unfold codeE
  simp only at HL ⊢
  obtain ⟨bs, hbs⟩ : ∃ r, (asB b 5 n).1 = r := ⟨_, rfl⟩
  rw [hbs] at HO hl hbd HL ⊢
  have HI := Lib.hid (fun W g p Y cy s m (k : RoG σ w g p Y cy bs s W) => gident_any σ w W g bs s Y cy m k.rd (k.env hC) hl k.rd.lt)
  have HT := Lib.hid (fun W g p Y cy s (k : RoG σ w g p Y cy bs s W) => grest_any σ W g bs s Y cy k.rd hl)
  have HE := Lib.hid (And.intro hl hbd)
  have HS := Lib.hid (show (w.alloc (.cells zero7 95)).heap.size = w.heap.size + 1 by simp)
  have HX := Lib.hid (And.intro hX hb1)
  have r0 : IntKind.i64.wrap (n - 1) = n - 1 := IntWalk.i64_in _ (by omega)
  clear hC hU hQ hb hbc hm hb1 he hn hn2 hX hl hbd hbs
  obtain ⟨f1, e1⟩ : ∃ f, fieldR bs 6 (.ok 0) = f := ⟨_, rfl⟩
  rw [e1] at HL ⊢
  obtain ⟨f2, e2⟩ : ∃ f, fieldR bs 1 f1.2 = f := ⟨_, rfl⟩
  rw [e2] at HL ⊢
  obtain ⟨f3, e3⟩ : ∃ f, fieldR bs 6 f2.2 = f := ⟨_, rfl⟩
  rw [e3] at HL ⊢
  obtain ⟨f4, e4⟩ : ∃ f, fieldR bs 1 f3.2 = f := ⟨_, rfl⟩
  rw [e4] at HL ⊢
  have E12 := Lib.hid (And.intro e1 e2)
  have E34 := Lib.hid (And.intro e3 e4)
  clear e1 e2 e3 e4
  go_enter Tryz.func64, Tryz.ntmps64
  go_wp2_with fail
  refine HO.out.mono ?_
  rintro e w2 ⟨g, Y, cy, rfl, hg, hrd, ho, hY, b2⟩
  have hb3 := below_new w2 (.cells #[.pointer (some ⟨g, 0, none⟩), .slice Y bs.length cy] 122)
  have X2 := HX.out.1.below b2 HX.out.1.lt
  have G3 := Lib.hid (show RoG σ w g w2.heap.size Y cy bs (.ok 0) (w2.alloc (.cells #[.pointer (some ⟨g, 0, none⟩), .slice Y bs.length cy] 122)) from ⟨X2.below hb3 X2.lt, BlockIs.made _ _ _, hrd.below hb3, by have h := ownsRow_below ho hb3; rw [HS.out] at h; exact h, HX.out.2.trans ((b2.trans (hb3.mono b2.size)).mono HX.out.2.size), by have := HS.out; omega, hrd.lt, hY⟩)
  obtain ⟨w3, hw3⟩ : ∃ w3, w2.alloc (.cells #[.pointer (some ⟨g, 0, none⟩), .slice Y bs.length cy] 122) = w3 := ⟨_, rfl⟩
  rw [hw3] at G3
  have Hw3 := Lib.hid hw3
  have F := HI.out w3 g w2.heap.size Y cy (.ok 0) (n - 1) G3.out
  rw [E12.out.1, E12.out.2] at F
  have HF := Lib.hid F
  clear hb3 X2 hrd ho hY b2 hg hw3 F HO
  go_wp2_with fail
  rw [Hw3.out]
  refine HF.out.mono ?_
  rintro e w4 ⟨rfl, k4⟩
  have hG4 := G3.out.got k4
  have hb5 := below_new w4 (.cells #[.int .i64 0, .int .i64 0, .int .i64 0, .slice none 0 0, .int .i64 (n - 1), .int .i64 f1.1, .int .i64 f2.1] 95)
  have G5 := Lib.hid (hG4.below hb5)
  have Q5 := Lib.hid (BlockIs.made w4 95 #[.int .i64 0, .int .i64 0, .int .i64 0, .slice none 0 0, .int .i64 (n - 1), .int .i64 f1.1, .int .i64 f2.1])
  have L5 := Lib.hid (show w2.heap.size < w4.heap.size from hG4.b.lt)
  obtain ⟨w5, hw5⟩ : ∃ w5, w4.alloc (.cells #[.int .i64 0, .int .i64 0, .int .i64 0, .slice none 0 0, .int .i64 (n - 1), .int .i64 f1.1, .int .i64 f2.1] 95) = w5 := ⟨_, rfl⟩
  rw [hw5] at G5 Q5
  have Hw5 := Lib.hid hw5
  have F := HI.out w5 g w2.heap.size Y cy f2.2 n G5.out
  rw [E34.out.1, E34.out.2] at F
  have HF2 := Lib.hid F
  obtain ⟨c0, c1⟩ := G5.out.cells
  clear hb5 hG4 k4 hw5 F HF
  rw [← Hw5.out] at c0 c1
  go_wp2_with fail
  rw [Hw5.out]
  refine HF2.out.mono ?_
  rintro e w6 ⟨rfl, k6⟩
  have hG6 := G5.out.got k6
  have hQ6 := Q5.out.kept k6.fr (fun e => by have := Option.some.inj e; have := G5.out.n2; have := L5.out; omega)
  have hb7 := below_new w6 (.cells #[.int .i64 n, .int .i64 f3.1, .int .i64 f4.1] 26)
  have G7 := Lib.hid (hG6.below hb7)
  have Q7 := Lib.hid (hQ6.below hb7 hQ6.lt)
  have J7 := Lib.hid (BlockIs.made w6 26 #[.int .i64 n, .int .i64 f3.1, .int .i64 f4.1])
  have L7 := Lib.hid (show w4.heap.size < w6.heap.size from hQ6.lt)
  obtain ⟨w7, hw7⟩ : ∃ w7, w6.alloc (.cells #[.int .i64 n, .int .i64 f3.1, .int .i64 f4.1] 26) = w7 := ⟨_, rfl⟩
  rw [hw7] at G7 Q7 J7
  have Hw7 := Lib.hid hw7
  clear hb7 hG6 hQ6 k6 hw7 HF2 c0 c1
  go_wp2_with fail
  rw [Hw7.out]
  have HT7 := Lib.hid (HT.out w7.drew g w2.heap.size Y cy f4.2 (G7.out.below (Below.refl _ _).drew))
  obtain ⟨V, hV⟩ : ∃ V, cutAt Y cy (restK bs f4.2) = V := ⟨_, rfl⟩
  obtain ⟨k, hk⟩ : ∃ k, restK bs f4.2 = k := ⟨_, rfl⟩
  rw [hV, hk] at HT7
  have HV := Lib.hid (And.intro hk hV)
  have LL := Lib.hid (show w2.heap.size < w4.heap.size ∧ w4.heap.size < w6.heap.size ∧ w.heap.size < w2.heap.size from ⟨L5.out, L7.out, by have := G7.out.n1; have := G7.out.n2; omega⟩)
  have S7 := Lib.hid (fun W (b : Below w7.drew.heap.size w7.drew W) => (show RoG σ w g w2.heap.size Y cy bs f4.2 W ∧ BlockIs W w4.heap.size 95 #[.int .i64 0, .int .i64 0, .int .i64 0, .slice none 0 0, .int .i64 (n - 1), .int .i64 f1.1, .int .i64 f2.1] ∧ BlockIs W w6.heap.size 26 #[.int .i64 n, .int .i64 f3.1, .int .i64 f4.1] from
    ⟨G7.out.below ((Below.refl _ _).drew.trans b), Q7.out.below ((Below.refl w7.heap.size w7).drew.trans b) Q7.out.lt, J7.out.below ((Below.refl w7.heap.size w7).drew.trans b) J7.out.lt⟩))
  have S9 := Lib.hid (fun W (h : RoG σ w g w2.heap.size Y cy bs f4.2 W ∧ BlockIs W w4.heap.size 95 #[.int .i64 0, .int .i64 0, .int .i64 0, .slice none 0 0, .int .i64 (n - 1), .int .i64 f1.1, .int .i64 f2.1] ∧ BlockIs W w6.heap.size 26 #[.int .i64 n, .int .i64 f3.1, .int .i64 f4.1]) (v : Value) => (show _ ∧ _ from
    ⟨h.1.grown (h.2.1.put4 (.int .i64 n) (.int .i64 f3.1) (.int .i64 f4.1) v).2 LL.out.1, h.2.2.kept (h.2.1.put4 (.int .i64 n) (.int .i64 f3.1) (.int .i64 f4.1) v).2 (fun e => by have := Option.some.inj e; have := LL.out; omega)⟩))
  obtain ⟨c0, c1⟩ := G7.out.cells
  obtain ⟨j0, j1, j2, _⟩ := J7.out.three
  have lq1 : ¬ w4.heap.size = w6.heap.size := by have := LL.out; omega
  have lq2 : ¬ w4.heap.size = w2.heap.size := by have := LL.out; omega
  go_region_held3 (fun w' => w'.cell? ⟨w2.heap.size, 0, none⟩ = some (.pointer (some ⟨g, 0, none⟩)) ∧ w'.cell? ⟨w2.heap.size, 1, none⟩ = some (.slice Y bs.length cy) ∧ w'.cell? ⟨w6.heap.size, 0, none⟩ = some (.int .i64 n) ∧ w'.cell? ⟨w6.heap.size, 1, none⟩ = some (.int .i64 f3.1) ∧ w'.cell? ⟨w6.heap.size, 2, none⟩ = some (.int .i64 f4.1)) (first | exact ⟨c0, c1, j0, j1, j2⟩ | exact ⟨d0, d1, i0, i1, i2⟩ | exact ⟨d0', d1', i0', i1', i2'⟩) (first
    | (go_at_call 95; refine HT7.out.mono ?_; rintro e w8 ⟨rfl, hkl, b8⟩; have s8 := S7.out _ b8; obtain ⟨d0, d1⟩ := s8.1.cells; obtain ⟨i0, i1, i2, _⟩ := s8.2.2.three; obtain ⟨q0, q1, q2, q3, _⟩ := s8.2.1.seven; obtain ⟨z0, z1, z2, z3, _⟩ := s8.2.1.free7; have s9 := S9.out _ s8 (.slice V (bs.length - k) (cy - k)); obtain ⟨d0', d1'⟩ := s9.1.cells; obtain ⟨i0', i1', i2', _⟩ := s9.2.three))
  rename_i hHeld
  clear hHeld c0 c1 j0 j1 j2 d0 d1 i0 i1 i2 q0 q1 q2 q3 z0 z1 z2 z3 d0' d1' i0' i1' i2' lq1 lq2
  have P9 := Lib.hid (s8.2.1.put4 (.int .i64 n) (.int .i64 f3.1) (.int .i64 f4.1) (.slice V (bs.length - k) (cy - k))).1
  have G9 := Lib.hid s9.1
  obtain ⟨w9, hw9⟩ : ∃ w9, ((((w8.setCell ⟨w4.heap.size, 0, none⟩ (.int .i64 n)).setCell ⟨w4.heap.size, 1, none⟩ (.int .i64 f3.1)).setCell ⟨w4.heap.size, 2, none⟩ (.int .i64 f4.1)).setCell ⟨w4.heap.size, 3, none⟩ (.slice V (bs.length - k) (cy - k))) = w9 := ⟨_, rfl⟩
  rw [hw9] at P9 G9 ⊢
  have HKL := Lib.hid hkl
  have HLk := HL.out w9 G9.out.bl V (cy - k) (by rw [List.length_drop]; have := HE.out.1; omega)
  rw [HV.out.1, List.length_drop] at HLk
  have HLK := Lib.hid HLk
  clear s8 s9 b8 hw9 hkl HLk S7 S9 HT7 HL
  obtain ⟨q0, q1, q2, q3, q4, q5, q6⟩ := P9.out.seven
  go_wp2_with fail
  refine HLK.out.mono ?_
  rintro e w10 ⟨rfl, b10⟩
  have G10 := Lib.hid (G9.out.below b10)
  have P10 := Lib.hid (P9.out.below b10 P9.out.lt)
  clear q0 q1 q2 q3 q4 q5 q6 HLK
  rcases HLv.out with ⟨hr, rfl⟩ | ⟨hr, lt, lx, rfl⟩
  · clear b10
    obtain ⟨q0, q1, q2, q3, q4, q5, q6⟩ := P10.out.seven
    obtain ⟨x0, x1, x2, x3, x4, x5, x6⟩ := G10.out.x.seven
    obtain ⟨z0, z1, z2, z3, z4, z5, z6⟩ := G10.out.x.free7
    have HR := Lib.hid hr
    clear hr
    go_wp2_with fail
    have Z := Lib.hid (G10.out.x.put7 (.int .i64 n) (.int .i64 f3.1) (.int .i64 f4.1) (.slice V (bs.length - k) (cy - k)) (.int .i64 (n - 1)) (.int .i64 f1.1) (.int .i64 f2.1))
    clear q0 q1 q2 q3 q4 q5 q6 x0 x1 x2 x3 x4 x5 x6 z0 z1 z2 z3 z4 z5 z6
    obtain ⟨w11, hw11⟩ : ∃ w11, (((((((w10.setCell ⟨w.heap.size, 0, none⟩ (.int .i64 n)).setCell ⟨w.heap.size, 1, none⟩ (.int .i64 f3.1)).setCell ⟨w.heap.size, 2, none⟩ (.int .i64 f4.1)).setCell ⟨w.heap.size, 3, none⟩ (.slice V (bs.length - k) (cy - k))).setCell ⟨w.heap.size, 4, none⟩ (.int .i64 (n - 1))).setCell ⟨w.heap.size, 5, none⟩ (.int .i64 f1.1)).setCell ⟨w.heap.size, 6, none⟩ (.int .i64 f2.1)) = w11 := ⟨_, rfl⟩
    rw [hw11] at Z ⊢
    clear hw11
    obtain ⟨z0, z1, z2, z3, z4, z5, z6⟩ := Z.out.1.seven
    refine bodyPost_ret (v := .agg #[.int .i64 n, .int .i64 f3.1, .int .i64 f4.1, .slice V (bs.length - k) (cy - k), .int .i64 (n - 1), .int .i64 f1.1, .int .i64 f2.1]) (by simp [results, Tryz.results64, go_sem, z0, z1, z2, z3, z4, z5, z6]) rfl ⟨.inl ⟨HR.out, _, rfl, ?_⟩, below_grown G10.out.bl Z.out.2 G10.out.bl.size (Nat.le_refl _)⟩
    refine ⟨Y, cy, bs, k, G10.out.o.kept Z.out.2 (.inr (fun e => by have := (G10.out.o.lt _ e).1; omega)), HE.out.2, HE.out.1, HKL.out, by rw [← HV.out.2, HV.out.1], by rw [HV.out.1]⟩
  · have hg := HQ.out.below G10.out.bl
    have HM := Lib.hid (fun w => gmust_err ρ n _ _ hg.err_bd w)
    have HEr := Lib.hid hg.err_bd
    have g1 := hg.bd
    have HR := Lib.hid hr
    clear hr hg b10
    unfold errK at *
    go_wp2_with fail
    refine (HM.out _).mono ?_
    rintro e w11 ⟨rfl, rfl⟩
    exact ⟨rfl, .inr ⟨HR.out, ⟨n, _, rfl, HEr.out⟩⟩, G10.out.bl⟩
/-- What a record's call gives: the entry and the ident ahead, or a fault. -/
theorem grecOf_any (σ : Sen) (τ : SenU) (ρ : SenQ) (w : World) (hC : GlAt σ w) (hU : GlU τ w) (hQ : GlQ ρ w) (A : Option Addr) (b : List Int) (c : Nat) (hb : BytesAt w A b) (hbc : b.length ≤ c) (hm : c ≤ 9223372036854775807) (n : Int) (hn2 : n ≤ 9223372036854775807) :
    Calls Tryz.prog 64 #[.slice A b.length c, .int .i64 n] w fun e w' => (((ofR b n).2.2 = 0 ∧ ∃ v, e = .returned (.agg #[.int .i64 (ofR b n).1.index, .int .i64 (ofR b n).1.term, .int .i64 (ofR b n).1.kind, v, .int .i64 (ofR b n).2.1.idx, .int .i64 (ofR b n).2.1.term, .int .i64 (ofR b n).2.1.kind]) ∧ PartOf (w.heap.size + 1) w' v (ofR b n).1.body) ∨ ((ofR b n).2.2 ≠ 0 ∧ Faults ρ (ofR b n).2.2 e)) ∧ Below w.heap.size w w' := by
  by_cases hn : n < 0
  · have hof : ofR b n = (noEnt, noIdent, 4) := by unfold ofR; rw [if_pos hn]
    rw [hof]
    refine (grecOf_neg ρ w hQ A b.length c n hn).mono ?_
    rintro e w' ⟨h1, h2⟩
    exact ⟨.inr ⟨by decide, h1⟩, h2⟩
  · by_cases he : (asB b 5 n).2 = 0
    · have hof : ofR b n = partedE n (asB b 5 n).1 := by unfold ofR; rw [if_neg hn, if_neg (fun x => x he)]
      rw [hof, parted_code n _ (asB_len hb.1).2]
      refine (grecOf_body σ τ ρ w hC hU hQ A b c hb hbc hm n (by omega) hn2 he).mono ?_
      rintro e w' ⟨⟨h1, v, h3, h4⟩ | ⟨h1, h3⟩, h2⟩
      · rw [if_neg (fun x => x h1)]
        exact ⟨.inl ⟨rfl, v, h3, h4⟩, h2⟩
      · rw [if_pos h1]
        exact ⟨.inr ⟨by decide, h3⟩, h2⟩
    · have hof : ofR b n = (noEnt, noIdent, (asB b 5 n).2) := by unfold ofR; rw [if_neg hn, if_pos he]
      rw [hof]
      refine (grecOf_as σ τ ρ w hC hU A b c hb hbc hm n (by omega) he).mono ?_
      rintro e w' ⟨h1, h2⟩
      exact ⟨.inr ⟨he, h1⟩, h2⟩
end Go.Proofs.YtpdfmpegcejmkaaGreatDoor
