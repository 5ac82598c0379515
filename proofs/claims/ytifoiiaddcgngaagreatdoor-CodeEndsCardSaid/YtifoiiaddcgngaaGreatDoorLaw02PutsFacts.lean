/- Law 02, CodePuts: two writers side by side, the code's and the page's; what was lent; what is told. -/
import Derived.Test.YtifoiiaddcgngaaGreatDoorLaw02Parts
import Derived.Test.YtifoiiaddcgngaaGreatDoorRefParts
import Derived.Test.YtifoiiaddcgngaaGreatDoorKitLentInts
import Derived.Test.YtifoiiaddcgngaaGreatDoorKitC
import Derived.Test.YtifoiiaddcgngaaGreatDoorKitBag
namespace Go.Proofs.YtifoiiaddcgngaaGreatDoor
open Go.RowKit
section
variable {w w' : World} {T S : Nat → Prop} {g : Nat} {s : Option (List Int)}
theorem BlockIs.chg {t : TypeId} {cs : Array Value} (h : BlockIs w g t cs) (c : Chg T w w') (hT : ¬ T g) : BlockIs w' g t cs := (c.block g h.lt hT).trans h
theorem Chain.chg (c : Chg T w w') (hS : ∀ k, S k → ¬ T k) : ∀ {p : Option Addr} {l : List (List Int)}, Chain w S p l → Chain w' S p l
  | _, [], h => h
  | _, _ :: _, ⟨g, a, x, cap, h1, h2, h3, h4, h5, h6, h7, h8, h9⟩ => ⟨g, a, x, cap, h1, h2, h3, h4, h5, h6, h7.chg c (hS _ h2), h8.chg c (fun _ a e => by cases e; exact hS _ h3), Chain.chg c hS h9⟩
theorem WrAt.chg (h : WrAt w S g s) (c : Chg T w w') (h0 : ¬ T g) (hS : ∀ k, S k → ¬ T k) : WrAt w' S g s :=
  ⟨fun k hk => ⟨(h.foot k hk).1, Nat.lt_of_lt_of_le (h.foot k hk).2 c.size⟩, by
    cases s with
    | none => obtain ⟨p, h⟩ := h.cells; exact ⟨p, h.chg c h0⟩
    | some bs => obtain ⟨p, l, h1, h2, h3⟩ := h.cells; exact ⟨p, l, h1.chg c h0, h2.chg c hS, h3⟩⟩
end
/-- The two writers: the code's at g, the page's at h, all of them newer than w. -/
structure Two (w wx : World) (g h : Nat) (S T : Nat → Prop) (s : Option (List Int)) (m : Nat) : Prop where
  wr : WrAt wx S g s
  rf : RefAt wx T h s m
  apart : ∀ k, S k → w.heap.size ≤ k ∧ ¬ T k
  rfar : ∀ k, T k → w.heap.size ≤ k ∧ k ≠ g
  gfar : w.heap.size ≤ g
  bl : Below w.heap.size w wx
theorem Two.below {w wx w' : World} {g h m : Nat} {S T : Nat → Prop} {s : Option (List Int)} (k : Two w wx g h S T s m) (hb : Below wx.heap.size wx w') : Two w w' g h S T s m :=
  ⟨k.wr.below hb, k.rf.below hb, k.apart, k.rfar, k.gfar, k.bl.trans (hb.mono k.bl.size)⟩
/-- Two writers' states may part while a thing is put. -/
structure Mid (w wx : World) (g h : Nat) (S T : Nat → Prop) (s s' : Option (List Int)) (m : Nat) : Prop where
  wr : WrAt wx S g s
  rf : RefAt wx T h s' m
  apart : ∀ k, S k → w.heap.size ≤ k ∧ ¬ T k
  rfar : ∀ k, T k → w.heap.size ≤ k ∧ k ≠ g
  gfar : w.heap.size ≤ g
  bl : Below w.heap.size w wx
theorem Two.put {w wx w' : World} {g h m : Nat} {S T : Nat → Prop} {s s' : Option (List Int)} (k : Two w wx g h S T s m) (p : Put wx S g s' w') : Mid w w' g h (grow S wx w') T s' s m :=
  ⟨p.wr, k.rf.kept p.fr (fun b e => by cases e; exact fun hT => (k.rfar _ hT).2 rfl), by
    rintro j (hj | hj)
    · exact k.apart j hj
    · exact ⟨Nat.le_trans k.bl.size hj.1, fun hT => by have := k.rf.foot j hT; omega⟩, k.rfar, k.gfar, below_grown k.bl p.fr k.bl.size k.gfar⟩
theorem Mid.put {w wx w' : World} {g h m m' : Nat} {S T : Nat → Prop} {s s' : Option (List Int)} (k : Mid w wx g h S T s s' m) (p : RPut wx T h s m' w') : Two w w' g h S (grow T wx w') s m' :=
  ⟨k.wr.chg p.fr (fun hT => (k.rfar g hT).2 rfl) (fun j hj => (k.apart j hj).2), p.rf, fun j hj => ⟨(k.apart j hj).1, by
    rintro (hT | hT)
    · exact (k.apart j hj).2 hT
    · have := (k.wr.foot j hj).2; omega⟩, by
    rintro j (hj | hj)
    · exact k.rfar j hj
    · refine ⟨Nat.le_trans k.bl.size hj.1, ?_⟩
      rintro rfl
      have := k.wr.lt; omega, k.gfar, p.fr.below k.bl (fun j hj => (k.rfar j hj).1) k.bl.size⟩
theorem Mid.below {w wx w' : World} {g h m : Nat} {S T : Nat → Prop} {s s' : Option (List Int)} (k : Mid w wx g h S T s s' m) (hb : Below wx.heap.size wx w') : Mid w w' g h S T s s' m :=
  ⟨k.wr.below hb, k.rf.below hb, k.apart, k.rfar, k.gfar, k.bl.trans (hb.mono k.bl.size)⟩
theorem Two.drewN {w wx : World} {g h m : Nat} {S T : Nat → Prop} {s : Option (List Int)} (k : Two w wx g h S T s m) (n : Nat) : Two w (wx.drewN n) g h S T s m := k.below (drewN_below (Below.refl _ _) n)
/-- Only what is older than base may have turned, and what is newer than wx. -/
def Stay (base : Nat) (wx w' : World) : Prop := wx.heap.size ≤ w'.heap.size ∧ ∀ k, base ≤ k → k < wx.heap.size → w'.heap[k]? = wx.heap[k]?
theorem Stay.of_below {base : Nat} {wx w' : World} (h : Below wx.heap.size wx w') : Stay base wx w' := ⟨h.size, fun k _ hk => h.block k hk⟩
theorem Stay.of_put {base : Nat} {wx w' : World} {S : Nat → Prop} {g : Nat} {s : Option (List Int)} (h : Put wx S g s w') (hg : g < base) : Stay base wx w' := ⟨h.fr.size, fun k h1 hk => h.fr.block k hk (fun e => by cases e; omega)⟩
theorem Stay.of_chg {base : Nat} {wx w' : World} {T : Nat → Prop} (h : Chg T wx w') (hT : ∀ k, T k → k < base) : Stay base wx w' := ⟨h.size, fun k h1 hk => h.block k hk (fun e => by have := hT k e; omega)⟩
theorem LentAt.stay {base : Nat} {wx w' : World} {v : Value} {zs : List Int} (h : LentAt wx v zs) (hs : Stay base wx w') (hb : ∀ b, v.ownBlock = some b → base ≤ b) : LentAt w' v zs := by
  obtain ⟨g, cap, cs, rfl, hc, hm, hg, ht, hr⟩ := h
  exact ⟨g, cap, cs, rfl, hc, hm, (hs.2 g (hb g rfl) (Array.getElem?_eq_some_iff.1 hg).1).trans hg, ht, hr⟩
theorem LentIntsAt.stay {base : Nat} {wx w' : World} {v : Value} {zs : List Int} (h : LentIntsAt wx v zs) (hs : Stay base wx w') (hb : ∀ b, v.ownBlock = some b → base ≤ b) : LentIntsAt w' v zs := by
  obtain ⟨g, cap, cs, rfl, hc, hm, hg, ht, hr⟩ := h
  exact ⟨g, cap, cs, rfl, hc, hm, (hs.2 g (hb g rfl) (Array.getElem?_eq_some_iff.1 hg).1).trans hg, ht, hr⟩
/-- What was lent, as bytes, as numbers. -/
theorem LentAt.bytes {w : World} {v : Value} {zs : List Int} (h : LentAt w v zs) : ∃ g cap, v = .slice (some ⟨g, 0, none⟩) zs.length cap ∧ BytesAt w (some ⟨g, 0, none⟩) zs ∧ zs.length ≤ cap ∧ cap ≤ 9223372036854775807 := by
  obtain ⟨g, cap, cs, rfl, hc, hm, hg, ht, hr⟩ := h
  refine ⟨g, cap, rfl, ⟨hr, fun _ => ⟨g, 0, rfl, fun i hi => ?_⟩⟩, by omega, hm⟩
  have := lent_cell hg ht i (by rw [List.length_append]; omega)
  rw [front_at _ _ _ hi] at this
  rw [Nat.zero_add]; exact this
theorem LentIntsAt.ints {w : World} {v : Value} {zs : List Int} (h : LentIntsAt w v zs) : ∃ g cap, v = .slice (some ⟨g, 0, none⟩) zs.length cap ∧ IntsAt w (some ⟨g, 0, none⟩) zs ∧ zs.length ≤ cap ∧ cap ≤ 9223372036854775807 := by
  obtain ⟨g, cap, cs, rfl, hc, hm, hg, ht, hr⟩ := h
  refine ⟨g, cap, rfl, ⟨hr, fun _ => ⟨g, 0, rfl, fun i hi => ?_⟩⟩, by omega, hm⟩
  have := lentI_cell hg ht i (by rw [List.length_append]; omega)
  rw [frontI_at _ _ _ hi] at this
  rw [Nat.zero_add]; exact this
/-- What one turn lends, newer than base: the numbers, the text, the body. -/
structure Lnt (w : World) (base : Nat) (p : PartV) (vn vt vb : Value) : Prop where
  ln : LentIntsAt w vn p.ns
  lt : LentAt w vt p.ts
  lb : LentAt w vb p.ent.body
  nn : ∀ k, vn.ownBlock = some k → base ≤ k
  tn : ∀ k, vt.ownBlock = some k → base ≤ k
  bn : ∀ k, vb.ownBlock = some k → base ≤ k
theorem Lnt.stay {base : Nat} {p : PartV} {vn vt vb : Value} {w w' : World} (h : Lnt w base p vn vt vb) (hs : Stay base w w') : Lnt w' base p vn vt vb := ⟨h.ln.stay hs h.nn, h.lt.stay hs h.tn, h.lb.stay hs h.bn, h.nn, h.tn, h.bn⟩
theorem IntsAt.off_far {T : Nat → Prop} {w : World} {A : Option Addr} {ns : List Int} (h : IntsAt w A ns) (hT : ∀ k, T k → w.heap.size ≤ k) : ns ≠ [] → ∀ a, A = some a → ¬ T a.block := by
  intro hne a ha hk
  obtain ⟨b, off, e, hc⟩ := h.2 hne
  have h0 := World.block_lt_of_cell? _ _ (hc 0 (List.length_pos_iff.2 hne))
  rw [ha] at e
  obtain rfl := Option.some.inj e
  have := hT _ hk
  simp only at h0 this; omega
theorem BytesAt.off_far {T : Nat → Prop} {w : World} {A : Option Addr} {zs : List Int} (h : BytesAt w A zs) (hT : ∀ k, T k → w.heap.size ≤ k) : zs ≠ [] → ∀ a, A = some a → ¬ T a.block := by
  intro hne a ha hk
  obtain ⟨b, off, e, hc⟩ := h.2 hne
  have h0 := World.block_lt_of_cell? _ _ (hc 0 (List.length_pos_iff.2 hne))
  rw [ha] at e
  obtain rfl := Option.some.inj e
  have := hT _ hk
  simp only at h0 this; omega
theorem Stay.block {base q : Nat} {w w' : World} {t : TypeId} {cs : Array Value} (h : Stay base w w') (hb : BlockIs w q t cs) (hq : base ≤ q) : BlockIs w' q t cs := (h.2 q hq hb.lt).trans hb
theorem tot_take (ps : List PartV) (k : Nat) : tot (ps.take k) ≤ tot ps := by
  have h : tot ps = tot (ps.take k) + tot (ps.drop k) := by
    unfold tot
    rw [← List.sum_append, ← List.map_append, List.take_append_drop]
  omega
theorem RefAt.drew {w : World} {T : Nat → Prop} {h m : Nat} {s : Option (List Int)} (k : RefAt w T h s m) : RefAt w.drew T h s m := k.below (Below.refl _ _).drew
theorem IntsAt.drew {w : World} {A : Option Addr} {zs : List Int} (h : IntsAt w A zs) : IntsAt w.drew A zs := h
theorem RefAt.len {w : World} {T : Nat → Prop} {h m : Nat} {s : Option (List Int)} (k : RefAt w T h s m) : (s.getD []).length ≤ m := by
  obtain ⟨bv, bs, sp, k, hm, rfl⟩ := k
  cases sp with
  | true => exact Nat.zero_le _
  | false => exact hm
/-- What the last test of a turn loads: the part's cells, the entry's. -/
def P11 (bb o q : Nat) (p : PartV) (g10 cap10 : Nat) (w' : World) : Prop :=
  w'.cell? ⟨bb, o + 2, none⟩ = some (.slice p.nA p.ns.length p.nc) ∧ w'.cell? ⟨bb, o + 3, none⟩ = some (.slice p.tA p.ts.length p.tc) ∧ w'.cell? ⟨bb, o + 4, none⟩ = some (.int .i64 p.ent.index) ∧ w'.cell? ⟨bb, o + 5, none⟩ = some (.int .i64 p.ent.term) ∧ w'.cell? ⟨bb, o + 6, none⟩ = some (.int .i64 p.ent.kind) ∧ w'.cell? ⟨bb, o + 7, none⟩ = some (.slice p.bA p.ent.body.length p.bc) ∧
  w'.cell? ⟨q, 0, none⟩ = some (.int .i64 p.ent.index) ∧ w'.cell? ⟨q, 1, none⟩ = some (.int .i64 p.ent.term) ∧ w'.cell? ⟨q, 2, none⟩ = some (.int .i64 p.ent.kind) ∧ w'.cell? ⟨q, 3, none⟩ = some (.slice (some ⟨g10, 0, none⟩) p.ent.body.length cap10)
theorem P11.below {bb o q : Nat} {p : PartV} {g10 cap10 : Nat} {w w' : World} (h : P11 bb o q p g10 cap10 w) (hb : Below w.heap.size w w') : P11 bb o q p g10 cap10 w' := by
  obtain ⟨h1, h2, h3, h4, h5, h6, h7, h8, h9, h10⟩ := h
  exact ⟨cell_below h1 hb, cell_below h2 hb, cell_below h3 hb, cell_below h4 hb, cell_below h5 hb, cell_below h6 hb, cell_below h7 hb, cell_below h8 hb, cell_below h9 hb, cell_below h10 hb⟩
/-- The two that the code's writer told lie apart, and apart from the page's. -/
def col3 (a b : Nat) : Nat → Nat := fun k => if k < a then 2 else if k < b then 5 else 3
theorem rows_two {wc wa wb wg : World} {XA XB XG : Option Addr} {ca cb cg : Nat} {y : List Int}
    (ha : wa.ownsRow wc.heap.size 5 1 (.slice XA y.length ca) y.length (u8s y)) (hba : Below wc.heap.size wc wa)
    (hb : wb.ownsRow wa.heap.size 5 1 (.slice XB y.length cb) y.length (u8s y)) (hbb : Below wa.heap.size wa wb)
    (hg : wg.ownsRow wb.heap.size 5 1 (.slice XG y.length cg) y.length (u8s y)) (hbg : Below wb.heap.size wb wg) :
    (∀ k v, [(.slice XA y.length ca : Value), .slice XG y.length cg][k]? = some v → wg.ownsRow wc.heap.size 5 1 v y.length (u8s y) ∧ Col (col3 wa.heap.size wb.heap.size) v (k + 2)) ∧
    wg.ownsRow wa.heap.size 5 1 (.slice XB y.length cb) y.length (u8s y) ∧ (∀ b, (Value.slice XB y.length cb).ownBlock = some b → col3 wa.heap.size wb.heap.size b = 5) := by
  have h1 := hba.size
  have h2 := hbb.size
  refine ⟨fun k v hv => ?_, ownsRow_below hb hbg, fun b e => ?_⟩
  · match k, hv with
    | 0, hv =>
      obtain rfl := Option.some.inj hv
      refine ⟨ownsRow_below (ownsRow_below ha hbb) hbg, fun b e => ?_⟩
      have := (ha.lt b e).2
      unfold col3; rw [if_pos this]
    | 1, hv =>
      obtain rfl := Option.some.inj hv
      refine ⟨ownsRow_base hg (Nat.le_trans h1 h2), fun b e => ?_⟩
      have := (hg.lt b e).1
      unfold col3; rw [if_neg (by omega), if_neg (by omega)]
    | k + 2, hv => simp at hv
  · have := hb.lt b e
    unfold col3; rw [if_neg (by omega), if_pos this.2]
/-- All that was there when the bytes were asked for, and the page's bytes. -/
def Viv (wc : World) (lo : Nat) (XB : Option Addr) (cb : Nat) (y : List Int) (W : World) : Prop := Below wc.heap.size wc W ∧ W.ownsRow lo 5 1 (.slice XB y.length cb) y.length (u8s y)
theorem Viv.on {wc W w2 : World} {lo cb : Nat} {XB : Option Addr} {y : List Int} (h : Viv wc lo XB cb y W) (hb : Below W.heap.size W w2) : Viv wc lo XB cb y w2 := ⟨h.1.trans (hb.mono h.1.size), ownsRow_below h.2 hb⟩
theorem Viv.drew {wc W : World} {lo cb : Nat} {XB : Option Addr} {y : List Int} (h : Viv wc lo XB cb y W) : Viv wc lo XB cb y W.drew := ⟨h.1.drew, h.2⟩
theorem ownsRow_blk {w w' : World} {B n : Nat} {e : TypeId} {v : Value} {xs : List Value} (h : w.ownsRow B e 1 v n xs) (hk : ∀ b, v.ownBlock = some b → w'.heap[b]? = w.heap[b]?) : w'.ownsRow B e 1 v n xs := by
  refine ⟨h.1, ?_⟩
  rcases h.2 with h0 | ⟨g, cap, cur, rfl, hb, hg, h1, h2, h3, h4⟩
  · exact .inl h0
  · exact .inr ⟨g, cap, cur, rfl, hb, (hk g rfl).trans hg, h1, h2, h3, h4⟩
theorem apart_two {wc wa wb wg w1 : World} {XA XB XG : Option Addr} {ca cb cg : Nat} {y : List Int}
    (hr : ∀ k v, [(.slice XA y.length ca : Value), .slice XG y.length cg][k]? = some v → wg.ownsRow wc.heap.size 5 1 v y.length (u8s y) ∧ Col (col3 wa.heap.size wb.heap.size) v (k + 2))
    (hc : wg.ownsRow wa.heap.size 5 1 (.slice XB y.length cb) y.length (u8s y)) (hcc : ∀ b, (Value.slice XB y.length cb).ownBlock = some b → col3 wa.heap.size wb.heap.size b = 5) (hl : y.length ≤ 140737488000000)
    (hbc : Below wc.heap.size wc wg) (h1 : Below wg.heap.size wg w1) :
    Calls Tryz.prog 24 #[.slice (some ⟨w1.heap.size, 0, none⟩) 2 2] (w1.alloc (.cells #[.slice XA y.length ca, .slice XG y.length cg] 23)) fun e w' => e = .returned (.bool true) ∧ Viv wc wa.heap.size XB cb y w' := by
  have hbn := h1.trans ((below_new w1 (.cells #[.slice XA y.length ca, .slice XG y.length cg] 23)).mono h1.size)
  have hs := hbc.size
  refine (apartBytes_any _ wc.heap.size 2 2 (some ⟨w1.heap.size, 0, none⟩) (col3 wa.heap.size wb.heap.size) [.slice XA y.length ca, .slice XG y.length cg] (fun _ => y) rfl ?_ ?_ (Nat.le_trans hs hbn.size) (by decide) (fun _ => hl)).mono ?_
  · intro _
    refine ⟨w1.heap.size, 0, rfl, fun k v hv => ?_⟩
    obtain ⟨r0, r1⟩ := row2_cells w1 (.slice XA y.length ca) (.slice XG y.length cg) 23
    match k, hv with
    | 0, hv => obtain rfl := Option.some.inj hv; exact r0
    | 1, hv => obtain rfl := Option.some.inj hv; exact r1
    | k + 2, hv => simp at hv
  · intro k v hv
    obtain ⟨r1, r2⟩ := hr k v hv
    exact ⟨ownsRow_below r1 hbn, r2⟩
  · rintro e w' ⟨rfl, h2, h3⟩
    have hcw := ownsRow_below hc hbn
    exact ⟨rfl, (hbc.trans (hbn.mono hs)).trans h2, ownsRow_blk hcw (fun b e => h3 b (hcw.lt b e).2 (hcc b e))⟩
theorem two_below {w wx : World} {g h m : Nat} {s : Option (List Int)} (k : ∃ S T, Two w wx g h S T s m) : Below w.heap.size w wx := by
  obtain ⟨S, T, k⟩ := k; exact k.bl
/-- Both writers have put the same thing. -/
theorem both {w wE w5 wD w6 : World} {g h m m' m2 base q : Nat} {S T : Nat → Prop} {s s' s2 : Option (List Int)} {p : PartV} {v8 v9 v10 : Value} {t : TypeId} {cs : Array Value}
    (hTw : Two w wE g h S T s m) (hP : Put wE S g s' w5) (hD : Below w5.heap.size w5 wD) (hR : RPut wD T h s' m' w6) (hL : Lnt wE base p v8 v9 v10) (hE : BlockIs wE q t cs) (hq : base ≤ q) (hg : g < base) (hT : ∀ k, T k → k < base) (hs : s2 = s') (hm : m' ≤ m2) :
    (∃ S' T', Two w w6 g h S' T' s2 m2) ∧ Lnt w6 base p v8 v9 v10 ∧ BlockIs w6 q t cs := by
  subst hs
  have s1 : Stay base wE w5 := Stay.of_put hP hg
  have s2 : Stay base w5 wD := Stay.of_below hD
  have s3 : Stay base wD w6 := Stay.of_chg hR.fr hT
  refine ⟨⟨_, _, ((hTw.put hP).below hD).put (hR.more hm)⟩, ((hL.stay s1).stay s2).stay s3, ?_⟩
  exact s3.block (s2.block (s1.block hE hq) hq) hq
/-- The code's writer's bytes, spoilt or not. -/
theorem wbytes_all (w : World) (S : Nat → Prop) (g : Nat) (s : Option (List Int)) (h : WrAt w S g s) (hl : (s.getD []).length ≤ 1000000) :
    Calls Tryz.prog 21 #[.pointer (some ⟨g, 0, none⟩)] w fun e w' => ∃ v, e = .returned (.tuple #[v, .bool s.isSome]) ∧ w'.ownsRow w.heap.size 5 1 v (s.getD []).length (u8s (s.getD [])) ∧ Below w.heap.size w w' := by
  cases s with
  | none => exact (wbytes_no w S g h).mono fun e w' ⟨he, hw⟩ => ⟨_, he, by subst hw; exact World.ownsRow_nil _ _ _ _, by subst hw; exact Below.refl _ _⟩
  | some bs => exact (wbytes_some w S g bs h hl).mono fun e w' h => h
theorem refBytes_all (w : World) (T : Nat → Prop) (h m : Nat) (s : Option (List Int)) (k : RefAt w T h s m) (hm : m ≤ 1000000000) :
    Calls Tryz.prog 22 #[.pointer (some ⟨h, 0, none⟩)] w fun e w' => ∃ v, e = .returned (.tuple #[v, .bool s.isSome]) ∧ w'.ownsRow w.heap.size 5 1 v (s.getD []).length (u8s (s.getD [])) ∧ Below w.heap.size w w' ∧ (s.getD []).length ≤ m ∧ ∀ z ∈ s.getD [], 0 ≤ z ∧ z < 256 := by
  cases s with
  | none => exact (refBytes_none w T h m k).mono fun e w' ⟨he, hw⟩ => ⟨_, he, by subst hw; exact World.ownsRow_nil _ _ _ _, by subst hw; exact Below.refl _ _, Nat.zero_le _, fun z hz => by cases hz⟩
  | some bs => exact (refBytes_some w T h m bs k hm).mono fun e w' h => h
end Go.Proofs.YtifoiiaddcgngaaGreatDoor
