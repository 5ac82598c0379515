/- Law 02: is what stands there a part? -/
import Derived.Test.YtoddcjpfldpnfaaDoorLaw02Base
import Derived.Test.YtoddcjpfldpnfaaDoorCodeMathC
import Derived.Deep.RegionHeld3
namespace Go.Proofs.YtoddcjpfldpnfaaDoor
open Go.RowKit
theorem EnvF.drew {σ : Sen} {w0 w : World} {g : Nat} (h : EnvF σ w0 g w) : EnvF σ w0 g w.drew := ⟨h.gl, h.bl.drew, h.lo⟩
theorem Got.undrew {σ : Sen} {w w' : World} {g : Nat} {bs : List Int} {s : RSt} (h : Got σ w.drew g bs s w') : Got σ w g bs s w' := ⟨h.rd, undrew_grown h.fr⟩
theorem sameEntry_lit (a b : Ent) (A B : Option Addr) (ca cb : Nat) (w : World) (ha : BytesAt w A a.body) (hb : BytesAt w B b.body) (hl : a.body.length ≤ 9223372036854775807) :
    Calls Tryd.prog 42 #[.agg #[.int .i64 a.index, .int .i64 a.term, .int .i64 a.kind, .slice A a.body.length ca], .agg #[.int .i64 b.index, .int .i64 b.term, .int .i64 b.kind, .slice B b.body.length cb]] w fun e w' => e = .returned (.bool (sameE a b)) ∧ Below w.heap.size w w' :=
  sameEntry_any a b A B ca cb w ha hb hl
def loopR (bs : List Int) (w : Int) : List Int → RSt → Bool × RSt
  | [], s => (true, s)
  | n :: ns, s => if (fieldR bs w s).1 = n then loopR bs w ns (fieldR bs w s).2 else (false, (fieldR bs w s).2)
def gotR (bs : List Int) (p : PartV) (s : RSt) : Bool × RSt :=
  if p.kind % 4 = 0 then loopR bs p.width p.ns s
  else if p.kind % 4 = 1 then (sameB (textR bs p.ts.length s).1 p.ts, (textR bs p.ts.length s).2)
  else if p.kind % 4 = 2 then (sameB (rowR bs p.ns.length s).1 p.ns, (rowR bs p.ns.length s).2)
  else (sameE (entryR bs s).1 p.ent, (entryR bs s).2)
theorem loopR_drop (bs : List Int) (w n : Int) (ns : List Int) (k : Nat) (s : RSt) (h : ns[k]? = some n) (he : (fieldR bs w s).1 = n) : loopR bs w (ns.drop k) s = loopR bs w (ns.drop (k + 1)) (fieldR bs w s).2 := by
  obtain ⟨hk, hn⟩ := List.getElem?_eq_some_iff.1 h
  rw [List.drop_eq_getElem_cons hk, hn]
  show (if _ then _ else _) = _
  rw [if_pos he]
theorem loopR_stop (bs : List Int) (w n : Int) (ns : List Int) (k : Nat) (s : RSt) (h : ns[k]? = some n) (he : (fieldR bs w s).1 ≠ n) : loopR bs w (ns.drop k) s = (false, (fieldR bs w s).2) := by
  obtain ⟨hk, hn⟩ := List.getElem?_eq_some_iff.1 h
  rw [List.drop_eq_getElem_cons hk, hn]
  show (if _ then _ else _) = _
  rw [if_neg he]
set_option maxRecDepth 100000 in
set_option maxHeartbeats 4000000 in
theorem got_fields (σ : Sen) (w0 w : World) (g : Nat) (bs : List Int) (s : RSt) (p : PartV) (h : RdAt σ w g bs s) (hE : Env σ w0 g w) (hl : bs.length ≤ 140737488351232) (hp : p.ok w0) (hk : p.kind % 4 = 0) :
    Calls Tryd.prog 12 #[.pointer (some ⟨g, 0, none⟩), .agg p.cells.toArray] w fun e w' => e = .returned (.bool (loopR bs p.width p.ns s).1) ∧ Got σ w g bs (loopR bs p.width p.ns s).2 w' := by
  have hbn := below_new w (.cells p.cells.toArray 39)
  have hR1 := h.below hbn
  have hE1 := hE.below hbn
  have hgl : g < w.heap.size := by obtain ⟨x, cap, k, ev, hI⟩ := h; exact hI.blk.lt
  have hB := BlockIs.made w 39 p.cells.toArray
  have hlen := hp.len
  obtain ⟨d0, d1, d2, d3, d4, d5, d6, d7, d8⟩ := part_cells hB
  have HB := Lib.hid hB
  have Hk := Lib.hid hk
  generalize hL : loopR bs p.width p.ns s = L
  have HL := Lib.hid hL
  clear hB h hE hk hL
  unfold PartV.cells at *
  go_enter Tryd.func12, Tryd.ntmps12
  go_wp2_with fail
  refine (pick_any p.kind 4 _ (by decide) (by decide)).mono ?_
  rintro e w' ⟨rfl, rfl⟩
  rw [Hk.out]
  clear d0 d1 d2 d3 d4 d5 d6 d7 d8
  generalize w.alloc (.cells #[.int .i64 p.kind, .int .i64 p.width, .slice p.nA p.ns.length p.nc, .slice p.tA p.ts.length p.tc, .int .i64 p.ent.index, .int .i64 p.ent.term, .int .i64 p.ent.kind, .slice p.bA p.ent.body.length p.bc, .int .i64 p.most] 39) = w1 at *
  go_wp2_with fail
  have hfr1 := grown_below hbn (some g)
  by_cases hns : p.ns = []
  · have hl0 : p.ns.length = 0 := by rw [hns]; rfl
    have hst : L = (true, s) := by rw [← HL.out, hns]; rfl
    have Hst := Lib.hid hst
    obtain ⟨d0, d1, d2, d3, d4, d5, d6, d7, d8⟩ := part_cells HB.out
    rw [hl0] at d2
    clear d0 d1 d3 d4 d5 d6 d7 d8 hst hns hl0
    refine wp_loop_rounds 1 ?_
    rw [rounds_succ]
    go_wp2_with fail
    go_ret
    rw [Hst.out]
    exact ⟨rfl, hR1, hfr1⟩
  obtain ⟨b, o, hnA⟩ := hp.ints.some_ hns
  rw [hnA]
  have HnA := Lib.hid hnA
  clear hnA
  go_loopg [5] p.ns.length (fun gg i wx => ∃ (k : Nat) (sk : RSt), gg = p.ns.length - k ∧ k ≤ p.ns.length ∧ i = .int .i64 (k : Int) ∧ RdAt σ wx g bs sk ∧ BlockIs wx w.heap.size 39 p.cells.toArray ∧ Env σ w0 g wx ∧ w.grownBy wx (some g) ∧ Hid (L = loopR bs p.width (p.ns.drop k) sk))
  case atStart => exact ⟨0, s, rfl, by omega, rfl, hR1, HB.out, hE1, hfr1, Lib.hid HL.out.symm⟩
  case round =>
    obtain ⟨k, sk, hgk, hkl, rfl, hR, hBx, hE, hfr, hLk⟩ := hrel
    have Hgk := Lib.hid hgk; clear hgk
    obtain ⟨d0, d1, d2, d3, d4, d5, d6, d7, d8⟩ := part_cells hBx
    clear d0 d3 d4 d5 d6 d7 d8
    by_cases hlt : k < p.ns.length
    · have hnk : p.ns[k]? = some (p.ns.getD k 0) := by rw [List.getD_eq_getElem?_getD, List.getElem?_eq_getElem hlt]; rfl
      have hA0 := hp.ints
      have hnb := hA0.bd k hlt
      rw [HnA.out] at hA0 d2
      have hA1 := hA0.below hE.bl
      have c1 := hA1.one k hlt
      have Hp0 := Lib.hid (And.intro hA0 hnb)
      clear hA0 hA1 hnb
      generalize p.ns.getD k 0 = n at c1 hnk Hp0
      have Hnk := Lib.hid hnk
      have HE := Lib.hid hE
      have HR := Lib.hid hR
      have HBx := Lib.hid hBx
      clear hnk hE hR hBx
      have q1 : (0 : Int) ≤ (k : Int) := by omega
      have q2 : (k : Int) < (p.ns.length : Int) := by omega
      have hbl : b ≠ g := by
        have h1 := World.block_lt_of_cell? _ _ (Hp0.out.1.one k hlt)
        have h2 := HE.out.lo
        have h3 : b < w0.heap.size := h1
        omega
      have hq : w.heap.size ≠ g := by omega
      have hkeep : ∀ w3, Got σ wr g bs (fieldR bs p.width sk).2 w3 → w3.cell? ⟨w.heap.size, 1, none⟩ = some (.int .i64 p.width) ∧ w3.cell? ⟨w.heap.size, 2, none⟩ = some (.slice (some ⟨b, o, none⟩) p.ns.length p.nc) ∧ w3.cell? ⟨b, o + k, none⟩ = some (.int .i64 n) := fun w3 hG =>
        ⟨hG.fr.cell d1 (by simpa using hq), hG.fr.cell d2 (by simpa using hq), hG.fr.cell c1 (by simpa using hbl)⟩
      have Hkeep := Lib.hid hkeep
      clear hkeep
      generalize hf : fieldR bs p.width sk = r at *
      have Hf := Lib.hid hf
      clear hf
      go_wp2_with fail
      go_region_held3 (fun w' => w'.cell? ⟨w.heap.size, 1, none⟩ = some (.int .i64 p.width) ∧ w'.cell? ⟨w.heap.size, 2, none⟩ = some (.slice (some ⟨b, o, none⟩) p.ns.length p.nc) ∧ w'.cell? ⟨b, o + k, none⟩ = some (.int .i64 n)) (first | exact ⟨d1, d2, c1⟩ | exact ⟨k1, k2, k3⟩)
        (first | (go_at_call 16; (with_reducible refine (rfield_any σ w0 _ g bs sk p.width ?_ ?_ hl).mono ?_); (first | exact HR.out | exact HR.out.drew); (first | exact HE.out.f | exact HE.out.f.drew); rintro e w3 ⟨rfl, hG3'⟩; rw [Hf.out] at hG3' ⊢; have hG3 : Got σ wr g bs r.2 w3 := (by first | exact hG3' | exact hG3'.undrew); have k1 := (Hkeep.out w3 hG3).1; have k2 := (Hkeep.out w3 hG3).2.1; have k3 := (Hkeep.out w3 hG3).2.2))
      have HG3 := Lib.hid hG3
      clear hG3 hG3' k1 k2 k3 d1 d2 c1
      by_cases hne : r.1 = n
      · have hb0 : (r.1 != n) = false := by rw [hne]; simp
        have hst : L = loopR bs p.width (p.ns.drop (k + 1)) r.2 := by rw [hLk.out, loopR_drop bs p.width n p.ns k sk Hnk.out (by rw [Hf.out]; exact hne), Hf.out]
        have Hst := Lib.hid hst
        clear hne hst
        go_wp2_with fail
        go_roundg (p.ns.length - (k + 1))
        case measure => rw [Hgk.out]; omega
        case rel => exact ⟨k + 1, r.2, rfl, by omega, by go_num, HG3.out.rd, HBx.out.kept HG3.out.fr (by simpa using hq), HE.out.grown HG3.out.fr, hfr.trans HG3.out.fr, Hst⟩
      · have hb0 : (r.1 != n) = true := by simpa using hne
        have hst : L = (false, r.2) := by rw [hLk.out, loopR_stop bs p.width n p.ns k sk Hnk.out (by rw [Hf.out]; exact hne), Hf.out]
        have Hst := Lib.hid hst
        clear hne hst
        go_wp2_with fail
        go_ret
        rw [Hst.out]
        exact ⟨rfl, HG3.out.rd, hfr.trans HG3.out.fr⟩
    · obtain rfl : k = p.ns.length := by omega
      have hst : L = (true, sk) := by rw [hLk.out, List.drop_length]; rfl
      have Hst := Lib.hid hst
      rw [HnA.out] at d2
      clear hst hlt
      go_wp2_with fail
      go_ret
      rw [Hst.out]
      exact ⟨rfl, hR, hfr⟩
set_option maxRecDepth 100000 in
set_option maxHeartbeats 4000000 in
theorem got_text (σ : Sen) (w0 w : World) (g : Nat) (bs : List Int) (s : RSt) (p : PartV) (h : RdAt σ w g bs s) (hE : Env σ w0 g w) (hl : bs.length ≤ 140737488351232) (hp : p.ok w0) (hk : p.kind % 4 = 1) :
    Calls Tryd.prog 12 #[.pointer (some ⟨g, 0, none⟩), .agg p.cells.toArray] w fun e w' => e = .returned (.bool (sameB (textR bs p.ts.length s).1 p.ts)) ∧ Got σ w g bs (textR bs p.ts.length s).2 w' := by
  have hbn := below_new w (.cells p.cells.toArray 39)
  have hR1 := h.below hbn
  have hE1 := hE.below hbn
  have hgl : g < w.heap.size := by obtain ⟨x, cap, k, ev, hI⟩ := h; exact hI.blk.lt
  have hB := BlockIs.made w 39 p.cells.toArray
  have hlen := hp.len
  have hmem := textR_mem bs h.bytes p.ts.length s
  obtain ⟨d0, d1, d2, d3, d4, d5, d6, d7, d8⟩ := part_cells hB
  have HB := Lib.hid hB
  have Hk := Lib.hid hk
  have hs1 : w.heap.size < (w.alloc (.cells p.cells.toArray 39)).heap.size := by simp
  generalize hL : (textR bs p.ts.length s) = L at *
  have HL := Lib.hid hL
  clear hB h hE hk hL
  unfold PartV.cells at *
  go_enter Tryd.func12, Tryd.ntmps12
  go_wp2_with fail
  refine (pick_any p.kind 4 _ (by decide) (by decide)).mono ?_
  rintro e w' ⟨rfl, rfl⟩
  rw [Hk.out]
  clear d0 d1 d2 d3 d4 d5 d6 d7 d8
  generalize w.alloc (.cells #[.int .i64 p.kind, .int .i64 p.width, .slice p.nA p.ns.length p.nc, .slice p.tA p.ts.length p.tc, .int .i64 p.ent.index, .int .i64 p.ent.term, .int .i64 p.ent.kind, .slice p.bA p.ent.body.length p.bc, .int .i64 p.most] 39) = w1 at *
  have hfr1 := grown_below hbn (some g)
  have hq : w.heap.size ≠ g := by omega
  have HE1 := Lib.hid hE1
  have HR1 := Lib.hid hR1
  clear hE1 hR1
  go_wp2_with fail
  obtain ⟨_, _, _, d3, _, _, _, _, _⟩ := part_cells HB.out
  have hkeep : ∀ w3, Got σ w1 g bs L.2 w3 → w3.cell? ⟨w.heap.size, 3, none⟩ = some (.slice p.tA p.ts.length p.tc) := fun w3 hG => hG.fr.cell d3 (by simpa using hq)
  have Hkeep := Lib.hid hkeep
  clear hkeep
  go_region_held3 (fun w' => w'.cell? ⟨w.heap.size, 3, none⟩ = some (.slice p.tA p.ts.length p.tc)) (first | exact d3 | exact k1 | exact j1)
    (first
      | (go_at_call 17; (with_reducible refine (rtext_any σ w0 _ g bs s p.ts.length ?_ ?_ hl).mono ?_); (first | exact HR1.out | exact HR1.out.drew); (first | exact HE1.out | exact HE1.out.drew); rintro e w3 ⟨v, rfl, hown, hG3'⟩; rw [HL.out] at hown hG3'; have hG3 : Got σ w1 g bs L.2 w3 := (by first | exact hG3' | exact hG3'.undrew); have k1 := Hkeep.out w3 hG3; obtain ⟨X, cap, hv, _⟩ := own_slice hown; subst hv; have hX := own_reads hown hmem; have HG3 := Lib.hid hG3; clear hG3 hG3' hown)
      | (go_at_call 20; (with_reducible refine (sameBytes_any L.1 p.ts X p.tA cap p.tc _ ?_ ?_ ?_).mono ?_); exact hX; exact hp.text.below (HE1.out.grown HG3.out.fr).bl; (have := textR_le bs p.ts.length s; rw [HL.out] at this; omega); rintro e w4 ⟨rfl, hq4⟩; have hq4 : Qu w3 w4 := hq4; have j1 := (hq4.cell _).trans k1))
  all_goals
    go_wp2_with fail
    go_ret
    exact ⟨rfl, HG3.out.rd.qu hq4, (hfr1.trans HG3.out.fr).trans (hq4.grown _)⟩
set_option maxRecDepth 100000 in
set_option maxHeartbeats 4000000 in
theorem got_row (σ : Sen) (w0 w : World) (g : Nat) (bs : List Int) (s : RSt) (p : PartV) (h : RdAt σ w g bs s) (hE : Env σ w0 g w) (hl : bs.length ≤ 140737488351232) (hp : p.ok w0) (hk : p.kind % 4 = 2) :
    Calls Tryd.prog 12 #[.pointer (some ⟨g, 0, none⟩), .agg p.cells.toArray] w fun e w' => e = .returned (.bool (sameB (rowR bs p.ns.length s).1 p.ns)) ∧ Got σ w g bs (rowR bs p.ns.length s).2 w' := by
  have hbn := below_new w (.cells p.cells.toArray 39)
  have hR1 := h.below hbn
  have hE1 := hE.below hbn
  have hgl : g < w.heap.size := by obtain ⟨x, cap, k, ev, hI⟩ := h; exact hI.blk.lt
  have hB := BlockIs.made w 39 p.cells.toArray
  have hlen := hp.len
  have hmem := rowR_bd bs h.bytes p.ns.length s
  obtain ⟨d0, d1, d2, d3, d4, d5, d6, d7, d8⟩ := part_cells hB
  have HB := Lib.hid hB
  have Hk := Lib.hid hk
  have hs1 : w.heap.size < (w.alloc (.cells p.cells.toArray 39)).heap.size := by simp
  generalize hL : (rowR bs p.ns.length s) = L at *
  have HL := Lib.hid hL
  clear hB h hE hk hL
  unfold PartV.cells at *
  go_enter Tryd.func12, Tryd.ntmps12
  go_wp2_with fail
  refine (pick_any p.kind 4 _ (by decide) (by decide)).mono ?_
  rintro e w' ⟨rfl, rfl⟩
  rw [Hk.out]
  clear d0 d1 d2 d3 d4 d5 d6 d7 d8
  generalize w.alloc (.cells #[.int .i64 p.kind, .int .i64 p.width, .slice p.nA p.ns.length p.nc, .slice p.tA p.ts.length p.tc, .int .i64 p.ent.index, .int .i64 p.ent.term, .int .i64 p.ent.kind, .slice p.bA p.ent.body.length p.bc, .int .i64 p.most] 39) = w1 at *
  have hfr1 := grown_below hbn (some g)
  have hq : w.heap.size ≠ g := by omega
  have HE1 := Lib.hid hE1
  have HR1 := Lib.hid hR1
  clear hE1 hR1
  go_wp2_with fail
  obtain ⟨_, _, d2, _, _, _, _, _, _⟩ := part_cells HB.out
  have hkeep : ∀ w3, Got σ w1 g bs L.2 w3 → w3.cell? ⟨w.heap.size, 2, none⟩ = some (.slice p.nA p.ns.length p.nc) := fun w3 hG => hG.fr.cell d2 (by simpa using hq)
  have Hkeep := Lib.hid hkeep
  clear hkeep
  have hle := rowR_len bs HR1.out.bytes p.ns.length s
  rw [HL.out] at hle
  go_region_held3 (fun w' => w'.cell? ⟨w.heap.size, 2, none⟩ = some (.slice p.nA p.ns.length p.nc)) (first | exact d2 | exact k1 | exact j1)
    (first
      | (go_at_call 18; (with_reducible refine (rrow_any σ w0 _ g bs s p.ns.length ?_ ?_ hl).mono ?_); (first | exact HR1.out | exact HR1.out.drew); (first | exact HE1.out | exact HE1.out.drew); rintro e w3 ⟨v, rfl, hown, hG3'⟩; rw [HL.out] at hown hG3'; have hG3 : Got σ w1 g bs L.2 w3 := (by first | exact hG3' | exact hG3'.undrew); have k1 := Hkeep.out w3 hG3; obtain ⟨X, cap, hv, _⟩ := own_slice hown; subst hv; have hX := own_ints hown (fun z hz => by have := hmem z hz; omega); have HG3 := Lib.hid hG3; clear hG3 hG3' hown)
      | (go_at_call 41; (with_reducible refine (sameInts_any L.1 p.ns X p.nA cap p.nc _ ?_ ?_ ?_).mono ?_); exact hX; exact hp.ints.below (HE1.out.grown HG3.out.fr).bl; omega; rintro e w4 ⟨rfl, hq4⟩; have hq4 : Qu w3 w4 := hq4; have j1 := (hq4.cell _).trans k1))
  all_goals
    go_wp2_with fail
    go_ret
    exact ⟨rfl, HG3.out.rd.qu hq4, (hfr1.trans HG3.out.fr).trans (hq4.grown _)⟩
set_option maxRecDepth 100000 in
set_option maxHeartbeats 4000000 in
theorem got_entry (σ : Sen) (w0 w : World) (g : Nat) (bs : List Int) (s : RSt) (p : PartV) (h : RdAt σ w g bs s) (hE : Env σ w0 g w) (hl : bs.length ≤ 140737488351232) (hp : p.ok w0) (hk : p.kind % 4 = 3) :
    Calls Tryd.prog 12 #[.pointer (some ⟨g, 0, none⟩), .agg p.cells.toArray] w fun e w' => e = .returned (.bool (sameE (entryR bs s).1 p.ent)) ∧ Got σ w g bs (entryR bs s).2 w' := by
  have hbn := below_new w (.cells p.cells.toArray 39)
  have hR1 := h.below hbn
  have hE1 := hE.below hbn
  have hgl : g < w.heap.size := by obtain ⟨x, cap, k, ev, hI⟩ := h; exact hI.blk.lt
  have hB := BlockIs.made w 39 p.cells.toArray
  have hlen := hp.len
  have hmem := entryR_mem bs h.bytes s
  obtain ⟨d0, d1, d2, d3, d4, d5, d6, d7, d8⟩ := part_cells hB
  have HB := Lib.hid hB
  have Hk := Lib.hid hk
  have hs1 : w.heap.size < (w.alloc (.cells p.cells.toArray 39)).heap.size := by simp
  generalize hL : (entryR bs s) = L at *
  have HL := Lib.hid hL
  clear hB h hE hk hL
  unfold PartV.cells at *
  go_enter Tryd.func12, Tryd.ntmps12
  go_wp2_with fail
  refine (pick_any p.kind 4 _ (by decide) (by decide)).mono ?_
  rintro e w' ⟨rfl, rfl⟩
  rw [Hk.out]
  clear d0 d1 d2 d3 d4 d5 d6 d7 d8
  generalize w.alloc (.cells #[.int .i64 p.kind, .int .i64 p.width, .slice p.nA p.ns.length p.nc, .slice p.tA p.ts.length p.tc, .int .i64 p.ent.index, .int .i64 p.ent.term, .int .i64 p.ent.kind, .slice p.bA p.ent.body.length p.bc, .int .i64 p.most] 39) = w1 at *
  have hfr1 := grown_below hbn (some g)
  have hq : w.heap.size ≠ g := by omega
  have HE1 := Lib.hid hE1
  have HR1 := Lib.hid hR1
  clear hE1 hR1
  go_wp2_with fail
  obtain ⟨_, _, _, _, d4, d5, d6, d7, _⟩ := part_cells HB.out
  have hkeep : ∀ w3, Got σ w1 g bs L.2 w3 → w3.cell? ⟨w.heap.size, 4, none⟩ = some (.int .i64 p.ent.index) ∧ w3.cell? ⟨w.heap.size, 5, none⟩ = some (.int .i64 p.ent.term) ∧ w3.cell? ⟨w.heap.size, 6, none⟩ = some (.int .i64 p.ent.kind) ∧ w3.cell? ⟨w.heap.size, 7, none⟩ = some (.slice p.bA p.ent.body.length p.bc) := fun w3 hG => ⟨hG.fr.cell d4 (by simpa using hq), hG.fr.cell d5 (by simpa using hq), hG.fr.cell d6 (by simpa using hq), hG.fr.cell d7 (by simpa using hq)⟩
  have Hkeep := Lib.hid hkeep
  clear hkeep
  have hbd := entryR_bd bs s
  rw [HL.out] at hbd
  go_region_held3 (fun w' => w'.cell? ⟨w.heap.size, 4, none⟩ = some (.int .i64 p.ent.index) ∧ w'.cell? ⟨w.heap.size, 5, none⟩ = some (.int .i64 p.ent.term) ∧ w'.cell? ⟨w.heap.size, 6, none⟩ = some (.int .i64 p.ent.kind) ∧ w'.cell? ⟨w.heap.size, 7, none⟩ = some (.slice p.bA p.ent.body.length p.bc)) (first | exact ⟨d4, d5, d6, d7⟩ | exact k1 | exact j1)
    (first
      | (go_at_call 19; (with_reducible refine (rentry_any σ w0 _ g bs s ?_ ?_ hl).mono ?_); (first | exact HR1.out | exact HR1.out.drew); (first | exact HE1.out | exact HE1.out.drew); rintro e w3 ⟨v, rfl, hown, hG3'⟩; rw [HL.out] at hown hG3' ⊢; have hG3 : Got σ w1 g bs L.2 w3 := (by first | exact hG3' | exact hG3'.undrew); have k1 := Hkeep.out w3 hG3; obtain ⟨X, cap, hv, _⟩ := own_slice hown; subst hv; have hX := own_reads hown hmem; have HG3 := Lib.hid hG3; clear hG3 hG3' hown)
      | (go_at_call 42; (with_reducible refine (sameEntry_lit L.1 p.ent X p.bA cap p.bc _ ?_ ?_ ?_).mono ?_); exact hX; exact hp.body.below (HE1.out.grown HG3.out.fr).bl; omega; rintro e w4 ⟨rfl, hb4⟩; have k0 := k1; have j1 := And.intro (cell_below k0.1 hb4) (And.intro (cell_below k0.2.1 hb4) (And.intro (cell_below k0.2.2.1 hb4) (cell_below k0.2.2.2 hb4)))))
  all_goals
    go_wp2_with fail
    go_ret
    exact ⟨rfl, HG3.out.rd.below hb4, (hfr1.trans HG3.out.fr).trans (grown_below hb4 _)⟩
/-- In one. -/
theorem got_any (σ : Sen) (w0 w : World) (g : Nat) (bs : List Int) (s : RSt) (p : PartV) (h : RdAt σ w g bs s) (hE : Env σ w0 g w) (hl : bs.length ≤ 140737488351232) (hp : p.ok w0) :
    Calls Tryd.prog 12 #[.pointer (some ⟨g, 0, none⟩), .agg p.cells.toArray] w fun e w' => e = .returned (.bool (gotR bs p s).1) ∧ Got σ w g bs (gotR bs p s).2 w' := by
  unfold gotR
  rcases mod4 p.kind with hk | hk | hk | hk
  · rw [if_pos hk]; exact got_fields σ w0 w g bs s p h hE hl hp hk
  · rw [if_neg (by omega), if_pos hk]; exact got_text σ w0 w g bs s p h hE hl hp hk
  · rw [if_neg (by omega), if_neg (by omega), if_pos hk]; exact got_row σ w0 w g bs s p h hE hl hp hk
  · rw [if_neg (by omega), if_neg (by omega), if_neg (by omega)]; exact got_entry σ w0 w g bs s p h hE hl hp hk
end Go.Proofs.YtoddcjpfldpnfaaDoor
