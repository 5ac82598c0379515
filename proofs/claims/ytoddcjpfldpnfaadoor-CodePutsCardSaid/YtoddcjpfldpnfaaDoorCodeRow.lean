/- A writer's rows and entries. -/
import Derived.Test.YtoddcjpfldpnfaaDoorCodeRight
namespace Go.Proofs.YtoddcjpfldpnfaaDoor
open Go.RowKit
/-- Numbers never lie in a writer's own block. -/
theorem IntsAt.farW {w w' : World} {g : Nat} {p : Option Addr} {b : Bool} {A : Option Addr} {zs : List Int} (hz : IntsAt w A zs) (hb : BlockIs w g 32 #[.pointer p, .bool b]) (hg : w.grownBy w' (some g)) : IntsAt w' A zs :=
  ⟨hz.1, fun hne => by
    obtain ⟨x, off, e, hc⟩ := hz.2 hne
    have hxg : x ≠ g := by
      rintro rfl
      have h1 := hc 0 (List.length_pos_iff.2 hne)
      rw [hb.cell] at h1
      match off + 0, h1 with
      | 0, h1 => simp at h1
      | 1, h1 => simp at h1
      | n + 2, h1 => simp at h1
    exact ⟨x, off, e, fun i hi => hg.cell (hc i hi) (by simpa using hxg)⟩⟩
set_option maxRecDepth 100000 in
set_option maxHeartbeats 1000000 in
theorem wrow_any (w : World) (S : Nat → Prop) (g : Nat) (s : Option (List Int)) (h : WrAt w S g s) (ns : List Int) (A : Option Addr) (c : Nat) (hz : IntsAt w A ns) (hl : ns.length ≤ 1000000) :
    Calls Tryd.prog 23 #[.pointer (some ⟨g, 0, none⟩), .slice A ns.length c] w fun e w' => e = .returned (.tuple #[]) ∧ Put w S g (putO s (rowB ns)) w' := by
  have hlt := h.lt
  have Hfoot := Lib.hid h.foot
  have hbn := below_new w (.cells #[.int .i64 (ns.length : Int)] 3)
  have HF := Lib.hid (field_any (w.alloc (.cells #[.int .i64 (ns.length : Int)] 3)) S g s (h.below hbn) 1 (some ⟨w.heap.size, 0, none⟩) 1 [(ns.length : Int)] (intsAt_lit w [(ns.length : Int)] (by simp; omega)) (by simp))
  have Hz := Lib.hid (hz.below hbn)
  obtain ⟨p, hb⟩ := (h.below hbn).isBlock
  have Hb := Lib.hid hb
  clear h hz hb
  go_enter Tryd.func23, Tryd.ntmps23
  go_wp2_with fail
  refine HF.out.mono ?_
  rintro e w2 ⟨rfl, hP⟩
  have hz2 := Hz.out.farW Hb.out hP.fr
  have hP0 : Put w S g (putO s (fieldsB 1 [(ns.length : Int)])) w2 := Put.after hbn hP Hfoot.out hlt
  clear hP Hz Hb HF
  go_wp2_with fail
  refine (field_any w2 _ g _ hP0.wr 6 A c ns hz2 hl).mono ?_
  rintro e w3 ⟨rfl, hP3⟩
  go_wp2_with fail
  go_end0
  exact ⟨rfl, by
    have := hP0.trans hP3 Hfoot.out hlt
    rw [putO_assoc] at this
    exact this⟩
theorem entry_cells {w : World} {g : Nat} {t : TypeId} {x y z v : Value} (h : BlockIs w g t #[x, y, z, v]) : w.cell? ⟨g, 0, none⟩ = some x ∧ w.cell? ⟨g, 1, none⟩ = some y ∧ w.cell? ⟨g, 2, none⟩ = some z ∧ w.cell? ⟨g, 3, none⟩ = some v :=
  ⟨h.cell 0, h.cell 1, h.cell 2, h.cell 3⟩
set_option maxRecDepth 100000 in
set_option maxHeartbeats 2000000 in
theorem wentry_any (w : World) (S : Nat → Prop) (g : Nat) (s : Option (List Int)) (h : WrAt w S g s) (E : Ent) (A : Option Addr) (c : Nat) (hz : BytesAt w A E.body) (hl : E.body.length ≤ 140737488351232) (hA : A = none → c = 0) (hE : -9223372036854775808 ≤ E.index ∧ E.index ≤ 9223372036854775807 ∧ -9223372036854775808 ≤ E.term ∧ E.term ≤ 9223372036854775807 ∧ -9223372036854775808 ≤ E.kind ∧ E.kind ≤ 9223372036854775807) :
    Calls Tryd.prog 29 #[.pointer (some ⟨g, 0, none⟩), .agg #[.int .i64 E.index, .int .i64 E.term, .int .i64 E.kind, .slice A E.body.length c]] w fun e w' => e = .returned (.tuple #[]) ∧ Put w S g (putO s (entryB E)) w' := by
  have hlt := h.lt
  have Hfoot := Lib.hid h.foot
  have hbn := below_new w (.cells #[.int .i64 E.index, .int .i64 E.term, .int .i64 E.kind, .slice A E.body.length c] 37)
  have hW1 := h.below hbn
  have Hz := Lib.hid (hz.below hbn)
  have hB1 := BlockIs.made w 37 #[.int .i64 E.index, .int .i64 E.term, .int .i64 E.kind, .slice A E.body.length c]
  have hsz : (w.alloc (.cells #[.int .i64 E.index, .int .i64 E.term, .int .i64 E.kind, .slice A E.body.length c] 37)).heap.size = w.heap.size + 1 := by simp
  obtain ⟨p, hb⟩ := hW1.isBlock
  clear h hz
  go_enter Tryd.func29, Tryd.ntmps29
  go_wp2_with fail
  generalize w.alloc (.cells #[.int .i64 E.index, .int .i64 E.term, .int .i64 E.kind, .slice A E.body.length c] 37) = w1 at *
  have Hsz := Lib.hid hsz; clear hsz
  have HB1 := Lib.hid hB1; clear hB1
  refine (whole_is w1 g p _ hb).mono ?_
  rintro e w' ⟨rfl, rfl⟩
  cases hs : s with
  | none =>
    subst hs
    go_wp2_with fail
    exact ret_unit _ _ _ _ _ rfl rfl ⟨rfl, by rw [none_putO]; exact Put.after hbn (Put.same hW1) Hfoot.out hlt⟩
  | some bs =>
    subst hs
    have d0 := entry_cells HB1.out
    have D0 := Lib.hid d0
    obtain ⟨c0, c1, c2, c3⟩ := d0
    go_wp2_with fail
    clear c0 c1 c2 c3
    refine (right_any w1 E A c (by omega)).mono ?_
    rintro e w2 ⟨rfl, hb2⟩
    have HB2 := Lib.hid (HB1.out.below hb2 HB1.out.lt)
    have hW2 := hW1.below hb2
    have hbn2 : Below w.heap.size w w2 := hbn.trans (hb2.mono hbn.size)
    have Hz2 := Lib.hid (Hz.out.below hb2)
    have hs2 := hb2.size
    cases hr : rightB E with
    | false =>
      have hN : putO (some bs) (entryB E) = none := by unfold entryB; rw [if_neg (by rw [hr]; decide)]; rfl
      have HN := Lib.hid hN
      clear hN hr
      go_wp2_with fail
      refine (spoil_any w2 S g _ hW2).mono ?_
      rintro e w3 ⟨rfl, hP⟩
      go_wp2_with fail
      exact ret_unit _ _ _ _ _ rfl rfl ⟨rfl, by rw [HN.out]; exact Put.after hbn2 hP Hfoot.out hlt⟩
    | true =>
      have hN : putO (some bs) (entryB E) = putO (putO (putO (some bs) (fieldsB 1 [E.kind])) (fieldsB 6 [E.index, E.term])) (textB E.body) := by rw [entryB_put E hr, putO_assoc, putO_assoc]
      have HN := Lib.hid hN
      clear hN hr
      have hbA := below_new w2 (.cells #[.int .i64 E.kind] 3)
      have HF1 := Lib.hid (field_any _ S g _ (hW2.below hbA) 1 (some ⟨w2.heap.size, 0, none⟩) 1 [E.kind] (intsAt_lit w2 [E.kind] (by intro z hz; obtain rfl := List.mem_singleton.1 hz; omega)) (by simp))
      obtain ⟨p2, hbk2⟩ := (hW2.below hbA).isBlock
      have HbA := Lib.hid (And.intro (HB2.out.below hbA HB2.out.lt) (And.intro (Hz2.out.below hbA) hbk2))
      obtain ⟨c0, c1, c2, c3⟩ := entry_cells HB2.out
      go_wp2_with fail
      clear c0 c1 c2 c3
      refine HF1.out.mono ?_
      rintro e w3 ⟨rfl, hP3⟩
      have HB3 := Lib.hid (HbA.out.1.kept hP3.fr (by have := Hsz.out; simp; omega))
      have Hz3 := Lib.hid (HbA.out.2.1.farW HbA.out.2.2 hP3.fr)
      have hP3' : Put w S g (putO (some bs) (fieldsB 1 [E.kind])) w3 := Put.after (hbn2.trans (hbA.mono hbn2.size)) hP3 Hfoot.out hlt
      clear hP3 HF1 HbA hbA hbk2
      have hbA := below_new w3 (.cells #[.int .i64 E.index, .int .i64 E.term] 3)
      have HF2 := Lib.hid (field_any _ _ g _ (hP3'.wr.below hbA) 6 (some ⟨w3.heap.size, 0, none⟩) 2 [E.index, E.term] (intsAt_lit w3 [E.index, E.term] (by intro z hz; simp at hz; rcases hz with rfl | rfl <;> omega)) (by simp))
      obtain ⟨p3, hbk3⟩ := (hP3'.wr.below hbA).isBlock
      have HbA := Lib.hid (And.intro (HB3.out.below hbA HB3.out.lt) (And.intro (Hz3.out.below hbA) hbk3))
      obtain ⟨c0, c1, c2, c3⟩ := entry_cells HB3.out
      go_wp2_with fail
      clear c0 c1 c2 c3
      refine HF2.out.mono ?_
      rintro e w4 ⟨rfl, hP4⟩
      have HB4 := Lib.hid (HbA.out.1.kept hP4.fr (by have := Hsz.out; simp; omega))
      have Hz4 := Lib.hid (HbA.out.2.1.farW HbA.out.2.2 hP4.fr)
      have hP4' := hP3'.trans (Put.after hbA hP4 hP3'.wr.foot hP3'.wr.lt) Hfoot.out hlt
      clear hP4 HF2 HbA hbA hbk3 hP3'
      obtain ⟨c0, c1, c2, c3⟩ := entry_cells HB4.out
      go_wp2_with fail
      clear c0 c1 c2 c3
      refine (wtext_any w4 _ g _ hP4'.wr E.body A c Hz4.out hl hA).mono ?_
      rintro e w5 ⟨rfl, hP5⟩
      go_wp2_with fail
      go_end0
      exact ⟨rfl, by rw [HN.out]; exact hP4'.trans hP5 Hfoot.out hlt⟩
end Go.Proofs.YtoddcjpfldpnfaaDoor
