/- Law 02, CodeEnds: two readers side by side, the code's and the page's. -/
/- Law 02, CodeEnds: does a reader get just what the document's does? -/
import Derived.Test.YtifoiiaddcgngaaGreatDoorLaw02Parts
import Derived.Test.YtifoiiaddcgngaaGreatDoorRefRdEntry
import Derived.Test.YtifoiiaddcgngaaGreatDoorKitOver
import Derived.Test.YtifoiiaddcgngaaGreatDoorKitC
import Derived.Test.YtifoiiaddcgngaaGreatDoorReadErr
import Derived.Test.YtifoiiaddcgngaaGreatDoorKitLentInts
import Derived.Deep.DeepCutAuto
import Derived.Deep.CutBlock
namespace Go.Proofs.YtifoiiaddcgngaaGreatDoor
open Go.RowKit
/-- The two readers: the code's at gr, the page's at gs, both newer than w. -/
structure GInv (σ : Sen) (w wx : World) (gr gs : Nat) (bs : List Int) (s1 s2 : RSt) : Prop where
  rd : RdAt σ wx gr bs s1
  rr : RrAt w.heap.size wx gs bs s2
  env : Env σ w gr wx
  ne : gr < gs
section
variable {σ : Sen} {w wx w' : World} {gr gs : Nat} {bs : List Int} {s1 s2 s' : RSt}
theorem GInv.below (h : GInv σ w wx gr gs bs s1 s2) (hb : Below wx.heap.size wx w') : GInv σ w w' gr gs bs s1 s2 := ⟨h.rd.below hb, h.rr.below hb, h.env.below hb, h.ne⟩
theorem GInv.drewN (h : GInv σ w wx gr gs bs s1 s2) (n : Nat) : GInv σ w (wx.drewN n) gr gs bs s1 s2 := h.below (drewN_below (Below.refl _ _) n)
theorem GInv.drew (h : GInv σ w wx gr gs bs s1 s2) : GInv σ w wx.drew gr gs bs s1 s2 := h.below (Below.refl _ _).drew
theorem GInv.code (h : GInv σ w wx gr gs bs s1 s2) (g : Got σ wx gr bs s' w') : GInv σ w w' gr gs bs s' s2 :=
  ⟨g.rd, h.rr.kept g.fr (fun b e => by cases e; exact ⟨h.env.lo, Nat.ne_of_lt h.ne⟩), h.env.grown g.fr, h.ne⟩
theorem GInv.page (h : GInv σ w wx gr gs bs s1 s2) (g : RGot w.heap.size wx gs bs s' w') : GInv σ w w' gr gs bs s1 s' :=
  ⟨h.rd.newer g.fr (fun b e => by cases e; exact h.ne), g.rd, ⟨h.env.gl, below_grown h.env.bl g.fr h.env.bl.size (Nat.le_trans h.env.lo (Nat.le_of_lt h.ne)), h.env.lo⟩, h.ne⟩
theorem GInv.over (h : GInv σ w wx gr gs bs s1 s2) {row : Option Nat} (hg : wx.grownBy w' row) (hr : ∀ b, row = some b → gs < b) : GInv σ w w' gr gs bs s1 s2 :=
  ⟨h.rd.newer hg (fun b e => Nat.lt_trans h.ne (hr b e)), h.rr.kept hg (fun b e => by have := hr b e; have := h.rr.low; omega), ⟨h.env.gl, h.env.bl.grown hg h.env.bl.size (fun b e => by have := hr b e; have := h.rr.low; omega), h.env.lo⟩, h.ne⟩
theorem GInv.lt (h : GInv σ w wx gr gs bs s1 s2) : gs < wx.heap.size := h.rr.lt
end
theorem sameE_same (e : Ent) : sameE e e = true := by unfold sameE; simp
theorem errs_agree {s : RSt} {k : Nat} {e b : Int} {n : Nat} (h : RrSt s k e b n) : e = errNo s ∧ b = errPos s := by
  cases s with
  | ok j => obtain ⟨_, rfl, rfl, _⟩ := h; exact ⟨rfl, rfl⟩
  | bad p l => obtain ⟨rfl, rfl, _⟩ := h; exact ⟨rfl, rfl⟩
end Go.Proofs.YtifoiiaddcgngaaGreatDoor
namespace Go.Proofs.YtifoiiaddcgngaaGreatDoor
open Go.RowKit
theorem LentAt.on {w w' : World} {v : Value} {zs : List Int} (h : LentAt w v zs) (hb : Below w.heap.size w w') : LentAt w' v zs := by
  obtain ⟨g, cap, cs, rfl, hc, hm, hg, ht, hr⟩ := h
  exact ⟨g, cap, cs, rfl, hc, hm, (hb.block g (Array.getElem?_eq_some_iff.1 hg).1).trans hg, ht, hr⟩
theorem LentAt.reads {w : World} {v : Value} {zs : List Int} (h : LentAt w v zs) : ∃ g cap, v = .slice (some ⟨g, 0, none⟩) zs.length cap ∧ BytesAt w (some ⟨g, 0, none⟩) zs ∧ zs.length ≤ cap ∧ cap ≤ 9223372036854775807 := by
  obtain ⟨g, cap, cs, rfl, hc, hm, hg, ht, hr⟩ := h
  refine ⟨g, cap, rfl, ⟨hr, fun _ => ⟨g, 0, rfl, fun i hi => ?_⟩⟩, by omega, hm⟩
  have := lent_cell hg ht i (by rw [List.length_append]; omega)
  rw [front_at _ _ _ hi] at this
  rw [Nat.zero_add]; exact this
theorem own_off {w w' : World} {B g n : Nat} {e : TypeId} {v : Value} {xs : List Value} (h : w.ownsRow B e 1 v n xs) (hg : w.grownBy w' (some g)) (hlt : g < B) : w'.ownsRow B e 1 v n xs := h.kept hg (by
  cases hb : v.ownBlock with
  | none => exact .inl rfl
  | some b => exact .inr (fun e => by have := (h.lt b hb).1; have := Option.some.inj e; omega))
set_option maxRecDepth 100000 in
set_option maxHeartbeats 8000000 in
theorem gets_any (σ : Sen) (w : World) (hG : GlAt σ w) (B : Option Addr) (bs : List Int) (cb : Nat) (hz : BytesAt w B bs) (hl : bs.length ≤ 140737488351232) (hB : B = none → cb = 0) (hcb : bs.length ≤ cb ∧ cb ≤ 9223372036854775807)
    (A : Option Addr) (ps : List PartV) (c : Nat) (hp : PVAt w A ps) (hpl : ps.length ≤ 140737488351232) :
    Calls Tryz.prog 5 #[.slice B bs.length cb, .slice A ps.length c] w fun e w' => e = .returned (.bool true) ∧ Below w.heap.size w w' := by
  go_enter Tryz.func5, Tryz.ntmps5
  go_wp2_with fail
  refine (lentBytes_any bs B cb w hz hl hB).mono ?_
  rintro e w1 ⟨v, rfl, hv, hb1⟩
  obtain ⟨gl, cl, rfl, hzl, hcl, hclm⟩ := hv.reads
  have HV := Lib.hid (And.intro hv hb1)
  clear hv hb1
  go_wp2_with fail
  refine (read_any σ w1 bs (some ⟨gl, 0, none⟩) cl hzl hl (fun e => by cases e)).mono ?_
  rintro e w2 ⟨gr, rfl, hgr, hR2, hb2⟩
  have hbn := below_new w2 (.cells #[.slice B bs.length cb, .int .i64 0, .int .i64 0, .int .i64 0] 61)
  have hI : GInv σ w1 (w2.alloc (.cells #[.slice B bs.length cb, .int .i64 0, .int .i64 0, .int .i64 0] 61)) gr w2.heap.size bs (.ok 0) (.ok 0) := by
    refine ⟨hR2.below hbn, ⟨B, cb, 0, 0, 0, BlockIs.made _ _ _, (hz.below (HV.out.2.trans (hb2.mono HV.out.2.size))).below hbn, hcb, fun hne a ha => ?_, hb2.size, hB, rfl, rfl, rfl, Nat.zero_le _⟩, ⟨hG.below HV.out.2, hb2.trans (hbn.mono hb2.size), hgr⟩, ?_⟩
    · obtain ⟨b, off, e, hc⟩ := hz.2 hne
      have h0 := World.block_lt_of_cell? _ _ (hc 0 (List.length_pos_iff.2 hne))
      rw [ha] at e
      obtain rfl := Option.some.inj e
      have := HV.out.2.size
      simp only at h0 ⊢; omega
    · obtain ⟨x, cap, k, ev, h⟩ := hR2; exact h.blk.lt
  have HI := Lib.hid hI
  clear hI hR2 hb2 hbn hzl
  go_wp2_with fail
  generalize w2.alloc _ = w3 at *
  generalize w2.heap.size = gs at *
  go_loopg [8] ps.length (fun gk i wx => ∃ (k : Nat) (s : RSt), gk = ps.length - k ∧ k ≤ ps.length ∧ i = .int .i64 (k : Int) ∧ Hid (GInv σ w1 wx gr gs bs s s))
  case atStart => exact ⟨0, _, rfl, Nat.zero_le _, rfl, HI⟩
  case round =>
    clear HI
    obtain ⟨k, s, hgk, hk, rfl, hI⟩ := hrel
    have Hgk := Lib.hid hgk; clear hgk
    by_cases hlt : k < ps.length
    · have hpk : ps[k]? = some ps[k] := List.getElem?_eq_getElem hlt
      generalize ps[k] = p at hpk
      obtain ⟨bb, off, rfl, hc⟩ := hp.2 (by intro e; simp [e] at hlt)
      have Hcs := Lib.hid (load_part hc k p hpk)
      have Hok := Lib.hid (hp.1 p (List.mem_of_getElem? hpk))
      have hbw : Below w.heap.size w wr := HV.out.2.trans (hI.out.env.bl.mono HV.out.2.size)
      have c0 := cell_below Hcs.out.1 hbw
      have c1 := cell_below Hcs.out.2.1 hbw
      have c8 := cell_below Hcs.out.2.2.2.2.2.2.2.2 hbw
      have Hbw := Lib.hid hbw
      clear hpk hc hbw
      go_wp2_with fail
      refine (pick_any p.kind 4 _ (by decide) (by decide)).mono ?_
      rintro e w' ⟨rfl, rfl⟩
      go_upto_block 2 with fail
      go_cut [9, 10, 31] (fun v9 _ _ wx => v9 = .bool true ∧ Hid (∃ s', GInv σ w1 wx gr gs bs s' s'))
      case first =>
        rcases mod4 p.kind with hk0 | hk0 | hk0 | hk0
        · rw [hk0]
          clear hk0
          have hF1 := fun W (h : GInv σ w1 W gr gs bs s s) => rfield_any σ w1 W gr bs s p.width h.rd h.env.f hl
          have hF2 := fun W s1 (h : GInv σ w1 W gr gs bs s1 s) => rrField_any (lo := w1.heap.size) W gs bs s p.width h.rr hl Hok.out.bd.2.1.1
          generalize fieldR bs p.width s = r at *
          have q1 : (r.1 == r.1) = true := by simp
          have HF1 := Lib.hid hF1
          have HF2 := Lib.hid hF2
          clear hF1 hF2
          go_wp2_with fail
          go_region_held3 (fun w' => w'.cell? ⟨bb, off + k * 9 + 1, none⟩ = some (.int .i64 p.width)) (first | exact c1 | exact k1) (first
            | (go_at_call 30; (with_reducible refine (HF1.out _ ?_).mono ?_); (first | exact hI.out | exact hI.out.drew); rintro e w5 ⟨rfl, hg⟩; have HI5 := Lib.hid (show GInv σ w1 w5 gr gs bs r.2 s from (by first | exact hI.out.code hg | exact hI.out.drew.code hg)); have k1 := cell_below Hcs.out.2.1 (HV.out.2.trans (HI5.out.env.bl.mono HV.out.2.size)); clear hg)
            | (go_at_call 31; (first | refine (HF2.out w5.drew _ HI5.out.drew).mono ?_ | refine (HF2.out w5 _ HI5.out).mono ?_); rintro e w6 ⟨rfl, hg⟩; have HI6 := Lib.hid (show GInv σ w1 w6 gr gs bs r.2 r.2 from (by first | exact HI5.out.page hg | exact HI5.out.drew.page hg)); clear k1; have k1 := cell_below Hcs.out.2.1 (HV.out.2.trans (HI6.out.env.bl.mono HV.out.2.size)); clear hg))
          all_goals (go_wp2_with fail)
          all_goals go_meet
          all_goals exact ⟨by first | rfl | simp, Lib.hid ⟨_, HI6.out⟩⟩
        · rw [hk0]
          clear hk0 c1
          have hF1 := fun W (h : GInv σ w1 W gr gs bs s s) => rtext_any σ w1 W gr bs s p.most h.rd h.env hl
          have hF2 := fun W s1 (h : GInv σ w1 W gr gs bs s1 s) => rrText_any (lo := w1.heap.size) W gs bs s p.most h.rr hl
          have hmem := textR_mem bs hz.1 p.most s
          have hle := textR_le bs p.most s
          generalize textR bs p.most s = r at *
          have HF1 := Lib.hid hF1
          have HF2 := Lib.hid hF2
          have Hmem := Lib.hid hmem
          have hgsl := hI.out.lt
          clear hF1 hF2 hmem
          go_wp2_with fail
          refine (HF1.out _ hI.out).mono ?_
          rintro e w5 ⟨v5, rfl, ho5, hg5⟩
          have HI5 := Lib.hid (hI.out.code hg5)
          have hsz5 := hg5.fr.size
          obtain ⟨X5, c5, rfl, _, hm5⟩ := own_slice ho5
          have HO5 := Lib.hid ho5
          have k8 := cell_below Hcs.out.2.2.2.2.2.2.2.2 (HV.out.2.trans (HI5.out.env.bl.mono HV.out.2.size))
          clear ho5 hg5 c0 c8
          go_wp2_with fail
          refine (HF2.out _ _ HI5.out).mono ?_
          rintro e w6 ⟨v6, rfl, ho6, hg6⟩
          have HI6 := Lib.hid (HI5.out.page hg6)
          have HO56 := Lib.hid (HO5.out.kept hg6.fr (by
            cases hb : (Value.slice X5 r.1.length c5).ownBlock with
            | none => exact .inl rfl
            | some b => exact .inr (fun e => by have := (HO5.out.lt b hb).1; have := Option.some.inj e; omega)))
          obtain ⟨X6, c6, rfl, _, hm6⟩ := own_slice ho6
          have HSB := sameBytes_any r.1 r.1 X5 X6 c5 c6 w6 (own_reads HO56.out Hmem.out) (own_reads ho6 Hmem.out) (by omega)
          rw [show sameB r.1 r.1 = true by simp [sameB]] at HSB
          have HSB := Lib.hid HSB
          clear ho6 hg6 k8
          go_wp2_with fail
          refine HSB.out.mono ?_
          rintro e w7 ⟨rfl, n7, hw7⟩
          have HI7 := Lib.hid (show GInv σ w1 w7 gr gs bs r.2 r.2 from hw7 ▸ HI6.out.drewN n7)
          have HO7 := Lib.hid (show w7.ownsRow wr.heap.size 5 1 (.slice X5 r.1.length c5) r.1.length (u8s r.1) from hw7 ▸ HO56.out)
          have HOv := Lib.hid (overBytes_any w7 wr.heap.size r.1.length _ _ HO7.out (by omega))
          clear hw7
          go_wp2_with fail
          refine HOv.out.mono ?_
          rintro e w8 ⟨rfl, hg8⟩
          have HI8 := Lib.hid (HI7.out.over hg8 (fun b e => by have := (HO7.out.lt b e).1; omega))
          clear hg8
          go_wp2_with fail
          go_meet
          exact ⟨rfl, Lib.hid ⟨_, HI8.out⟩⟩
        · rw [hk0]
          clear hk0 c1
          have hF1 := fun W (h : GInv σ w1 W gr gs bs s s) => rrow_any σ w1 W gr bs s p.most h.rd h.env hl
          have hF2 := fun W s1 (h : GInv σ w1 W gr gs bs s1 s) => rrRow_any (lo := w1.heap.size) W gs bs s p.most h.rr hl
          have hmem := rowR_bd bs hz.1 p.most s
          have hle := rowR_len bs hz.1 p.most s
          generalize rowR bs p.most s = r at *
          have hmem2 : ∀ z ∈ r.1, -9223372036854775808 ≤ z ∧ z ≤ 9223372036854775807 := fun z hz => by have := hmem z hz; omega
          have HF1 := Lib.hid hF1
          have HF2 := Lib.hid hF2
          have Hmem := Lib.hid hmem2
          have hgsl := hI.out.lt
          have hSI := fun X5 X6 c5 c6 W ha hb => sameInts_any r.1 r.1 X5 X6 c5 c6 W ha hb (by omega)
          rw [show sameB r.1 r.1 = true by simp [sameB]] at hSI
          have HSI := Lib.hid hSI
          clear hF1 hF2 hmem hmem2 c0 hSI
          go_wp2_with fail
          go_region_held3 (fun w' => w'.cell? ⟨bb, off + k * 9 + 8, none⟩ = some (.int .i64 p.most)) (first | exact c8 | exact k1) (first
            | (go_at_call 36; (with_reducible refine (HF1.out _ ?_).mono ?_); (first | exact hI.out | exact hI.out.drew); rintro e w5 ⟨v5, rfl, ho5, hg⟩; have HI5 := Lib.hid (show GInv σ w1 w5 gr gs bs r.2 s from (by first | exact hI.out.code hg | exact hI.out.drew.code hg)); have hsz5 : wr.heap.size ≤ w5.heap.size := hg.fr.size; obtain ⟨X5, c5, hv5, _, hm5⟩ := own_slice ho5; subst hv5; have HO5 := Lib.hid (show w5.ownsRow wr.heap.size 3 1 (.slice X5 r.1.length c5) r.1.length (i64s r.1) from ho5); have k1 := cell_below Hcs.out.2.2.2.2.2.2.2.2 (HV.out.2.trans (HI5.out.env.bl.mono HV.out.2.size)); clear hg ho5)
            | (go_at_call 37; (first | refine (HF2.out w5.drew _ HI5.out.drew).mono ?_ | refine (HF2.out w5 _ HI5.out).mono ?_); rintro e w6 ⟨v6, rfl, ho6, hg⟩; have HI6 := Lib.hid (show GInv σ w1 w6 gr gs bs r.2 r.2 from (by first | exact HI5.out.page hg | exact HI5.out.drew.page hg)); have HO56 := Lib.hid (show w6.ownsRow wr.heap.size 3 1 (.slice X5 r.1.length c5) r.1.length (i64s r.1) from (by first | exact own_off HO5.out hg.fr hgsl | exact own_off (ownsRow_drew HO5.out) hg.fr hgsl)); obtain ⟨X6, c6, hv6, _, hm6⟩ := own_slice ho6; subst hv6; have HZ6 := Lib.hid (own_ints ho6 Hmem.out); have HZ5 := Lib.hid (own_ints HO56.out Hmem.out); clear k1; have k1 := cell_below Hcs.out.2.2.2.2.2.2.2.2 (HV.out.2.trans (HI6.out.env.bl.mono HV.out.2.size)); clear hg ho6)
            | (go_at_call 35; (with_reducible refine (HSI.out _ _ _ _ _ ?_ ?_).mono ?_); exact HZ5.out; exact HZ6.out; rintro e w7 ⟨rfl, n7, hw7⟩; have HI7 := Lib.hid (show GInv σ w1 w7 gr gs bs r.2 r.2 from (by subst hw7; first | exact HI6.out.drewN n7 | exact HI6.out.drew.drewN n7)); clear k1; have k1 := cell_below Hcs.out.2.2.2.2.2.2.2.2 (HV.out.2.trans (HI7.out.env.bl.mono HV.out.2.size)); clear hw7))
          all_goals (go_wp2_with fail)
          all_goals go_meet
          all_goals exact ⟨by first | rfl | simp, Lib.hid ⟨_, HI7.out⟩⟩
        · rw [hk0]
          clear hk0 c1 c8 c0
          have hF1 := fun W (h : GInv σ w1 W gr gs bs s s) => rentry_any σ w1 W gr bs s h.rd h.env hl
          have hF2 := fun W s1 (h : GInv σ w1 W gr gs bs s1 s) => rrEntry_any (lo := w1.heap.size) W gs bs s h.rr hl
          have hmem := entryR_mem bs hz.1 s
          have hEb := (entryR_bd bs s).2.2.2.2.2.2
          generalize entryR bs s = r at *
          have HF1 := Lib.hid hF1
          have HF2 := Lib.hid hF2
          have Hmem := Lib.hid hmem
          have hgsl := hI.out.lt
          clear hF1 hF2 hmem
          go_wp2_with fail
          refine (HF1.out _ hI.out).mono ?_
          rintro e w5 ⟨v5, rfl, ho5, hg5⟩
          have HI5 := Lib.hid (hI.out.code hg5)
          have hsz5 := hg5.fr.size
          obtain ⟨X5, c5, rfl, _, hm5⟩ := own_slice ho5
          have HO5 := Lib.hid ho5
          clear ho5 hg5
          go_wp2_with fail
          refine (HF2.out _ _ HI5.out).mono ?_
          rintro e w6 ⟨v6, rfl, ho6, hg6⟩
          have HI6 := Lib.hid (HI5.out.page hg6)
          have HO56 := Lib.hid (own_off HO5.out hg6.fr hgsl)
          obtain ⟨X6, c6, rfl, _, hm6⟩ := own_slice ho6
          have hSE := sameEntry_any r.1 r.1 X5 X6 c5 c6 w6 (own_reads HO56.out Hmem.out) (own_reads ho6 Hmem.out) (by omega)
          rw [sameE_same] at hSE
          unfold entV at hSE
          have HSE := Lib.hid hSE
          clear ho6 hg6 hSE
          go_wp2_with fail
          refine HSE.out.mono ?_
          rintro e w7 ⟨rfl, hb7⟩
          have HI7 := Lib.hid (HI6.out.below hb7)
          clear hb7
          go_wp2_with fail
          go_meet
          exact ⟨rfl, Lib.hid ⟨_, HI7.out⟩⟩
      case rest =>
        obtain ⟨rfl, hI2⟩ := hcut
        obtain ⟨s', hI3⟩ := hI2.out
        have HI3 := Lib.hid hI3
        have hEr := rerr_any σ w1 wc gr bs s' hI3.rd hI3.env
        have hL1 := fun w h => rleft_any σ w gr bs s' h
        have hL2 := fun w h => rleft_ref (lo := w1.heap.size) w gs bs s' h hl
        obtain ⟨lf, hlf⟩ : ∃ lf, leftR bs s' = lf := ⟨_, rfl⟩
        obtain ⟨ep, hep⟩ : ∃ ep, errPos s' = ep := ⟨_, rfl⟩
        obtain ⟨en, hen⟩ : ∃ en, errNo s' = en := ⟨_, rfl⟩
        have q1 : (lf != lf) = false := by simp
        have q2 : (ep != ep) = false := by simp
        have q3 : (en != en) = false := by simp
        rw [hlf] at hL1 hL2
        rw [hep, hen] at hEr
        have HEr := Lib.hid hEr
        have HL1 := Lib.hid hL1
        have HL2 := Lib.hid hL2
        have HH := Lib.hid (And.intro hep hen)
        clear hEr hL1 hL2 hlf hep hen hI3 hI2 c0 c1 c8
        go_wp2_with fail
        refine HEr.out.mono ?_
        rintro e w5 ⟨rfl, hb5⟩
        have HI5 := Lib.hid (HI3.out.below hb5)
        clear hb5 HEr
        go_wp2_with fail
        refine (HL1.out _ HI5.out.rd).mono ?_
        rintro e w6 ⟨rfl, n6, hw6⟩
        have HI6 := Lib.hid (show GInv σ w1 w6 gr gs bs s' s' from hw6 ▸ HI5.out.drewN n6)
        clear hw6
        go_wp2_with fail
        refine (HL2.out _ HI6.out.rr).mono ?_
        rintro e w7 ⟨rfl, n7, hw7⟩
        have HI7 := Lib.hid (show GInv σ w1 w7 gr gs bs s' s' from hw7 ▸ HI6.out.drewN n7)
        clear hw7
        obtain ⟨x7, cap7, k7, e7, b7, hS⟩ := HI7.out.rr
        obtain ⟨he7, hb7⟩ := errs_agree hS.st
        obtain ⟨d0, d1, d2, d3⟩ := hS.cells
        rw [he7, HH.out.2] at d2
        rw [hb7, HH.out.1] at d3
        clear hS he7 hb7
        go_wp2_with fail
        go_roundg (ps.length - (k + 1))
        case measure => rw [Hgk.out]; omega
        case rel => exact ⟨k + 1, s', rfl, by omega, by go_num, HI7⟩
    · obtain rfl : k = ps.length := by omega
      have hbw := hI.out.env.bl
      have HK := Lib.hid (keptBytes_any bs _ B cb wr (HV.out.1.on hbw) (hz.below (HV.out.2.trans (hbw.mono HV.out.2.size))) hl)
      have HB := Lib.hid (HV.out.2.trans (hbw.mono HV.out.2.size))
      clear hbw hlt
      go_wp2_with fail
      refine HK.out.mono ?_
      rintro e w4 ⟨rfl, n4, hw4⟩
      have HB4 := Lib.hid (show Below w.heap.size w w4 from hw4 ▸ drewN_below HB.out n4)
      clear hw4
      go_wp2_with fail
      go_ret
      exact ⟨rfl, HB4.out⟩
end Go.Proofs.YtifoiiaddcgngaaGreatDoor
