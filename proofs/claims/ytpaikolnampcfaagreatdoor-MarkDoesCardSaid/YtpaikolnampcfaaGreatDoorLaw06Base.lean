/- Which copies have none: damaged, Damaged. -/
import Derived.Test.YtpaikolnampcfaaGreatDoorMarkOpen
import Derived.Test.YtpaikolnampcfaaGreatDoorKitInts
import Derived.Test.YtpaikolnampcfaaGreatDoorMarkAwake
namespace Go.Proofs.YtpaikolnampcfaaGreatDoor
set_option maxRecDepth 100000
set_option maxHeartbeats 16000000
open Go.RowKit
structure OutB (w w1 : World) (v : Value) (n : Nat) (xs : List Int) : Prop where
 own : w1.ownsRow w.heap.size 3 1 v n (i64s xs)
 bl : Below w.heap.size w w1
section
variable {w w1 w2 : World} {v : Value} {n : Nat} {xs : List Int}
theorem OutB.nil (w : World) : OutB w w (.slice none 0 0) 0 [] := ⟨World.ownsRow_nil _ _ _ _, Below.refl _ _⟩
theorem OutB.below (k : OutB w w1 v n xs) (hb : Below w1.heap.size w1 w2) : OutB w w2 v n xs := ⟨own_keep k.own (fun b e => hb.block b (own_lt k.own e)), k.bl.trans (hb.mono k.bl.size)⟩
theorem OutB.put {v' : Value} {z : Int} (k : OutB w w1 v n xs) (ho : w2.ownsRow w.heap.size 3 1 v' (n + 1) (i64s xs ++ [.int .i64 z])) (hg : w1.grownBy w2 v.ownBlock) : OutB w w2 v' (n + 1) (xs ++ [z]) :=
 ⟨own_same ho rfl (by unfold i64s; rw [List.map_append]; rfl), k.bl.grown hg k.bl.size (fun b e => (k.own.lt b e).1)⟩
theorem OutB.row {ys : List Int} (k : OutB w w1 v n xs) (hy : xs = ys) : w1.ownsRow w.heap.size 3 1 v ys.length (i64s ys) := by
 subst hy
 refine own_same k.own ?_ rfl
 have := k.own.1
 unfold i64s at this
 rw [List.length_map] at this
 omega
end
section
variable {δ : SenD} {w0 w : World} {T : Nat → Prop} {h : Nat} {D : DM}
structure DamB (w w1 : World) (v : Value) (n : Nat) (xs : List Int) (g cap : Nat) (tw : List Value) : Prop where
 out : OutB w w1 v n xs
 row : w1.ownsRow w.heap.size 158 8 (.slice (some ⟨g, 0, none⟩) 2 cap) 2 tw
theorem DamB.below {w w1 w2 : World} {v : Value} {n : Nat} {xs : List Int} {g cap : Nat} {tw : List Value} (k : DamB w w1 v n xs g cap tw) (hb : Below w1.heap.size w1 w2) : DamB w w2 v n xs g cap tw := ⟨k.out.below hb, own_keep k.row (fun b e => hb.block b (own_lt k.row e))⟩
theorem DamB.cells {w w1 : World} {v : Value} {n : Nat} {xs : List Int} {g cap : Nat} {tw : List Value} (k : DamB w w1 v n xs g cap tw) : ∀ i u, tw[i]? = some u → w1.cell? ⟨g, i, none⟩ = some u := fun i u e => by
 have h := k.row.cells (g := g) rfl i u e
 have hadd : (⟨g, 0, none⟩ : Addr).add i = ⟨g, i, none⟩ := by unfold Addr.add; split <;> simp_all
 rwa [hadd] at h
theorem DamB.put {w w1 w2 : World} {v v' : Value} {n : Nat} {xs : List Int} {g cap : Nat} {tw : List Value} {z : Int} (k : DamB w w1 v n xs g cap tw) (ho : w2.ownsRow w.heap.size 3 1 v' (n + 1) (i64s xs ++ [.int .i64 z])) (hg : w1.grownBy w2 v.ownBlock) : DamB w w2 v' (n + 1) (xs ++ [z]) g cap tw :=
 ⟨k.out.put ho hg, own_keep k.row (fun b e => hg.block b (own_lt k.row e) (fun e2 => by
  obtain rfl : g = b := by simpa [Value.ownBlock] using e
  rcases k.row.2 with ⟨h1, _⟩ | ⟨g1, c1, cur1, h1, _, h2, _⟩
  · cases h1
  · obtain ⟨rfl, rfl⟩ : g = g1 ∧ cap = c1 := by simpa using h1
    rcases k.out.own.2 with ⟨h3, _⟩ | ⟨g3, c3, cur3, h3, _, h4, _⟩
    · rw [h3] at e2; simp [Value.ownBlock] at e2
    · rw [h3] at e2
      obtain rfl : g = g3 := by simpa [Value.ownBlock] using e2
      rw [h2] at h4
      simp at h4))⟩
theorem cell_one_new1 (W : World) (o : Obj) (x : Value) (t : TypeId) : ∀ j u, [x][j]? = some u → ((W.alloc o).alloc (.cells #[x] t)).cell? ((⟨W.heap.size + 1, 0, none⟩ : Addr).add j) = some u := by
 have h := cell_one_new (W.alloc o) x t
 rwa [World.size_alloc] at h
theorem bad_none (h : seenK D 2 ≠ 0 ∨ seenK D 3 ≠ 0) : badK D = [] := by unfold badK; rw [if_pos h]
theorem bad_some (h2 : seenK D 2 = 0) (h3 : seenK D 3 = 0) : badK D = ((if (markB 2 (D.read 2).1).2 ≠ 0 then [2] else []) ++ (if (markB 2 (D.read 3).1).2 ≠ 0 then [3] else [])) ++ ((if (markB 3 (D.read 4).1).2 ≠ 0 then [4] else []) ++ (if (markB 3 (D.read 5).1).2 ≠ 0 then [5] else [])) := by
 unfold badK
 rw [if_neg (by rintro (hn | hn); exact hn h2; exact hn h3)]
 rfl
theorem look_sort {k : Int} (hk : sortK k) : lookE D k = seenK D k := by unfold lookE; rw [if_pos hk]
theorem kdamaged_any (σ : Sen) (τ : SenU) (κ : SenK) (hC : GlAt σ w0) (hU : GlU τ w0) (hD : GlD δ w0) (hM : GlK κ w0) (k : OwnT w0 w T h D) (g : Nat) (hB : BlockIs w g 27 #[.int .i64 2, .int .i64 3]) :
 Calls Tryz.prog 63 #[.pointer (some ⟨h, 0, none⟩), .slice (some ⟨g, 0, none⟩) 2 2] w fun e w' => ∃ v, e = .returned v ∧ w'.ownsRow w.heap.size 3 1 v (badK D).length (i64s (badK D)) ∧ Below w.heap.size w w' := by
 obtain ⟨i0, hi, hz0, hz1, hz2⟩ := info_parts infoInt
 have HT := qh (And.intro hi (And.intro hz0 (And.intro hz1 hz2)))
 have HL := qh (fun W (h1 : Below w.heap.size w W) kk hwf => klook_any σ τ κ hC hU hD hM (k.on h1) kk hwf)
 have HB := qh hB
 have w2k : wfK 2 := by unfold wfK; decide
 have w3k : wfK 3 := by unfold wfK; decide
 have HL2 := qh (HL.out w (Below.refl _ _) 2 w2k)
 have HL3 := qh (fun W h1 => HL.out W h1 3 w3k)
 have Hl2 := qh (look_sort (D := D) (k := 2) (.inl rfl))
 have Hl3 := qh (look_sort (D := D) (k := 3) (.inr rfl))
 unfold LookAt at HL2 HL3
 rw [Hl2.out] at HL2
 rw [Hl3.out] at HL3
 have c0 : w.cell? ⟨g, 0, none⟩ = some (.int .i64 2) := hB.cell 0
 obtain ⟨r0, hr0⟩ : ∃ r, (D.read 2).1 = r := ⟨_, rfl⟩
 obtain ⟨r1, hr1⟩ : ∃ r, (D.read 3).1 = r := ⟨_, rfl⟩
 obtain ⟨r2, hr2⟩ : ∃ r, (D.read 4).1 = r := ⟨_, rfl⟩
 obtain ⟨r3, hr3⟩ : ∃ r, (D.read 5).1 = r := ⟨_, rfl⟩
 have HL2' : Calls Tryz.prog 105 #[.pointer (some ⟨h, 0, none⟩), .int .i64 2] w fun e w' => ∃ v lv, e = .returned (.tuple #[v, lv]) ∧ ((seenK D 2 ≠ 0 ∧ v = .slice none 0 0 ∧ KErr κ (seenK D 2) lv) ∨ (seenK D 2 = 0 ∧ lv = .nilIface ∧ sortK 2 ∧ Twins κ w w' 2 2 (D.read 2).1 (D.read 3).1 v)) ∧ Below w.heap.size w w' := HL2.out
 have HL3' : ∀ W, Below w.heap.size w W → Calls Tryz.prog 105 #[.pointer (some ⟨h, 0, none⟩), .int .i64 3] W fun e w' => ∃ v lv, e = .returned (.tuple #[v, lv]) ∧ ((seenK D 3 ≠ 0 ∧ v = .slice none 0 0 ∧ KErr κ (seenK D 3) lv) ∨ (seenK D 3 = 0 ∧ lv = .nilIface ∧ sortK 3 ∧ Twins κ W w' 3 4 (D.read 4).1 (D.read 5).1 v)) ∧ Below W.heap.size W w' := fun W h1 => HL3.out W h1
 have Hbn := qh (bad_none (D := D))
 have Hbs := qh (bad_some (D := D))
 rw [hr0, hr1] at HL2'
 rw [hr2, hr3] at HL3'
 rw [hr0, hr1, hr2, hr3] at Hbs
 obtain ⟨s2, hs2⟩ : ∃ s, seenK D 2 = s := ⟨_, rfl⟩
 obtain ⟨s3, hs3⟩ : ∃ s, seenK D 3 = s := ⟨_, rfl⟩
 rw [hs2] at HL2'
 rw [hs3] at HL3'
 rw [hs2, hs3] at Hbn Hbs
 obtain ⟨bd, hbd⟩ : ∃ b, badK D = b := ⟨_, rfl⟩
 rw [hbd] at Hbn Hbs ⊢
 have HA := qh HL2'
 have HC := qh HL3'
 clear hC hU hD hM k hB hr0 hr1 hr2 hr3 hs2 hs3 hbd w2k w3k HL HL2 HL3 Hl2 Hl3 HL2' HL3' hi hz0 hz1 hz2
 obtain ⟨q0, hq0⟩ : ∃ q, markB 2 r0 = q := ⟨_, rfl⟩
 obtain ⟨q1, hq1⟩ : ∃ q, markB 2 r1 = q := ⟨_, rfl⟩
 obtain ⟨q2, hq2⟩ : ∃ q, markB 3 r2 = q := ⟨_, rfl⟩
 obtain ⟨q3, hq3⟩ : ∃ q, markB 3 r3 = q := ⟨_, rfl⟩
 have Hq0 := qh hq0
 have Hq1 := qh hq1
 have Hq2 := qh hq2
 have Hq3 := qh hq3
 rw [hq0, hq1, hq2, hq3] at Hbs
 obtain ⟨⟨av, ai, at_, ak, ao⟩, e0⟩ := q0
 obtain ⟨⟨bv, bi, bt, bk, bo⟩, e1⟩ := q1
 obtain ⟨⟨cv, ci, ct, ck, co⟩, e2⟩ := q2
 obtain ⟨⟨dv, di, dt, dk, do_⟩, e3⟩ := q3
 simp only at Hbs
 clear hq0 hq1 hq2 hq3
 by_cases hs2 : s2 = 0
 rotate_left
 · have Hs2 := qh hs2
   have Hb0 : Hid (bd = []) := qh (Hbn.out (.inl hs2))
   rw [Hb0.out]
   clear hs2
   go_enter Tryz.func63, Tryz.ntmps63
   go_wp2_with fail
   refine wp_loop_rounds 3 ?_
   rw [rounds_succ]
   go_wp2_with fail
   refine HA.out.mono ?_
   rintro e w1 ⟨v, lv, rfl, hS, hb1⟩
   obtain ⟨_, rfl, hv⟩ : s2 ≠ 0 ∧ v = .slice none 0 0 ∧ KErr κ s2 lv := by
    rcases hS with hS | ⟨hn, _⟩
    · exact hS
    · exact absurd hn Hs2.out
   obtain ⟨tv, xv, rfl⟩ := hv.some Hs2.out
   have B1 := qh hb1
   clear hS hv hb1 HA c0
   go_wp2_with fail
   go_ret
   exact ⟨_, rfl, World.ownsRow_nil _ _ _ _, B1.out⟩
 · have Hs2 := qh hs2
   clear hs2
   by_cases hs3 : s3 = 0
   rotate_left
   · have Hs3 := qh hs3
     have Hb0 : Hid (bd = []) := qh (Hbn.out (.inr hs3))
     rw [Hb0.out]
     clear hs3
     go_enter Tryz.func63, Tryz.ntmps63
     go_wp2_with fail
     refine wp_loop_rounds 3 ?_
     rw [rounds_succ]
     go_wp2_with fail
     refine HA.out.mono ?_
     rintro e w1 ⟨v, lv, rfl, hS, hb1⟩
     obtain ⟨_, rfl, _, A0, A1, l0, l1, hTw, h0, h1⟩ : s2 = 0 ∧ lv = .nilIface ∧ sortK 2 ∧ Twins κ _ w1 2 2 r0 r1 v := by
      rcases hS with ⟨hn, _⟩ | hS
      · exact absurd Hs2.out hn
      · exact hS
     obtain ⟨g2, cap2, rfl, hg2⟩ := own_form8 hTw.own (by decide)
     rw [Hq0.out, Hq1.out] at hTw
     rw [Hq0.out] at h0
     rw [Hq1.out] at h1
     simp only at hTw h0 h1
     have hr := twins_cells hTw
     have HR2 := qh hr
     have H0 := qh h0
     have H1 := qh h1
     have D1 : Hid (DamB w w1 (.slice none 0 0) 0 [] g2 cap2 _) := qh ⟨(OutB.nil w).below hb1, hTw.own⟩
     clear hS hb1 hTw hr h0 h1 HR2 HA c0
     go_wp2_with fail
     refine wp_loop_rounds 3 ?_
     rw [rounds_succ]
     by_cases he0 : e0 = 0
     · subst he0
       obtain rfl := H0.out.zero
       have y0 := D1.out.cells 0 _ rfl
       have y1 := D1.out.cells 1 _ rfl
       have y2 := D1.out.cells 2 _ rfl
       have y3 := D1.out.cells 3 _ rfl
       have y4 := D1.out.cells 4 _ rfl
       have y5 := D1.out.cells 5 _ rfl
       have y6 := D1.out.cells 6 _ rfl
       have y7 := D1.out.cells 7 _ rfl
       have O1 := qh (D1.out.below (below_new w1 (.cells #[.int .i64 2, .slice A0 r0.length r0.length, .int .i64 av, .int .i64 ai, .int .i64 at_, .int .i64 ak, .int .i64 ao, .nilIface] 158)))
       go_wp2_with fail
       clear y0 y1 y2 y3 y4 y5 y6 y7
       rw [rounds_succ]
       generalize w1.alloc (.cells #[.int .i64 2, .slice A0 r0.length r0.length, .int .i64 av, .int .i64 ai, .int .i64 at_, .int .i64 ak, .int .i64 ao, .nilIface] 158) = W1 at *
       by_cases he1 : e1 = 0
       · subst he1
         obtain rfl := H1.out.zero
         have y0 := O1.out.cells 8 _ rfl
         have y1 := O1.out.cells 9 _ rfl
         have y2 := O1.out.cells 10 _ rfl
         have y3 := O1.out.cells 11 _ rfl
         have y4 := O1.out.cells 12 _ rfl
         have y5 := O1.out.cells 13 _ rfl
         have y6 := O1.out.cells 14 _ rfl
         have y7 := O1.out.cells 15 _ rfl
         have O2 := qh (O1.out.below (below_new W1 (.cells #[.int .i64 3, .slice A1 r1.length r1.length, .int .i64 bv, .int .i64 bi, .int .i64 bt, .int .i64 bk, .int .i64 bo, .nilIface] 158)))
         go_wp2_with fail
         clear y0 y1 y2 y3 y4 y5 y6 y7
         rw [rounds_succ]
         generalize W1.alloc (.cells #[.int .i64 3, .slice A1 r1.length r1.length, .int .i64 bv, .int .i64 bi, .int .i64 bt, .int .i64 bk, .int .i64 bo, .nilIface] 158) = W2 at *
         go_wp2_with fail
         rw [rounds_succ]
         have Ob := qh O2.out.out
         have c1 : W2.cell? ⟨g, 1, none⟩ = some (.int .i64 3) := cell_below (HB.out.cell 1) Ob.out.bl
         have HL3 := qh (HC.out W2 Ob.out.bl)
         go_wp2_with fail
         refine HL3.out.mono ?_
         rintro e w7 ⟨v, lv, rfl, hS, hb7⟩
         obtain ⟨_, rfl, hv⟩ : s3 ≠ 0 ∧ v = .slice none 0 0 ∧ KErr κ s3 lv := by
          rcases hS with hS | ⟨hn, _⟩
          · exact hS
          · exact absurd hn Hs3.out
         obtain ⟨tv, xv, rfl⟩ := hv.some Hs3.out
         have B7 := qh (Ob.out.bl.trans (hb7.mono Ob.out.bl.size))
         clear hS hv hb7 HL3 c1
         go_wp2_with fail
         go_ret
         exact ⟨_, rfl, World.ownsRow_nil _ _ _ _, B7.out⟩
       · have He1 := qh he1
         obtain ⟨t1, x1, rfl⟩ := H1.out.some he1
         clear he1
         have y0 := O1.out.cells 8 _ rfl
         have y1 := O1.out.cells 9 _ rfl
         have y2 := O1.out.cells 10 _ rfl
         have y3 := O1.out.cells 11 _ rfl
         have y4 := O1.out.cells 12 _ rfl
         have y5 := O1.out.cells 13 _ rfl
         have y6 := O1.out.cells 14 _ rfl
         have y7 := O1.out.cells 15 _ rfl
         have hK := (O1.out.below (below_new W1 (.cells #[.int .i64 3, .slice A1 r1.length r1.length, .int .i64 bv, .int .i64 bi, .int .i64 bt, .int .i64 bk, .int .i64 bo, .iface t1 x1] 158))).below (below_new _ (.cells #[.int .i64 3] 3))
         have HK := qh hK
         clear hK
         go_wp2_with (at_builtin; refine wpList_append_own _ rfl _ _ 56 rfl w.heap.size 3 i0 (.int .i64 0) 1 8 Tryz.underlying56 HT.out.1 HT.out.2.1 HT.out.2.2.1 HT.out.2.2.2 rfl (by decide) _ _ _ rfl HK.out.out.own ⟨W1.heap.size + 1, 0, none⟩ 1 1 [.int .i64 3] rfl rfl (cell_one_new1 W1 (.cells #[.int .i64 3, .slice A1 r1.length r1.length, .int .i64 bv, .int .i64 bi, .int .i64 bt, .int .i64 bk, .int .i64 bo, .iface t1 x1] 158) _ _) (by decide) (by decide) (by decide) HK.out.out.bl.size ?_)
         intro u2 W2 hown hgrow _
         have O2 : Hid (DamB w W2 u2 1 [3] g2 cap2 _) := qh (HK.out.put hown hgrow)
         clear hown hgrow HK y0 y1 y2 y3 y4 y5 y6 y7
         go_wp2_with fail
         rw [rounds_succ]
         go_wp2_with fail
         rw [rounds_succ]
         have Ob := qh O2.out.out
         have c1 : W2.cell? ⟨g, 1, none⟩ = some (.int .i64 3) := cell_below (HB.out.cell 1) Ob.out.bl
         have HL3 := qh (HC.out W2 Ob.out.bl)
         go_wp2_with fail
         refine HL3.out.mono ?_
         rintro e w7 ⟨v, lv, rfl, hS, hb7⟩
         obtain ⟨_, rfl, hv⟩ : s3 ≠ 0 ∧ v = .slice none 0 0 ∧ KErr κ s3 lv := by
          rcases hS with hS | ⟨hn, _⟩
          · exact hS
          · exact absurd hn Hs3.out
         obtain ⟨tv, xv, rfl⟩ := hv.some Hs3.out
         have B7 := qh (Ob.out.bl.trans (hb7.mono Ob.out.bl.size))
         clear hS hv hb7 HL3 c1
         go_wp2_with fail
         go_ret
         exact ⟨_, rfl, World.ownsRow_nil _ _ _ _, B7.out⟩
     · have He0 := qh he0
       obtain ⟨t0, x0, rfl⟩ := H0.out.some he0
       clear he0
       have y0 := D1.out.cells 0 _ rfl
       have y1 := D1.out.cells 1 _ rfl
       have y2 := D1.out.cells 2 _ rfl
       have y3 := D1.out.cells 3 _ rfl
       have y4 := D1.out.cells 4 _ rfl
       have y5 := D1.out.cells 5 _ rfl
       have y6 := D1.out.cells 6 _ rfl
       have y7 := D1.out.cells 7 _ rfl
       have hK := (D1.out.below (below_new w1 (.cells #[.int .i64 2, .slice A0 r0.length r0.length, .int .i64 av, .int .i64 ai, .int .i64 at_, .int .i64 ak, .int .i64 ao, .iface t0 x0] 158))).below (below_new _ (.cells #[.int .i64 2] 3))
       have HK := qh hK
       clear hK
       go_wp2_with (at_builtin; refine wpList_append_own _ rfl _ _ 56 rfl w.heap.size 3 i0 (.int .i64 0) 1 8 Tryz.underlying56 HT.out.1 HT.out.2.1 HT.out.2.2.1 HT.out.2.2.2 rfl (by decide) _ _ _ rfl HK.out.out.own ⟨w1.heap.size + 1, 0, none⟩ 1 1 [.int .i64 2] rfl rfl (cell_one_new1 w1 (.cells #[.int .i64 2, .slice A0 r0.length r0.length, .int .i64 av, .int .i64 ai, .int .i64 at_, .int .i64 ak, .int .i64 ao, .iface t0 x0] 158) _ _) (by decide) (by decide) (by decide) HK.out.out.bl.size ?_)
       intro u1 W1 hown hgrow _
       have O1 : Hid (DamB w W1 u1 1 [2] g2 cap2 _) := qh (HK.out.put hown hgrow)
       clear hown hgrow HK y0 y1 y2 y3 y4 y5 y6 y7
       go_wp2_with fail
       rw [rounds_succ]
       by_cases he1 : e1 = 0
       · subst he1
         obtain rfl := H1.out.zero
         have y0 := O1.out.cells 8 _ rfl
         have y1 := O1.out.cells 9 _ rfl
         have y2 := O1.out.cells 10 _ rfl
         have y3 := O1.out.cells 11 _ rfl
         have y4 := O1.out.cells 12 _ rfl
         have y5 := O1.out.cells 13 _ rfl
         have y6 := O1.out.cells 14 _ rfl
         have y7 := O1.out.cells 15 _ rfl
         have O3 := qh (O1.out.below (below_new W1 (.cells #[.int .i64 3, .slice A1 r1.length r1.length, .int .i64 bv, .int .i64 bi, .int .i64 bt, .int .i64 bk, .int .i64 bo, .nilIface] 158)))
         go_wp2_with fail
         clear y0 y1 y2 y3 y4 y5 y6 y7
         rw [rounds_succ]
         generalize W1.alloc (.cells #[.int .i64 3, .slice A1 r1.length r1.length, .int .i64 bv, .int .i64 bi, .int .i64 bt, .int .i64 bk, .int .i64 bo, .nilIface] 158) = W3 at *
         go_wp2_with fail
         rw [rounds_succ]
         have Ob := qh O3.out.out
         have c1 : W3.cell? ⟨g, 1, none⟩ = some (.int .i64 3) := cell_below (HB.out.cell 1) Ob.out.bl
         have HL3 := qh (HC.out W3 Ob.out.bl)
         go_wp2_with fail
         refine HL3.out.mono ?_
         rintro e w7 ⟨v, lv, rfl, hS, hb7⟩
         obtain ⟨_, rfl, hv⟩ : s3 ≠ 0 ∧ v = .slice none 0 0 ∧ KErr κ s3 lv := by
          rcases hS with hS | ⟨hn, _⟩
          · exact hS
          · exact absurd hn Hs3.out
         obtain ⟨tv, xv, rfl⟩ := hv.some Hs3.out
         have B7 := qh (Ob.out.bl.trans (hb7.mono Ob.out.bl.size))
         clear hS hv hb7 HL3 c1
         go_wp2_with fail
         go_ret
         exact ⟨_, rfl, World.ownsRow_nil _ _ _ _, B7.out⟩
       · have He1 := qh he1
         obtain ⟨t1, x1, rfl⟩ := H1.out.some he1
         clear he1
         have y0 := O1.out.cells 8 _ rfl
         have y1 := O1.out.cells 9 _ rfl
         have y2 := O1.out.cells 10 _ rfl
         have y3 := O1.out.cells 11 _ rfl
         have y4 := O1.out.cells 12 _ rfl
         have y5 := O1.out.cells 13 _ rfl
         have y6 := O1.out.cells 14 _ rfl
         have y7 := O1.out.cells 15 _ rfl
         have hK := (O1.out.below (below_new W1 (.cells #[.int .i64 3, .slice A1 r1.length r1.length, .int .i64 bv, .int .i64 bi, .int .i64 bt, .int .i64 bk, .int .i64 bo, .iface t1 x1] 158))).below (below_new _ (.cells #[.int .i64 3] 3))
         have HK := qh hK
         clear hK
         go_wp2_with (at_builtin; refine wpList_append_own _ rfl _ _ 56 rfl w.heap.size 3 i0 (.int .i64 0) 1 8 Tryz.underlying56 HT.out.1 HT.out.2.1 HT.out.2.2.1 HT.out.2.2.2 rfl (by decide) _ _ _ rfl HK.out.out.own ⟨W1.heap.size + 1, 0, none⟩ 1 1 [.int .i64 3] rfl rfl (cell_one_new1 W1 (.cells #[.int .i64 3, .slice A1 r1.length r1.length, .int .i64 bv, .int .i64 bi, .int .i64 bt, .int .i64 bk, .int .i64 bo, .iface t1 x1] 158) _ _) (by decide) (by decide) (by decide) HK.out.out.bl.size ?_)
         intro u3 W3 hown hgrow _
         have O3 : Hid (DamB w W3 u3 2 [2, 3] g2 cap2 _) := qh (HK.out.put hown hgrow)
         clear hown hgrow HK y0 y1 y2 y3 y4 y5 y6 y7
         go_wp2_with fail
         rw [rounds_succ]
         go_wp2_with fail
         rw [rounds_succ]
         have Ob := qh O3.out.out
         have c1 : W3.cell? ⟨g, 1, none⟩ = some (.int .i64 3) := cell_below (HB.out.cell 1) Ob.out.bl
         have HL3 := qh (HC.out W3 Ob.out.bl)
         go_wp2_with fail
         refine HL3.out.mono ?_
         rintro e w7 ⟨v, lv, rfl, hS, hb7⟩
         obtain ⟨_, rfl, hv⟩ : s3 ≠ 0 ∧ v = .slice none 0 0 ∧ KErr κ s3 lv := by
          rcases hS with hS | ⟨hn, _⟩
          · exact hS
          · exact absurd hn Hs3.out
         obtain ⟨tv, xv, rfl⟩ := hv.some Hs3.out
         have B7 := qh (Ob.out.bl.trans (hb7.mono Ob.out.bl.size))
         clear hS hv hb7 HL3 c1
         go_wp2_with fail
         go_ret
         exact ⟨_, rfl, World.ownsRow_nil _ _ _ _, B7.out⟩
   · have Hs3 := qh hs3
     clear hs3
     go_enter Tryz.func63, Tryz.ntmps63
     go_wp2_with fail
     refine wp_loop_rounds 3 ?_
     rw [rounds_succ]
     go_wp2_with fail
     refine HA.out.mono ?_
     rintro e w1 ⟨v, lv, rfl, hS, hb1⟩
     obtain ⟨_, rfl, _, A0, A1, l0, l1, hTw, h0, h1⟩ : s2 = 0 ∧ lv = .nilIface ∧ sortK 2 ∧ Twins κ _ w1 2 2 r0 r1 v := by
      rcases hS with ⟨hn, _⟩ | hS
      · exact absurd Hs2.out hn
      · exact hS
     obtain ⟨g2, cap2, rfl, hg2⟩ := own_form8 hTw.own (by decide)
     rw [Hq0.out, Hq1.out] at hTw
     rw [Hq0.out] at h0
     rw [Hq1.out] at h1
     simp only at hTw h0 h1
     have hr := twins_cells hTw
     have HR2 := qh hr
     have H0 := qh h0
     have H1 := qh h1
     have D1 : Hid (DamB w w1 (.slice none 0 0) 0 [] g2 cap2 _) := qh ⟨(OutB.nil w).below hb1, hTw.own⟩
     clear hS hb1 hTw hr h0 h1 HR2 HA c0
     go_wp2_with fail
     refine wp_loop_rounds 3 ?_
     rw [rounds_succ]
     by_cases he0 : e0 = 0
     · subst he0
       obtain rfl := H0.out.zero
       have y0 := D1.out.cells 0 _ rfl
       have y1 := D1.out.cells 1 _ rfl
       have y2 := D1.out.cells 2 _ rfl
       have y3 := D1.out.cells 3 _ rfl
       have y4 := D1.out.cells 4 _ rfl
       have y5 := D1.out.cells 5 _ rfl
       have y6 := D1.out.cells 6 _ rfl
       have y7 := D1.out.cells 7 _ rfl
       have O4 := qh (D1.out.below (below_new w1 (.cells #[.int .i64 2, .slice A0 r0.length r0.length, .int .i64 av, .int .i64 ai, .int .i64 at_, .int .i64 ak, .int .i64 ao, .nilIface] 158)))
       go_wp2_with fail
       clear y0 y1 y2 y3 y4 y5 y6 y7
       rw [rounds_succ]
       generalize w1.alloc (.cells #[.int .i64 2, .slice A0 r0.length r0.length, .int .i64 av, .int .i64 ai, .int .i64 at_, .int .i64 ak, .int .i64 ao, .nilIface] 158) = W4 at *
       by_cases he1 : e1 = 0
       · subst he1
         obtain rfl := H1.out.zero
         have y0 := O4.out.cells 8 _ rfl
         have y1 := O4.out.cells 9 _ rfl
         have y2 := O4.out.cells 10 _ rfl
         have y3 := O4.out.cells 11 _ rfl
         have y4 := O4.out.cells 12 _ rfl
         have y5 := O4.out.cells 13 _ rfl
         have y6 := O4.out.cells 14 _ rfl
         have y7 := O4.out.cells 15 _ rfl
         have O5 := qh (O4.out.below (below_new W4 (.cells #[.int .i64 3, .slice A1 r1.length r1.length, .int .i64 bv, .int .i64 bi, .int .i64 bt, .int .i64 bk, .int .i64 bo, .nilIface] 158)))
         go_wp2_with fail
         clear y0 y1 y2 y3 y4 y5 y6 y7
         rw [rounds_succ]
         generalize W4.alloc (.cells #[.int .i64 3, .slice A1 r1.length r1.length, .int .i64 bv, .int .i64 bi, .int .i64 bt, .int .i64 bk, .int .i64 bo, .nilIface] 158) = W5 at *
         go_wp2_with fail
         rw [rounds_succ]
         have Ob := qh O5.out.out
         have c1 : W5.cell? ⟨g, 1, none⟩ = some (.int .i64 3) := cell_below (HB.out.cell 1) Ob.out.bl
         have HL3 := qh (HC.out W5 Ob.out.bl)
         go_wp2_with fail
         refine HL3.out.mono ?_
         rintro e w7 ⟨v, lv, rfl, hS, hb7⟩
         clear HL3 c1
         obtain ⟨_, rfl, _, A2, A3, l2, l3, hTw, h2, h3⟩ : s3 = 0 ∧ lv = .nilIface ∧ sortK 3 ∧ Twins κ _ w7 3 4 r2 r3 v := by
          rcases hS with ⟨hn, _⟩ | hS
          · exact absurd Hs3.out hn
          · exact hS
         obtain ⟨g3, cap3, rfl, hg3⟩ := own_form8 hTw.own (by decide)
         rw [Hq2.out, Hq3.out] at hTw
         rw [Hq2.out] at h2
         rw [Hq3.out] at h3
         simp only at hTw h2 h3
         have hr := twins_cells hTw
         have HR3 := qh hr
         have H2 := qh h2
         have H3 := qh h3
         have D1 : Hid (DamB w w7 (.slice none 0 0) 0 [] g3 cap3 _) := qh ⟨Ob.out.below hb7, (hTw.mono Ob.out.bl).own⟩
         clear hS hb7 hTw hr h2 h3 HR3
         go_wp2_with fail
         refine wp_loop_rounds 3 ?_
         rw [rounds_succ]
         by_cases he2 : e2 = 0
         · subst he2
           obtain rfl := H2.out.zero
           have y0 := D1.out.cells 0 _ rfl
           have y1 := D1.out.cells 1 _ rfl
           have y2 := D1.out.cells 2 _ rfl
           have y3 := D1.out.cells 3 _ rfl
           have y4 := D1.out.cells 4 _ rfl
           have y5 := D1.out.cells 5 _ rfl
           have y6 := D1.out.cells 6 _ rfl
           have y7 := D1.out.cells 7 _ rfl
           have O6 := qh (D1.out.below (below_new w7 (.cells #[.int .i64 4, .slice A2 r2.length r2.length, .int .i64 cv, .int .i64 ci, .int .i64 ct, .int .i64 ck, .int .i64 co, .nilIface] 158)))
           go_wp2_with fail
           clear y0 y1 y2 y3 y4 y5 y6 y7
           rw [rounds_succ]
           generalize w7.alloc (.cells #[.int .i64 4, .slice A2 r2.length r2.length, .int .i64 cv, .int .i64 ci, .int .i64 ct, .int .i64 ck, .int .i64 co, .nilIface] 158) = W6 at *
           by_cases he3 : e3 = 0
           · subst he3
             obtain rfl := H3.out.zero
             have y0 := O6.out.cells 8 _ rfl
             have y1 := O6.out.cells 9 _ rfl
             have y2 := O6.out.cells 10 _ rfl
             have y3 := O6.out.cells 11 _ rfl
             have y4 := O6.out.cells 12 _ rfl
             have y5 := O6.out.cells 13 _ rfl
             have y6 := O6.out.cells 14 _ rfl
             have y7 := O6.out.cells 15 _ rfl
             have O7 := qh (O6.out.below (below_new W6 (.cells #[.int .i64 5, .slice A3 r3.length r3.length, .int .i64 dv, .int .i64 di, .int .i64 dt, .int .i64 dk, .int .i64 do_, .nilIface] 158)))
             go_wp2_with fail
             clear y0 y1 y2 y3 y4 y5 y6 y7
             rw [rounds_succ]
             generalize W6.alloc (.cells #[.int .i64 5, .slice A3 r3.length r3.length, .int .i64 dv, .int .i64 di, .int .i64 dt, .int .i64 dk, .int .i64 do_, .nilIface] 158) = W7 at *
             go_wp2_with fail
             rw [rounds_succ]
             go_wp2_with fail
             go_ret
             have hbs := Hbs.out Hs2.out Hs3.out
             refine ⟨_, rfl, O7.out.out.row ?_, O7.out.out.bl⟩
             rw [hbs, if_neg (fun hn : (0 : Int) ≠ 0 => hn rfl), if_neg (fun hn : (0 : Int) ≠ 0 => hn rfl), if_neg (fun hn : (0 : Int) ≠ 0 => hn rfl), if_neg (fun hn : (0 : Int) ≠ 0 => hn rfl)]
             rfl
           · have He3 := qh he3
             obtain ⟨t3, x3, rfl⟩ := H3.out.some he3
             clear he3
             have y0 := O6.out.cells 8 _ rfl
             have y1 := O6.out.cells 9 _ rfl
             have y2 := O6.out.cells 10 _ rfl
             have y3 := O6.out.cells 11 _ rfl
             have y4 := O6.out.cells 12 _ rfl
             have y5 := O6.out.cells 13 _ rfl
             have y6 := O6.out.cells 14 _ rfl
             have y7 := O6.out.cells 15 _ rfl
             have hK := (O6.out.below (below_new W6 (.cells #[.int .i64 5, .slice A3 r3.length r3.length, .int .i64 dv, .int .i64 di, .int .i64 dt, .int .i64 dk, .int .i64 do_, .iface t3 x3] 158))).below (below_new _ (.cells #[.int .i64 5] 3))
             have HK := qh hK
             clear hK
             go_wp2_with (at_builtin; refine wpList_append_own _ rfl _ _ 56 rfl w.heap.size 3 i0 (.int .i64 0) 1 8 Tryz.underlying56 HT.out.1 HT.out.2.1 HT.out.2.2.1 HT.out.2.2.2 rfl (by decide) _ _ _ rfl HK.out.out.own ⟨W6.heap.size + 1, 0, none⟩ 1 1 [.int .i64 5] rfl rfl (cell_one_new1 W6 (.cells #[.int .i64 5, .slice A3 r3.length r3.length, .int .i64 dv, .int .i64 di, .int .i64 dt, .int .i64 dk, .int .i64 do_, .iface t3 x3] 158) _ _) (by decide) (by decide) (by decide) HK.out.out.bl.size ?_)
             intro u7 W7 hown hgrow _
             have O7 : Hid (DamB w W7 u7 1 [5] g3 cap3 _) := qh (HK.out.put hown hgrow)
             clear hown hgrow HK y0 y1 y2 y3 y4 y5 y6 y7
             go_wp2_with fail
             rw [rounds_succ]
             go_wp2_with fail
             rw [rounds_succ]
             go_wp2_with fail
             go_ret
             have hbs := Hbs.out Hs2.out Hs3.out
             refine ⟨_, rfl, O7.out.out.row ?_, O7.out.out.bl⟩
             rw [hbs, if_neg (fun hn : (0 : Int) ≠ 0 => hn rfl), if_neg (fun hn : (0 : Int) ≠ 0 => hn rfl), if_neg (fun hn : (0 : Int) ≠ 0 => hn rfl), if_pos He3.out]
             rfl
         · have He2 := qh he2
           obtain ⟨t2, x2, rfl⟩ := H2.out.some he2
           clear he2
           have y0 := D1.out.cells 0 _ rfl
           have y1 := D1.out.cells 1 _ rfl
           have y2 := D1.out.cells 2 _ rfl
           have y3 := D1.out.cells 3 _ rfl
           have y4 := D1.out.cells 4 _ rfl
           have y5 := D1.out.cells 5 _ rfl
           have y6 := D1.out.cells 6 _ rfl
           have y7 := D1.out.cells 7 _ rfl
           have hK := (D1.out.below (below_new w7 (.cells #[.int .i64 4, .slice A2 r2.length r2.length, .int .i64 cv, .int .i64 ci, .int .i64 ct, .int .i64 ck, .int .i64 co, .iface t2 x2] 158))).below (below_new _ (.cells #[.int .i64 4] 3))
           have HK := qh hK
           clear hK
           go_wp2_with (at_builtin; refine wpList_append_own _ rfl _ _ 56 rfl w.heap.size 3 i0 (.int .i64 0) 1 8 Tryz.underlying56 HT.out.1 HT.out.2.1 HT.out.2.2.1 HT.out.2.2.2 rfl (by decide) _ _ _ rfl HK.out.out.own ⟨w7.heap.size + 1, 0, none⟩ 1 1 [.int .i64 4] rfl rfl (cell_one_new1 w7 (.cells #[.int .i64 4, .slice A2 r2.length r2.length, .int .i64 cv, .int .i64 ci, .int .i64 ct, .int .i64 ck, .int .i64 co, .iface t2 x2] 158) _ _) (by decide) (by decide) (by decide) HK.out.out.bl.size ?_)
           intro u6 W6 hown hgrow _
           have O6 : Hid (DamB w W6 u6 1 [4] g3 cap3 _) := qh (HK.out.put hown hgrow)
           clear hown hgrow HK y0 y1 y2 y3 y4 y5 y6 y7
           go_wp2_with fail
           rw [rounds_succ]
           by_cases he3 : e3 = 0
           · subst he3
             obtain rfl := H3.out.zero
             have y0 := O6.out.cells 8 _ rfl
             have y1 := O6.out.cells 9 _ rfl
             have y2 := O6.out.cells 10 _ rfl
             have y3 := O6.out.cells 11 _ rfl
             have y4 := O6.out.cells 12 _ rfl
             have y5 := O6.out.cells 13 _ rfl
             have y6 := O6.out.cells 14 _ rfl
             have y7 := O6.out.cells 15 _ rfl
             have O8 := qh (O6.out.below (below_new W6 (.cells #[.int .i64 5, .slice A3 r3.length r3.length, .int .i64 dv, .int .i64 di, .int .i64 dt, .int .i64 dk, .int .i64 do_, .nilIface] 158)))
             go_wp2_with fail
             clear y0 y1 y2 y3 y4 y5 y6 y7
             rw [rounds_succ]
             generalize W6.alloc (.cells #[.int .i64 5, .slice A3 r3.length r3.length, .int .i64 dv, .int .i64 di, .int .i64 dt, .int .i64 dk, .int .i64 do_, .nilIface] 158) = W8 at *
             go_wp2_with fail
             rw [rounds_succ]
             go_wp2_with fail
             go_ret
             have hbs := Hbs.out Hs2.out Hs3.out
             refine ⟨_, rfl, O8.out.out.row ?_, O8.out.out.bl⟩
             rw [hbs, if_neg (fun hn : (0 : Int) ≠ 0 => hn rfl), if_neg (fun hn : (0 : Int) ≠ 0 => hn rfl), if_pos He2.out, if_neg (fun hn : (0 : Int) ≠ 0 => hn rfl)]
             rfl
           · have He3 := qh he3
             obtain ⟨t3, x3, rfl⟩ := H3.out.some he3
             clear he3
             have y0 := O6.out.cells 8 _ rfl
             have y1 := O6.out.cells 9 _ rfl
             have y2 := O6.out.cells 10 _ rfl
             have y3 := O6.out.cells 11 _ rfl
             have y4 := O6.out.cells 12 _ rfl
             have y5 := O6.out.cells 13 _ rfl
             have y6 := O6.out.cells 14 _ rfl
             have y7 := O6.out.cells 15 _ rfl
             have hK := (O6.out.below (below_new W6 (.cells #[.int .i64 5, .slice A3 r3.length r3.length, .int .i64 dv, .int .i64 di, .int .i64 dt, .int .i64 dk, .int .i64 do_, .iface t3 x3] 158))).below (below_new _ (.cells #[.int .i64 5] 3))
             have HK := qh hK
             clear hK
             go_wp2_with (at_builtin; refine wpList_append_own _ rfl _ _ 56 rfl w.heap.size 3 i0 (.int .i64 0) 1 8 Tryz.underlying56 HT.out.1 HT.out.2.1 HT.out.2.2.1 HT.out.2.2.2 rfl (by decide) _ _ _ rfl HK.out.out.own ⟨W6.heap.size + 1, 0, none⟩ 1 1 [.int .i64 5] rfl rfl (cell_one_new1 W6 (.cells #[.int .i64 5, .slice A3 r3.length r3.length, .int .i64 dv, .int .i64 di, .int .i64 dt, .int .i64 dk, .int .i64 do_, .iface t3 x3] 158) _ _) (by decide) (by decide) (by decide) HK.out.out.bl.size ?_)
             intro u8 W8 hown hgrow _
             have O8 : Hid (DamB w W8 u8 2 [4, 5] g3 cap3 _) := qh (HK.out.put hown hgrow)
             clear hown hgrow HK y0 y1 y2 y3 y4 y5 y6 y7
             go_wp2_with fail
             rw [rounds_succ]
             go_wp2_with fail
             rw [rounds_succ]
             go_wp2_with fail
             go_ret
             have hbs := Hbs.out Hs2.out Hs3.out
             refine ⟨_, rfl, O8.out.out.row ?_, O8.out.out.bl⟩
             rw [hbs, if_neg (fun hn : (0 : Int) ≠ 0 => hn rfl), if_neg (fun hn : (0 : Int) ≠ 0 => hn rfl), if_pos He2.out, if_pos He3.out]
             rfl
       · have He1 := qh he1
         obtain ⟨t1, x1, rfl⟩ := H1.out.some he1
         clear he1
         have y0 := O4.out.cells 8 _ rfl
         have y1 := O4.out.cells 9 _ rfl
         have y2 := O4.out.cells 10 _ rfl
         have y3 := O4.out.cells 11 _ rfl
         have y4 := O4.out.cells 12 _ rfl
         have y5 := O4.out.cells 13 _ rfl
         have y6 := O4.out.cells 14 _ rfl
         have y7 := O4.out.cells 15 _ rfl
         have hK := (O4.out.below (below_new W4 (.cells #[.int .i64 3, .slice A1 r1.length r1.length, .int .i64 bv, .int .i64 bi, .int .i64 bt, .int .i64 bk, .int .i64 bo, .iface t1 x1] 158))).below (below_new _ (.cells #[.int .i64 3] 3))
         have HK := qh hK
         clear hK
         go_wp2_with (at_builtin; refine wpList_append_own _ rfl _ _ 56 rfl w.heap.size 3 i0 (.int .i64 0) 1 8 Tryz.underlying56 HT.out.1 HT.out.2.1 HT.out.2.2.1 HT.out.2.2.2 rfl (by decide) _ _ _ rfl HK.out.out.own ⟨W4.heap.size + 1, 0, none⟩ 1 1 [.int .i64 3] rfl rfl (cell_one_new1 W4 (.cells #[.int .i64 3, .slice A1 r1.length r1.length, .int .i64 bv, .int .i64 bi, .int .i64 bt, .int .i64 bk, .int .i64 bo, .iface t1 x1] 158) _ _) (by decide) (by decide) (by decide) HK.out.out.bl.size ?_)
         intro u5 W5 hown hgrow _
         have O5 : Hid (DamB w W5 u5 1 [3] g2 cap2 _) := qh (HK.out.put hown hgrow)
         clear hown hgrow HK y0 y1 y2 y3 y4 y5 y6 y7
         go_wp2_with fail
         rw [rounds_succ]
         go_wp2_with fail
         rw [rounds_succ]
         have Ob := qh O5.out.out
         have c1 : W5.cell? ⟨g, 1, none⟩ = some (.int .i64 3) := cell_below (HB.out.cell 1) Ob.out.bl
         have HL3 := qh (HC.out W5 Ob.out.bl)
         go_wp2_with fail
         refine HL3.out.mono ?_
         rintro e w7 ⟨v, lv, rfl, hS, hb7⟩
         clear HL3 c1
         obtain ⟨_, rfl, _, A2, A3, l2, l3, hTw, h2, h3⟩ : s3 = 0 ∧ lv = .nilIface ∧ sortK 3 ∧ Twins κ _ w7 3 4 r2 r3 v := by
          rcases hS with ⟨hn, _⟩ | hS
          · exact absurd Hs3.out hn
          · exact hS
         obtain ⟨g3, cap3, rfl, hg3⟩ := own_form8 hTw.own (by decide)
         rw [Hq2.out, Hq3.out] at hTw
         rw [Hq2.out] at h2
         rw [Hq3.out] at h3
         simp only at hTw h2 h3
         have hr := twins_cells hTw
         have HR3 := qh hr
         have H2 := qh h2
         have H3 := qh h3
         have D1 : Hid (DamB w w7 (u5) 1 [3] g3 cap3 _) := qh ⟨Ob.out.below hb7, (hTw.mono Ob.out.bl).own⟩
         clear hS hb7 hTw hr h2 h3 HR3
         go_wp2_with fail
         refine wp_loop_rounds 3 ?_
         rw [rounds_succ]
         by_cases he2 : e2 = 0
         · subst he2
           obtain rfl := H2.out.zero
           have y0 := D1.out.cells 0 _ rfl
           have y1 := D1.out.cells 1 _ rfl
           have y2 := D1.out.cells 2 _ rfl
           have y3 := D1.out.cells 3 _ rfl
           have y4 := D1.out.cells 4 _ rfl
           have y5 := D1.out.cells 5 _ rfl
           have y6 := D1.out.cells 6 _ rfl
           have y7 := D1.out.cells 7 _ rfl
           have O9 := qh (D1.out.below (below_new w7 (.cells #[.int .i64 4, .slice A2 r2.length r2.length, .int .i64 cv, .int .i64 ci, .int .i64 ct, .int .i64 ck, .int .i64 co, .nilIface] 158)))
           go_wp2_with fail
           clear y0 y1 y2 y3 y4 y5 y6 y7
           rw [rounds_succ]
           generalize w7.alloc (.cells #[.int .i64 4, .slice A2 r2.length r2.length, .int .i64 cv, .int .i64 ci, .int .i64 ct, .int .i64 ck, .int .i64 co, .nilIface] 158) = W9 at *
           by_cases he3 : e3 = 0
           · subst he3
             obtain rfl := H3.out.zero
             have y0 := O9.out.cells 8 _ rfl
             have y1 := O9.out.cells 9 _ rfl
             have y2 := O9.out.cells 10 _ rfl
             have y3 := O9.out.cells 11 _ rfl
             have y4 := O9.out.cells 12 _ rfl
             have y5 := O9.out.cells 13 _ rfl
             have y6 := O9.out.cells 14 _ rfl
             have y7 := O9.out.cells 15 _ rfl
             have O10 := qh (O9.out.below (below_new W9 (.cells #[.int .i64 5, .slice A3 r3.length r3.length, .int .i64 dv, .int .i64 di, .int .i64 dt, .int .i64 dk, .int .i64 do_, .nilIface] 158)))
             go_wp2_with fail
             clear y0 y1 y2 y3 y4 y5 y6 y7
             rw [rounds_succ]
             generalize W9.alloc (.cells #[.int .i64 5, .slice A3 r3.length r3.length, .int .i64 dv, .int .i64 di, .int .i64 dt, .int .i64 dk, .int .i64 do_, .nilIface] 158) = W10 at *
             go_wp2_with fail
             rw [rounds_succ]
             go_wp2_with fail
             go_ret
             have hbs := Hbs.out Hs2.out Hs3.out
             refine ⟨_, rfl, O10.out.out.row ?_, O10.out.out.bl⟩
             rw [hbs, if_neg (fun hn : (0 : Int) ≠ 0 => hn rfl), if_pos He1.out, if_neg (fun hn : (0 : Int) ≠ 0 => hn rfl), if_neg (fun hn : (0 : Int) ≠ 0 => hn rfl)]
             rfl
           · have He3 := qh he3
             obtain ⟨t3, x3, rfl⟩ := H3.out.some he3
             clear he3
             have y0 := O9.out.cells 8 _ rfl
             have y1 := O9.out.cells 9 _ rfl
             have y2 := O9.out.cells 10 _ rfl
             have y3 := O9.out.cells 11 _ rfl
             have y4 := O9.out.cells 12 _ rfl
             have y5 := O9.out.cells 13 _ rfl
             have y6 := O9.out.cells 14 _ rfl
             have y7 := O9.out.cells 15 _ rfl
             have hK := (O9.out.below (below_new W9 (.cells #[.int .i64 5, .slice A3 r3.length r3.length, .int .i64 dv, .int .i64 di, .int .i64 dt, .int .i64 dk, .int .i64 do_, .iface t3 x3] 158))).below (below_new _ (.cells #[.int .i64 5] 3))
             have HK := qh hK
             clear hK
             go_wp2_with (at_builtin; refine wpList_append_own _ rfl _ _ 56 rfl w.heap.size 3 i0 (.int .i64 0) 1 8 Tryz.underlying56 HT.out.1 HT.out.2.1 HT.out.2.2.1 HT.out.2.2.2 rfl (by decide) _ _ _ rfl HK.out.out.own ⟨W9.heap.size + 1, 0, none⟩ 1 1 [.int .i64 5] rfl rfl (cell_one_new1 W9 (.cells #[.int .i64 5, .slice A3 r3.length r3.length, .int .i64 dv, .int .i64 di, .int .i64 dt, .int .i64 dk, .int .i64 do_, .iface t3 x3] 158) _ _) (by decide) (by decide) (by decide) HK.out.out.bl.size ?_)
             intro u10 W10 hown hgrow _
             have O10 : Hid (DamB w W10 u10 2 [3, 5] g3 cap3 _) := qh (HK.out.put hown hgrow)
             clear hown hgrow HK y0 y1 y2 y3 y4 y5 y6 y7
             go_wp2_with fail
             rw [rounds_succ]
             go_wp2_with fail
             rw [rounds_succ]
             go_wp2_with fail
             go_ret
             have hbs := Hbs.out Hs2.out Hs3.out
             refine ⟨_, rfl, O10.out.out.row ?_, O10.out.out.bl⟩
             rw [hbs, if_neg (fun hn : (0 : Int) ≠ 0 => hn rfl), if_pos He1.out, if_neg (fun hn : (0 : Int) ≠ 0 => hn rfl), if_pos He3.out]
             rfl
         · have He2 := qh he2
           obtain ⟨t2, x2, rfl⟩ := H2.out.some he2
           clear he2
           have y0 := D1.out.cells 0 _ rfl
           have y1 := D1.out.cells 1 _ rfl
           have y2 := D1.out.cells 2 _ rfl
           have y3 := D1.out.cells 3 _ rfl
           have y4 := D1.out.cells 4 _ rfl
           have y5 := D1.out.cells 5 _ rfl
           have y6 := D1.out.cells 6 _ rfl
           have y7 := D1.out.cells 7 _ rfl
           have hK := (D1.out.below (below_new w7 (.cells #[.int .i64 4, .slice A2 r2.length r2.length, .int .i64 cv, .int .i64 ci, .int .i64 ct, .int .i64 ck, .int .i64 co, .iface t2 x2] 158))).below (below_new _ (.cells #[.int .i64 4] 3))
           have HK := qh hK
           clear hK
           go_wp2_with (at_builtin; refine wpList_append_own _ rfl _ _ 56 rfl w.heap.size 3 i0 (.int .i64 0) 1 8 Tryz.underlying56 HT.out.1 HT.out.2.1 HT.out.2.2.1 HT.out.2.2.2 rfl (by decide) _ _ _ rfl HK.out.out.own ⟨w7.heap.size + 1, 0, none⟩ 1 1 [.int .i64 4] rfl rfl (cell_one_new1 w7 (.cells #[.int .i64 4, .slice A2 r2.length r2.length, .int .i64 cv, .int .i64 ci, .int .i64 ct, .int .i64 ck, .int .i64 co, .iface t2 x2] 158) _ _) (by decide) (by decide) (by decide) HK.out.out.bl.size ?_)
           intro u9 W9 hown hgrow _
           have O9 : Hid (DamB w W9 u9 2 [3, 4] g3 cap3 _) := qh (HK.out.put hown hgrow)
           clear hown hgrow HK y0 y1 y2 y3 y4 y5 y6 y7
           go_wp2_with fail
           rw [rounds_succ]
           by_cases he3 : e3 = 0
           · subst he3
             obtain rfl := H3.out.zero
             have y0 := O9.out.cells 8 _ rfl
             have y1 := O9.out.cells 9 _ rfl
             have y2 := O9.out.cells 10 _ rfl
             have y3 := O9.out.cells 11 _ rfl
             have y4 := O9.out.cells 12 _ rfl
             have y5 := O9.out.cells 13 _ rfl
             have y6 := O9.out.cells 14 _ rfl
             have y7 := O9.out.cells 15 _ rfl
             have O11 := qh (O9.out.below (below_new W9 (.cells #[.int .i64 5, .slice A3 r3.length r3.length, .int .i64 dv, .int .i64 di, .int .i64 dt, .int .i64 dk, .int .i64 do_, .nilIface] 158)))
             go_wp2_with fail
             clear y0 y1 y2 y3 y4 y5 y6 y7
             rw [rounds_succ]
             generalize W9.alloc (.cells #[.int .i64 5, .slice A3 r3.length r3.length, .int .i64 dv, .int .i64 di, .int .i64 dt, .int .i64 dk, .int .i64 do_, .nilIface] 158) = W11 at *
             go_wp2_with fail
             rw [rounds_succ]
             go_wp2_with fail
             go_ret
             have hbs := Hbs.out Hs2.out Hs3.out
             refine ⟨_, rfl, O11.out.out.row ?_, O11.out.out.bl⟩
             rw [hbs, if_neg (fun hn : (0 : Int) ≠ 0 => hn rfl), if_pos He1.out, if_pos He2.out, if_neg (fun hn : (0 : Int) ≠ 0 => hn rfl)]
             rfl
           · have He3 := qh he3
             obtain ⟨t3, x3, rfl⟩ := H3.out.some he3
             clear he3
             have y0 := O9.out.cells 8 _ rfl
             have y1 := O9.out.cells 9 _ rfl
             have y2 := O9.out.cells 10 _ rfl
             have y3 := O9.out.cells 11 _ rfl
             have y4 := O9.out.cells 12 _ rfl
             have y5 := O9.out.cells 13 _ rfl
             have y6 := O9.out.cells 14 _ rfl
             have y7 := O9.out.cells 15 _ rfl
             have hK := (O9.out.below (below_new W9 (.cells #[.int .i64 5, .slice A3 r3.length r3.length, .int .i64 dv, .int .i64 di, .int .i64 dt, .int .i64 dk, .int .i64 do_, .iface t3 x3] 158))).below (below_new _ (.cells #[.int .i64 5] 3))
             have HK := qh hK
             clear hK
             go_wp2_with (at_builtin; refine wpList_append_own _ rfl _ _ 56 rfl w.heap.size 3 i0 (.int .i64 0) 1 8 Tryz.underlying56 HT.out.1 HT.out.2.1 HT.out.2.2.1 HT.out.2.2.2 rfl (by decide) _ _ _ rfl HK.out.out.own ⟨W9.heap.size + 1, 0, none⟩ 1 1 [.int .i64 5] rfl rfl (cell_one_new1 W9 (.cells #[.int .i64 5, .slice A3 r3.length r3.length, .int .i64 dv, .int .i64 di, .int .i64 dt, .int .i64 dk, .int .i64 do_, .iface t3 x3] 158) _ _) (by decide) (by decide) (by decide) HK.out.out.bl.size ?_)
             intro u11 W11 hown hgrow _
             have O11 : Hid (DamB w W11 u11 3 [3, 4, 5] g3 cap3 _) := qh (HK.out.put hown hgrow)
             clear hown hgrow HK y0 y1 y2 y3 y4 y5 y6 y7
             go_wp2_with fail
             rw [rounds_succ]
             go_wp2_with fail
             rw [rounds_succ]
             go_wp2_with fail
             go_ret
             have hbs := Hbs.out Hs2.out Hs3.out
             refine ⟨_, rfl, O11.out.out.row ?_, O11.out.out.bl⟩
             rw [hbs, if_neg (fun hn : (0 : Int) ≠ 0 => hn rfl), if_pos He1.out, if_pos He2.out, if_pos He3.out]
             rfl
     · have He0 := qh he0
       obtain ⟨t0, x0, rfl⟩ := H0.out.some he0
       clear he0
       have y0 := D1.out.cells 0 _ rfl
       have y1 := D1.out.cells 1 _ rfl
       have y2 := D1.out.cells 2 _ rfl
       have y3 := D1.out.cells 3 _ rfl
       have y4 := D1.out.cells 4 _ rfl
       have y5 := D1.out.cells 5 _ rfl
       have y6 := D1.out.cells 6 _ rfl
       have y7 := D1.out.cells 7 _ rfl
       have hK := (D1.out.below (below_new w1 (.cells #[.int .i64 2, .slice A0 r0.length r0.length, .int .i64 av, .int .i64 ai, .int .i64 at_, .int .i64 ak, .int .i64 ao, .iface t0 x0] 158))).below (below_new _ (.cells #[.int .i64 2] 3))
       have HK := qh hK
       clear hK
       go_wp2_with (at_builtin; refine wpList_append_own _ rfl _ _ 56 rfl w.heap.size 3 i0 (.int .i64 0) 1 8 Tryz.underlying56 HT.out.1 HT.out.2.1 HT.out.2.2.1 HT.out.2.2.2 rfl (by decide) _ _ _ rfl HK.out.out.own ⟨w1.heap.size + 1, 0, none⟩ 1 1 [.int .i64 2] rfl rfl (cell_one_new1 w1 (.cells #[.int .i64 2, .slice A0 r0.length r0.length, .int .i64 av, .int .i64 ai, .int .i64 at_, .int .i64 ak, .int .i64 ao, .iface t0 x0] 158) _ _) (by decide) (by decide) (by decide) HK.out.out.bl.size ?_)
       intro u4 W4 hown hgrow _
       have O4 : Hid (DamB w W4 u4 1 [2] g2 cap2 _) := qh (HK.out.put hown hgrow)
       clear hown hgrow HK y0 y1 y2 y3 y4 y5 y6 y7
       go_wp2_with fail
       rw [rounds_succ]
       by_cases he1 : e1 = 0
       · subst he1
         obtain rfl := H1.out.zero
         have y0 := O4.out.cells 8 _ rfl
         have y1 := O4.out.cells 9 _ rfl
         have y2 := O4.out.cells 10 _ rfl
         have y3 := O4.out.cells 11 _ rfl
         have y4 := O4.out.cells 12 _ rfl
         have y5 := O4.out.cells 13 _ rfl
         have y6 := O4.out.cells 14 _ rfl
         have y7 := O4.out.cells 15 _ rfl
         have O12 := qh (O4.out.below (below_new W4 (.cells #[.int .i64 3, .slice A1 r1.length r1.length, .int .i64 bv, .int .i64 bi, .int .i64 bt, .int .i64 bk, .int .i64 bo, .nilIface] 158)))
         go_wp2_with fail
         clear y0 y1 y2 y3 y4 y5 y6 y7
         rw [rounds_succ]
         generalize W4.alloc (.cells #[.int .i64 3, .slice A1 r1.length r1.length, .int .i64 bv, .int .i64 bi, .int .i64 bt, .int .i64 bk, .int .i64 bo, .nilIface] 158) = W12 at *
         go_wp2_with fail
         rw [rounds_succ]
         have Ob := qh O12.out.out
         have c1 : W12.cell? ⟨g, 1, none⟩ = some (.int .i64 3) := cell_below (HB.out.cell 1) Ob.out.bl
         have HL3 := qh (HC.out W12 Ob.out.bl)
         go_wp2_with fail
         refine HL3.out.mono ?_
         rintro e w7 ⟨v, lv, rfl, hS, hb7⟩
         clear HL3 c1
         obtain ⟨_, rfl, _, A2, A3, l2, l3, hTw, h2, h3⟩ : s3 = 0 ∧ lv = .nilIface ∧ sortK 3 ∧ Twins κ _ w7 3 4 r2 r3 v := by
          rcases hS with ⟨hn, _⟩ | hS
          · exact absurd Hs3.out hn
          · exact hS
         obtain ⟨g3, cap3, rfl, hg3⟩ := own_form8 hTw.own (by decide)
         rw [Hq2.out, Hq3.out] at hTw
         rw [Hq2.out] at h2
         rw [Hq3.out] at h3
         simp only at hTw h2 h3
         have hr := twins_cells hTw
         have HR3 := qh hr
         have H2 := qh h2
         have H3 := qh h3
         have D1 : Hid (DamB w w7 (u4) 1 [2] g3 cap3 _) := qh ⟨Ob.out.below hb7, (hTw.mono Ob.out.bl).own⟩
         clear hS hb7 hTw hr h2 h3 HR3
         go_wp2_with fail
         refine wp_loop_rounds 3 ?_
         rw [rounds_succ]
         by_cases he2 : e2 = 0
         · subst he2
           obtain rfl := H2.out.zero
           have y0 := D1.out.cells 0 _ rfl
           have y1 := D1.out.cells 1 _ rfl
           have y2 := D1.out.cells 2 _ rfl
           have y3 := D1.out.cells 3 _ rfl
           have y4 := D1.out.cells 4 _ rfl
           have y5 := D1.out.cells 5 _ rfl
           have y6 := D1.out.cells 6 _ rfl
           have y7 := D1.out.cells 7 _ rfl
           have O13 := qh (D1.out.below (below_new w7 (.cells #[.int .i64 4, .slice A2 r2.length r2.length, .int .i64 cv, .int .i64 ci, .int .i64 ct, .int .i64 ck, .int .i64 co, .nilIface] 158)))
           go_wp2_with fail
           clear y0 y1 y2 y3 y4 y5 y6 y7
           rw [rounds_succ]
           generalize w7.alloc (.cells #[.int .i64 4, .slice A2 r2.length r2.length, .int .i64 cv, .int .i64 ci, .int .i64 ct, .int .i64 ck, .int .i64 co, .nilIface] 158) = W13 at *
           by_cases he3 : e3 = 0
           · subst he3
             obtain rfl := H3.out.zero
             have y0 := O13.out.cells 8 _ rfl
             have y1 := O13.out.cells 9 _ rfl
             have y2 := O13.out.cells 10 _ rfl
             have y3 := O13.out.cells 11 _ rfl
             have y4 := O13.out.cells 12 _ rfl
             have y5 := O13.out.cells 13 _ rfl
             have y6 := O13.out.cells 14 _ rfl
             have y7 := O13.out.cells 15 _ rfl
             have O14 := qh (O13.out.below (below_new W13 (.cells #[.int .i64 5, .slice A3 r3.length r3.length, .int .i64 dv, .int .i64 di, .int .i64 dt, .int .i64 dk, .int .i64 do_, .nilIface] 158)))
             go_wp2_with fail
             clear y0 y1 y2 y3 y4 y5 y6 y7
             rw [rounds_succ]
             generalize W13.alloc (.cells #[.int .i64 5, .slice A3 r3.length r3.length, .int .i64 dv, .int .i64 di, .int .i64 dt, .int .i64 dk, .int .i64 do_, .nilIface] 158) = W14 at *
             go_wp2_with fail
             rw [rounds_succ]
             go_wp2_with fail
             go_ret
             have hbs := Hbs.out Hs2.out Hs3.out
             refine ⟨_, rfl, O14.out.out.row ?_, O14.out.out.bl⟩
             rw [hbs, if_pos He0.out, if_neg (fun hn : (0 : Int) ≠ 0 => hn rfl), if_neg (fun hn : (0 : Int) ≠ 0 => hn rfl), if_neg (fun hn : (0 : Int) ≠ 0 => hn rfl)]
             rfl
           · have He3 := qh he3
             obtain ⟨t3, x3, rfl⟩ := H3.out.some he3
             clear he3
             have y0 := O13.out.cells 8 _ rfl
             have y1 := O13.out.cells 9 _ rfl
             have y2 := O13.out.cells 10 _ rfl
             have y3 := O13.out.cells 11 _ rfl
             have y4 := O13.out.cells 12 _ rfl
             have y5 := O13.out.cells 13 _ rfl
             have y6 := O13.out.cells 14 _ rfl
             have y7 := O13.out.cells 15 _ rfl
             have hK := (O13.out.below (below_new W13 (.cells #[.int .i64 5, .slice A3 r3.length r3.length, .int .i64 dv, .int .i64 di, .int .i64 dt, .int .i64 dk, .int .i64 do_, .iface t3 x3] 158))).below (below_new _ (.cells #[.int .i64 5] 3))
             have HK := qh hK
             clear hK
             go_wp2_with (at_builtin; refine wpList_append_own _ rfl _ _ 56 rfl w.heap.size 3 i0 (.int .i64 0) 1 8 Tryz.underlying56 HT.out.1 HT.out.2.1 HT.out.2.2.1 HT.out.2.2.2 rfl (by decide) _ _ _ rfl HK.out.out.own ⟨W13.heap.size + 1, 0, none⟩ 1 1 [.int .i64 5] rfl rfl (cell_one_new1 W13 (.cells #[.int .i64 5, .slice A3 r3.length r3.length, .int .i64 dv, .int .i64 di, .int .i64 dt, .int .i64 dk, .int .i64 do_, .iface t3 x3] 158) _ _) (by decide) (by decide) (by decide) HK.out.out.bl.size ?_)
             intro u14 W14 hown hgrow _
             have O14 : Hid (DamB w W14 u14 2 [2, 5] g3 cap3 _) := qh (HK.out.put hown hgrow)
             clear hown hgrow HK y0 y1 y2 y3 y4 y5 y6 y7
             go_wp2_with fail
             rw [rounds_succ]
             go_wp2_with fail
             rw [rounds_succ]
             go_wp2_with fail
             go_ret
             have hbs := Hbs.out Hs2.out Hs3.out
             refine ⟨_, rfl, O14.out.out.row ?_, O14.out.out.bl⟩
             rw [hbs, if_pos He0.out, if_neg (fun hn : (0 : Int) ≠ 0 => hn rfl), if_neg (fun hn : (0 : Int) ≠ 0 => hn rfl), if_pos He3.out]
             rfl
         · have He2 := qh he2
           obtain ⟨t2, x2, rfl⟩ := H2.out.some he2
           clear he2
           have y0 := D1.out.cells 0 _ rfl
           have y1 := D1.out.cells 1 _ rfl
           have y2 := D1.out.cells 2 _ rfl
           have y3 := D1.out.cells 3 _ rfl
           have y4 := D1.out.cells 4 _ rfl
           have y5 := D1.out.cells 5 _ rfl
           have y6 := D1.out.cells 6 _ rfl
           have y7 := D1.out.cells 7 _ rfl
           have hK := (D1.out.below (below_new w7 (.cells #[.int .i64 4, .slice A2 r2.length r2.length, .int .i64 cv, .int .i64 ci, .int .i64 ct, .int .i64 ck, .int .i64 co, .iface t2 x2] 158))).below (below_new _ (.cells #[.int .i64 4] 3))
           have HK := qh hK
           clear hK
           go_wp2_with (at_builtin; refine wpList_append_own _ rfl _ _ 56 rfl w.heap.size 3 i0 (.int .i64 0) 1 8 Tryz.underlying56 HT.out.1 HT.out.2.1 HT.out.2.2.1 HT.out.2.2.2 rfl (by decide) _ _ _ rfl HK.out.out.own ⟨w7.heap.size + 1, 0, none⟩ 1 1 [.int .i64 4] rfl rfl (cell_one_new1 w7 (.cells #[.int .i64 4, .slice A2 r2.length r2.length, .int .i64 cv, .int .i64 ci, .int .i64 ct, .int .i64 ck, .int .i64 co, .iface t2 x2] 158) _ _) (by decide) (by decide) (by decide) HK.out.out.bl.size ?_)
           intro u13 W13 hown hgrow _
           have O13 : Hid (DamB w W13 u13 2 [2, 4] g3 cap3 _) := qh (HK.out.put hown hgrow)
           clear hown hgrow HK y0 y1 y2 y3 y4 y5 y6 y7
           go_wp2_with fail
           rw [rounds_succ]
           by_cases he3 : e3 = 0
           · subst he3
             obtain rfl := H3.out.zero
             have y0 := O13.out.cells 8 _ rfl
             have y1 := O13.out.cells 9 _ rfl
             have y2 := O13.out.cells 10 _ rfl
             have y3 := O13.out.cells 11 _ rfl
             have y4 := O13.out.cells 12 _ rfl
             have y5 := O13.out.cells 13 _ rfl
             have y6 := O13.out.cells 14 _ rfl
             have y7 := O13.out.cells 15 _ rfl
             have O15 := qh (O13.out.below (below_new W13 (.cells #[.int .i64 5, .slice A3 r3.length r3.length, .int .i64 dv, .int .i64 di, .int .i64 dt, .int .i64 dk, .int .i64 do_, .nilIface] 158)))
             go_wp2_with fail
             clear y0 y1 y2 y3 y4 y5 y6 y7
             rw [rounds_succ]
             generalize W13.alloc (.cells #[.int .i64 5, .slice A3 r3.length r3.length, .int .i64 dv, .int .i64 di, .int .i64 dt, .int .i64 dk, .int .i64 do_, .nilIface] 158) = W15 at *
             go_wp2_with fail
             rw [rounds_succ]
             go_wp2_with fail
             go_ret
             have hbs := Hbs.out Hs2.out Hs3.out
             refine ⟨_, rfl, O15.out.out.row ?_, O15.out.out.bl⟩
             rw [hbs, if_pos He0.out, if_neg (fun hn : (0 : Int) ≠ 0 => hn rfl), if_pos He2.out, if_neg (fun hn : (0 : Int) ≠ 0 => hn rfl)]
             rfl
           · have He3 := qh he3
             obtain ⟨t3, x3, rfl⟩ := H3.out.some he3
             clear he3
             have y0 := O13.out.cells 8 _ rfl
             have y1 := O13.out.cells 9 _ rfl
             have y2 := O13.out.cells 10 _ rfl
             have y3 := O13.out.cells 11 _ rfl
             have y4 := O13.out.cells 12 _ rfl
             have y5 := O13.out.cells 13 _ rfl
             have y6 := O13.out.cells 14 _ rfl
             have y7 := O13.out.cells 15 _ rfl
             have hK := (O13.out.below (below_new W13 (.cells #[.int .i64 5, .slice A3 r3.length r3.length, .int .i64 dv, .int .i64 di, .int .i64 dt, .int .i64 dk, .int .i64 do_, .iface t3 x3] 158))).below (below_new _ (.cells #[.int .i64 5] 3))
             have HK := qh hK
             clear hK
             go_wp2_with (at_builtin; refine wpList_append_own _ rfl _ _ 56 rfl w.heap.size 3 i0 (.int .i64 0) 1 8 Tryz.underlying56 HT.out.1 HT.out.2.1 HT.out.2.2.1 HT.out.2.2.2 rfl (by decide) _ _ _ rfl HK.out.out.own ⟨W13.heap.size + 1, 0, none⟩ 1 1 [.int .i64 5] rfl rfl (cell_one_new1 W13 (.cells #[.int .i64 5, .slice A3 r3.length r3.length, .int .i64 dv, .int .i64 di, .int .i64 dt, .int .i64 dk, .int .i64 do_, .iface t3 x3] 158) _ _) (by decide) (by decide) (by decide) HK.out.out.bl.size ?_)
             intro u15 W15 hown hgrow _
             have O15 : Hid (DamB w W15 u15 3 [2, 4, 5] g3 cap3 _) := qh (HK.out.put hown hgrow)
             clear hown hgrow HK y0 y1 y2 y3 y4 y5 y6 y7
             go_wp2_with fail
             rw [rounds_succ]
             go_wp2_with fail
             rw [rounds_succ]
             go_wp2_with fail
             go_ret
             have hbs := Hbs.out Hs2.out Hs3.out
             refine ⟨_, rfl, O15.out.out.row ?_, O15.out.out.bl⟩
             rw [hbs, if_pos He0.out, if_neg (fun hn : (0 : Int) ≠ 0 => hn rfl), if_pos He2.out, if_pos He3.out]
             rfl
       · have He1 := qh he1
         obtain ⟨t1, x1, rfl⟩ := H1.out.some he1
         clear he1
         have y0 := O4.out.cells 8 _ rfl
         have y1 := O4.out.cells 9 _ rfl
         have y2 := O4.out.cells 10 _ rfl
         have y3 := O4.out.cells 11 _ rfl
         have y4 := O4.out.cells 12 _ rfl
         have y5 := O4.out.cells 13 _ rfl
         have y6 := O4.out.cells 14 _ rfl
         have y7 := O4.out.cells 15 _ rfl
         have hK := (O4.out.below (below_new W4 (.cells #[.int .i64 3, .slice A1 r1.length r1.length, .int .i64 bv, .int .i64 bi, .int .i64 bt, .int .i64 bk, .int .i64 bo, .iface t1 x1] 158))).below (below_new _ (.cells #[.int .i64 3] 3))
         have HK := qh hK
         clear hK
         go_wp2_with (at_builtin; refine wpList_append_own _ rfl _ _ 56 rfl w.heap.size 3 i0 (.int .i64 0) 1 8 Tryz.underlying56 HT.out.1 HT.out.2.1 HT.out.2.2.1 HT.out.2.2.2 rfl (by decide) _ _ _ rfl HK.out.out.own ⟨W4.heap.size + 1, 0, none⟩ 1 1 [.int .i64 3] rfl rfl (cell_one_new1 W4 (.cells #[.int .i64 3, .slice A1 r1.length r1.length, .int .i64 bv, .int .i64 bi, .int .i64 bt, .int .i64 bk, .int .i64 bo, .iface t1 x1] 158) _ _) (by decide) (by decide) (by decide) HK.out.out.bl.size ?_)
         intro u12 W12 hown hgrow _
         have O12 : Hid (DamB w W12 u12 2 [2, 3] g2 cap2 _) := qh (HK.out.put hown hgrow)
         clear hown hgrow HK y0 y1 y2 y3 y4 y5 y6 y7
         go_wp2_with fail
         rw [rounds_succ]
         go_wp2_with fail
         rw [rounds_succ]
         have Ob := qh O12.out.out
         have c1 : W12.cell? ⟨g, 1, none⟩ = some (.int .i64 3) := cell_below (HB.out.cell 1) Ob.out.bl
         have HL3 := qh (HC.out W12 Ob.out.bl)
         go_wp2_with fail
         refine HL3.out.mono ?_
         rintro e w7 ⟨v, lv, rfl, hS, hb7⟩
         clear HL3 c1
         obtain ⟨_, rfl, _, A2, A3, l2, l3, hTw, h2, h3⟩ : s3 = 0 ∧ lv = .nilIface ∧ sortK 3 ∧ Twins κ _ w7 3 4 r2 r3 v := by
          rcases hS with ⟨hn, _⟩ | hS
          · exact absurd Hs3.out hn
          · exact hS
         obtain ⟨g3, cap3, rfl, hg3⟩ := own_form8 hTw.own (by decide)
         rw [Hq2.out, Hq3.out] at hTw
         rw [Hq2.out] at h2
         rw [Hq3.out] at h3
         simp only at hTw h2 h3
         have hr := twins_cells hTw
         have HR3 := qh hr
         have H2 := qh h2
         have H3 := qh h3
         have D1 : Hid (DamB w w7 (u12) 2 [2, 3] g3 cap3 _) := qh ⟨Ob.out.below hb7, (hTw.mono Ob.out.bl).own⟩
         clear hS hb7 hTw hr h2 h3 HR3
         go_wp2_with fail
         refine wp_loop_rounds 3 ?_
         rw [rounds_succ]
         by_cases he2 : e2 = 0
         · subst he2
           obtain rfl := H2.out.zero
           have y0 := D1.out.cells 0 _ rfl
           have y1 := D1.out.cells 1 _ rfl
           have y2 := D1.out.cells 2 _ rfl
           have y3 := D1.out.cells 3 _ rfl
           have y4 := D1.out.cells 4 _ rfl
           have y5 := D1.out.cells 5 _ rfl
           have y6 := D1.out.cells 6 _ rfl
           have y7 := D1.out.cells 7 _ rfl
           have O16 := qh (D1.out.below (below_new w7 (.cells #[.int .i64 4, .slice A2 r2.length r2.length, .int .i64 cv, .int .i64 ci, .int .i64 ct, .int .i64 ck, .int .i64 co, .nilIface] 158)))
           go_wp2_with fail
           clear y0 y1 y2 y3 y4 y5 y6 y7
           rw [rounds_succ]
           generalize w7.alloc (.cells #[.int .i64 4, .slice A2 r2.length r2.length, .int .i64 cv, .int .i64 ci, .int .i64 ct, .int .i64 ck, .int .i64 co, .nilIface] 158) = W16 at *
           by_cases he3 : e3 = 0
           · subst he3
             obtain rfl := H3.out.zero
             have y0 := O16.out.cells 8 _ rfl
             have y1 := O16.out.cells 9 _ rfl
             have y2 := O16.out.cells 10 _ rfl
             have y3 := O16.out.cells 11 _ rfl
             have y4 := O16.out.cells 12 _ rfl
             have y5 := O16.out.cells 13 _ rfl
             have y6 := O16.out.cells 14 _ rfl
             have y7 := O16.out.cells 15 _ rfl
             have O17 := qh (O16.out.below (below_new W16 (.cells #[.int .i64 5, .slice A3 r3.length r3.length, .int .i64 dv, .int .i64 di, .int .i64 dt, .int .i64 dk, .int .i64 do_, .nilIface] 158)))
             go_wp2_with fail
             clear y0 y1 y2 y3 y4 y5 y6 y7
             rw [rounds_succ]
             generalize W16.alloc (.cells #[.int .i64 5, .slice A3 r3.length r3.length, .int .i64 dv, .int .i64 di, .int .i64 dt, .int .i64 dk, .int .i64 do_, .nilIface] 158) = W17 at *
             go_wp2_with fail
             rw [rounds_succ]
             go_wp2_with fail
             go_ret
             have hbs := Hbs.out Hs2.out Hs3.out
             refine ⟨_, rfl, O17.out.out.row ?_, O17.out.out.bl⟩
             rw [hbs, if_pos He0.out, if_pos He1.out, if_neg (fun hn : (0 : Int) ≠ 0 => hn rfl), if_neg (fun hn : (0 : Int) ≠ 0 => hn rfl)]
             rfl
           · have He3 := qh he3
             obtain ⟨t3, x3, rfl⟩ := H3.out.some he3
             clear he3
             have y0 := O16.out.cells 8 _ rfl
             have y1 := O16.out.cells 9 _ rfl
             have y2 := O16.out.cells 10 _ rfl
             have y3 := O16.out.cells 11 _ rfl
             have y4 := O16.out.cells 12 _ rfl
             have y5 := O16.out.cells 13 _ rfl
             have y6 := O16.out.cells 14 _ rfl
             have y7 := O16.out.cells 15 _ rfl
             have hK := (O16.out.below (below_new W16 (.cells #[.int .i64 5, .slice A3 r3.length r3.length, .int .i64 dv, .int .i64 di, .int .i64 dt, .int .i64 dk, .int .i64 do_, .iface t3 x3] 158))).below (below_new _ (.cells #[.int .i64 5] 3))
             have HK := qh hK
             clear hK
             go_wp2_with (at_builtin; refine wpList_append_own _ rfl _ _ 56 rfl w.heap.size 3 i0 (.int .i64 0) 1 8 Tryz.underlying56 HT.out.1 HT.out.2.1 HT.out.2.2.1 HT.out.2.2.2 rfl (by decide) _ _ _ rfl HK.out.out.own ⟨W16.heap.size + 1, 0, none⟩ 1 1 [.int .i64 5] rfl rfl (cell_one_new1 W16 (.cells #[.int .i64 5, .slice A3 r3.length r3.length, .int .i64 dv, .int .i64 di, .int .i64 dt, .int .i64 dk, .int .i64 do_, .iface t3 x3] 158) _ _) (by decide) (by decide) (by decide) HK.out.out.bl.size ?_)
             intro u17 W17 hown hgrow _
             have O17 : Hid (DamB w W17 u17 3 [2, 3, 5] g3 cap3 _) := qh (HK.out.put hown hgrow)
             clear hown hgrow HK y0 y1 y2 y3 y4 y5 y6 y7
             go_wp2_with fail
             rw [rounds_succ]
             go_wp2_with fail
             rw [rounds_succ]
             go_wp2_with fail
             go_ret
             have hbs := Hbs.out Hs2.out Hs3.out
             refine ⟨_, rfl, O17.out.out.row ?_, O17.out.out.bl⟩
             rw [hbs, if_pos He0.out, if_pos He1.out, if_neg (fun hn : (0 : Int) ≠ 0 => hn rfl), if_pos He3.out]
             rfl
         · have He2 := qh he2
           obtain ⟨t2, x2, rfl⟩ := H2.out.some he2
           clear he2
           have y0 := D1.out.cells 0 _ rfl
           have y1 := D1.out.cells 1 _ rfl
           have y2 := D1.out.cells 2 _ rfl
           have y3 := D1.out.cells 3 _ rfl
           have y4 := D1.out.cells 4 _ rfl
           have y5 := D1.out.cells 5 _ rfl
           have y6 := D1.out.cells 6 _ rfl
           have y7 := D1.out.cells 7 _ rfl
           have hK := (D1.out.below (below_new w7 (.cells #[.int .i64 4, .slice A2 r2.length r2.length, .int .i64 cv, .int .i64 ci, .int .i64 ct, .int .i64 ck, .int .i64 co, .iface t2 x2] 158))).below (below_new _ (.cells #[.int .i64 4] 3))
           have HK := qh hK
           clear hK
           go_wp2_with (at_builtin; refine wpList_append_own _ rfl _ _ 56 rfl w.heap.size 3 i0 (.int .i64 0) 1 8 Tryz.underlying56 HT.out.1 HT.out.2.1 HT.out.2.2.1 HT.out.2.2.2 rfl (by decide) _ _ _ rfl HK.out.out.own ⟨w7.heap.size + 1, 0, none⟩ 1 1 [.int .i64 4] rfl rfl (cell_one_new1 w7 (.cells #[.int .i64 4, .slice A2 r2.length r2.length, .int .i64 cv, .int .i64 ci, .int .i64 ct, .int .i64 ck, .int .i64 co, .iface t2 x2] 158) _ _) (by decide) (by decide) (by decide) HK.out.out.bl.size ?_)
           intro u16 W16 hown hgrow _
           have O16 : Hid (DamB w W16 u16 3 [2, 3, 4] g3 cap3 _) := qh (HK.out.put hown hgrow)
           clear hown hgrow HK y0 y1 y2 y3 y4 y5 y6 y7
           go_wp2_with fail
           rw [rounds_succ]
           by_cases he3 : e3 = 0
           · subst he3
             obtain rfl := H3.out.zero
             have y0 := O16.out.cells 8 _ rfl
             have y1 := O16.out.cells 9 _ rfl
             have y2 := O16.out.cells 10 _ rfl
             have y3 := O16.out.cells 11 _ rfl
             have y4 := O16.out.cells 12 _ rfl
             have y5 := O16.out.cells 13 _ rfl
             have y6 := O16.out.cells 14 _ rfl
             have y7 := O16.out.cells 15 _ rfl
             have O18 := qh (O16.out.below (below_new W16 (.cells #[.int .i64 5, .slice A3 r3.length r3.length, .int .i64 dv, .int .i64 di, .int .i64 dt, .int .i64 dk, .int .i64 do_, .nilIface] 158)))
             go_wp2_with fail
             clear y0 y1 y2 y3 y4 y5 y6 y7
             rw [rounds_succ]
             generalize W16.alloc (.cells #[.int .i64 5, .slice A3 r3.length r3.length, .int .i64 dv, .int .i64 di, .int .i64 dt, .int .i64 dk, .int .i64 do_, .nilIface] 158) = W18 at *
             go_wp2_with fail
             rw [rounds_succ]
             go_wp2_with fail
             go_ret
             have hbs := Hbs.out Hs2.out Hs3.out
             refine ⟨_, rfl, O18.out.out.row ?_, O18.out.out.bl⟩
             rw [hbs, if_pos He0.out, if_pos He1.out, if_pos He2.out, if_neg (fun hn : (0 : Int) ≠ 0 => hn rfl)]
             rfl
           · have He3 := qh he3
             obtain ⟨t3, x3, rfl⟩ := H3.out.some he3
             clear he3
             have y0 := O16.out.cells 8 _ rfl
             have y1 := O16.out.cells 9 _ rfl
             have y2 := O16.out.cells 10 _ rfl
             have y3 := O16.out.cells 11 _ rfl
             have y4 := O16.out.cells 12 _ rfl
             have y5 := O16.out.cells 13 _ rfl
             have y6 := O16.out.cells 14 _ rfl
             have y7 := O16.out.cells 15 _ rfl
             have hK := (O16.out.below (below_new W16 (.cells #[.int .i64 5, .slice A3 r3.length r3.length, .int .i64 dv, .int .i64 di, .int .i64 dt, .int .i64 dk, .int .i64 do_, .iface t3 x3] 158))).below (below_new _ (.cells #[.int .i64 5] 3))
             have HK := qh hK
             clear hK
             go_wp2_with (at_builtin; refine wpList_append_own _ rfl _ _ 56 rfl w.heap.size 3 i0 (.int .i64 0) 1 8 Tryz.underlying56 HT.out.1 HT.out.2.1 HT.out.2.2.1 HT.out.2.2.2 rfl (by decide) _ _ _ rfl HK.out.out.own ⟨W16.heap.size + 1, 0, none⟩ 1 1 [.int .i64 5] rfl rfl (cell_one_new1 W16 (.cells #[.int .i64 5, .slice A3 r3.length r3.length, .int .i64 dv, .int .i64 di, .int .i64 dt, .int .i64 dk, .int .i64 do_, .iface t3 x3] 158) _ _) (by decide) (by decide) (by decide) HK.out.out.bl.size ?_)
             intro u18 W18 hown hgrow _
             have O18 : Hid (DamB w W18 u18 4 [2, 3, 4, 5] g3 cap3 _) := qh (HK.out.put hown hgrow)
             clear hown hgrow HK y0 y1 y2 y3 y4 y5 y6 y7
             go_wp2_with fail
             rw [rounds_succ]
             go_wp2_with fail
             rw [rounds_succ]
             go_wp2_with fail
             go_ret
             have hbs := Hbs.out Hs2.out Hs3.out
             refine ⟨_, rfl, O18.out.out.row ?_, O18.out.out.bl⟩
             rw [hbs, if_pos He0.out, if_pos He1.out, if_pos He2.out, if_pos He3.out]
             rfl
end
open Go.RowKit
section
variable {δ : SenD} {w0 w : World} {T : Nat → Prop} {h : Nat} {D : DM}
theorem kDamaged_any (σ : Sen) (τ : SenU) (κ : SenK) (hC : GlAt σ w0) (hU : GlU τ w0) (hD : GlD δ w0) (hM : GlK κ w0) (k : OwnT w0 w T h D) :
 Calls Tryz.prog 22 #[.pointer (some ⟨h, 0, none⟩)] w fun e w' => ∃ v, e = .returned v ∧ w'.ownsRow w.heap.size 3 1 v (badK D).length (i64s (badK D)) ∧ Below w.heap.size w w' := by
 have hb := below_new w (.cells #[.int .i64 2, .int .i64 3] 27)
 have HD := qh (kdamaged_any σ τ κ hC hU hD hM (k.on hb) w.heap.size (BlockIs.made w 27 #[.int .i64 2, .int .i64 3]))
 have Hb := qh hb
 clear hC hU hD hM k hb
 go_enter Tryz.func22, Tryz.ntmps22
 go_wp2_with fail
 refine HD.out.mono ?_
 rintro e w2 ⟨v, rfl, ho, hb2⟩
 have Ho := qh (And.intro ho hb2)
 clear ho hb2 HD
 go_wp2_with fail
 go_ret
 exact ⟨_, rfl, own_mono Ho.out.1 Hb.out.size, Hb.out.trans (Ho.out.2.mono Hb.out.size)⟩
end
open Go.RowKit
structure Box (w : World) (T : Nat → Prop) (b : Nat) (t : TypeId) (cs : Array Value) : Prop where
 blk : BlockIs w b t cs
 off : ¬ T b
section
variable {w0 w w' : World} {T : Nat → Prop} {h b : Nat} {D D' : DM} {t : TypeId} {cs : Array Value}
theorem Box.step (k : Box w T b t cs) (s : Stp w0 w T h D' w') : Box w' (grow T w w') b t cs := ⟨(s.block k.blk k.off).1, (s.block k.blk k.off).2⟩
theorem Box.made (k : OwnT w0 w T h D) (t : TypeId) (cs : Array Value) : Box (w.alloc (.cells cs t)) T w.heap.size t cs := ⟨BlockIs.made _ _ _, fun ht => by have := k.foot _ ht; omega⟩
end
structure Gls (σ : Sen) (τ : SenU) (δ : SenD) (κ : SenK) (w : World) : Prop where
 c : GlAt σ w
 u : GlU τ w
 d : GlD δ w
 s : GlS δ w
 k : GlK κ w
theorem Gls.below {σ : Sen} {τ : SenU} {δ : SenD} {κ : SenK} {w w' : World} (h : Gls σ τ δ κ w) (hb : Below w.heap.size w w') : Gls σ τ δ κ w' := ⟨h.c.below hb, h.u.below hb, h.d.below hb, h.s.below hb, h.k.below hb⟩
theorem wf2 : wfK 2 := by unfold wfK; decide
theorem wf3 : wfK 3 := by unfold wfK; decide
theorem awake_any (σ : Sen) (τ : SenU) (δ : SenD) (κ : SenK) (w : World) (hG : Gls σ τ δ κ w) :
 Calls Tryz.prog 8 #[] w fun e w' => e = .returned (.bool true) ∧ Below w.heap.size w w' := by
 obtain ⟨f1, p1, i1, g2, g3, bd, hF⟩ := mark_awake
 have HG := qh hG
 have HN := qh (OwnT.new (Below.refl w.heap.size w) 6 (by decide) (by decide))
 have Hms := qh (And.intro f1 (And.intro p1 (And.intro i1 (And.intro g2 (And.intro g3 (And.intro bd hF))))))
 have F1 := qh (few_formatK (Few.new (B := 6)))
 obtain ⟨D1, hD1⟩ : ∃ D, formatK (DM.new 6) = D := ⟨_, rfl⟩
 obtain ⟨D0, hD0⟩ : ∃ D, DM.new 6 = D := ⟨_, rfl⟩
 have F0 := qh (Few.new (B := 6))
 rw [hD0] at hD1 F0 HN
 rw [hD0, hD1] at Hms F1
 have Hq1 := qh hD1
 clear f1 p1 i1 g2 g3 bd hF hG hD0 hD1
 go_enter Tryz.func8, Tryz.ntmps8
 go_wp2_with fail
 refine HN.out.mono ?_
 rintro e w1 ⟨h, rfl, k1, hb1⟩
 have hbm := below_new w1 (.cells #[.int .i64 1, .int .i64 4, .int .i64 2, .int .i64 2, .int .i64 0] 26)
 have K2 := qh (k1.on hbm)
 have M2 := qh (Box.made k1 26 #[.int .i64 1, .int .i64 4, .int .i64 2, .int .i64 2, .int .i64 0])
 have HF := kformat_any κ HG.out.d HG.out.k K2.out F0.out (by decide)
 rw [Hq1.out] at HF
 have HFm := qh HF
 obtain ⟨w2, hw2⟩ : ∃ w2, w1.alloc (.cells #[.int .i64 1, .int .i64 4, .int .i64 2, .int .i64 2, .int .i64 0] 26) = w2 := ⟨_, rfl⟩
 rw [hw2] at K2 M2 HFm
 have Hw2 := qh hw2
 clear k1 hb1 hbm HF HN hw2
 rw [Hms.out.1] at HFm
 go_wp2_with fail
 rw [Hw2.out]
 refine HFm.out.mono ?_
 rintro e w3 ⟨rfl, hS⟩
 have M3 := qh (M2.out.step hS)
 have K3 := qh hS.own
 have HP := kput_any κ HG.out.d HG.out.k hS.own F1.out (by decide) 2 wf2 m06
 rw [Hms.out.2.1] at HP
 have HPm := qh HP
 rw [show m06.val = .agg #[.int .i64 1, .int .i64 4, .int .i64 2, .int .i64 2, .int .i64 0] from rfl] at HPm
 clear hS HP HFm
 obtain ⟨⟨c0, c1, c2, c3, c4⟩, _⟩ := cells_five M3.out.blk
 go_wp2_with fail
 refine HPm.out.mono ?_
 rintro e w4 ⟨rfl, hS⟩
 have M4 := qh (M3.out.step hS)
 have HW := wipe_stp HG.out.d HG.out.s hS.own 3
 rw [Hms.out.2.2.1] at HW
 have HWm := qh HW
 clear hS HW HPm c0 c1 c2 c3 c4
 go_wp2_with fail
 refine HWm.out.mono ?_
 rintro e w5 ⟨rfl, hS⟩
 have M5 := qh (M4.out.step hS)
 have K5 := qh hS.own
 have HGt := kGet_any σ τ κ HG.out.c HG.out.u HG.out.d HG.out.k hS.own 2 wf2
 rw [Hms.out.2.2.2.1] at HGt
 have HGm := qh HGt
 rw [show m06.val = .agg #[.int .i64 1, .int .i64 4, .int .i64 2, .int .i64 2, .int .i64 0] from rfl] at HGm
 clear hS HGt HWm
 go_wp2_with fail
 refine HGm.out.mono ?_
 rintro e w6 ⟨rfl, hb6⟩
 have hb7 := hb6.trans ((below_new w6 (.cells #[.int .i64 1, .int .i64 4, .int .i64 2, .int .i64 2, .int .i64 0] 26)).mono hb6.size)
 have K7 := qh (K5.out.on hb7)
 have M7 := qh (M5.out.blk.below hb7 M5.out.blk.lt)
 have X7 := qh (BlockIs.made w6 26 #[.int .i64 1, .int .i64 4, .int .i64 2, .int .i64 2, .int .i64 0])
 have HHt := kGet_any σ τ κ HG.out.c HG.out.u HG.out.d HG.out.k K7.out 3 wf3
 rw [Hms.out.2.2.2.2.1] at HHt
 have HHm := qh HHt
 rw [show noMark.val = .agg #[.int .i64 0, .int .i64 0, .int .i64 0, .int .i64 0, .int .i64 0] from rfl] at HHm
 obtain ⟨w7, hw7⟩ : ∃ w7, w6.alloc (.cells #[.int .i64 1, .int .i64 4, .int .i64 2, .int .i64 2, .int .i64 0] 26) = w7 := ⟨_, rfl⟩
 rw [hw7] at K7 M7 X7 HHm
 have Hw7 := qh hw7
 clear hb6 hb7 HHt hw7 HGm K5 M5
 go_wp2_with fail
 rw [Hw7.out]
 refine HHm.out.mono ?_
 rintro e w8 ⟨rfl, hb8⟩
 have hb9 := hb8.trans ((below_new w8 (.cells #[.int .i64 0, .int .i64 0, .int .i64 0, .int .i64 0, .int .i64 0] 26)).mono hb8.size)
 have K9 := qh (K7.out.on hb9)
 have M9 := qh (M7.out.below hb9 M7.out.lt)
 have X9 := qh (X7.out.below hb9 X7.out.lt)
 have Y9 := qh (BlockIs.made w8 26 #[.int .i64 0, .int .i64 0, .int .i64 0, .int .i64 0, .int .i64 0])
 have HDt := kDamaged_any σ τ κ HG.out.c HG.out.u HG.out.d HG.out.k K9.out
 rw [Hms.out.2.2.2.2.2.1] at HDt
 have HDm := qh HDt
 obtain ⟨w9, hw9⟩ : ∃ w9, w8.alloc (.cells #[.int .i64 0, .int .i64 0, .int .i64 0, .int .i64 0, .int .i64 0] 26) = w9 := ⟨_, rfl⟩
 rw [hw9] at K9 M9 X9 Y9 HDm
 have Hw9 := qh hw9
 clear hb8 hb9 HDt hw9 HHm K7 M7 X7
 go_wp2_with fail
 rw [Hw9.out]
 refine HDm.out.mono ?_
 rintro e w10 ⟨v, rfl, ho, hb10⟩
 obtain ⟨g, cap, rfl, hg⟩ := own_form8 ho (by decide)
 have l0 : w10.cell? ⟨g, 0, none⟩ = some (.int .i64 3) := ho.cells (g := g) rfl 0 _ rfl
 have B10 := qh (K9.out.below.trans (hb10.mono K9.out.below.size))
 obtain ⟨⟨m0, m1, m2, m3, m4⟩, _⟩ := cells_five (M9.out.below hb10 M9.out.lt)
 obtain ⟨⟨x0, x1, x2, x3, x4⟩, _⟩ := cells_five (X9.out.below hb10 X9.out.lt)
 obtain ⟨⟨y0, y1, y2, y3, y4⟩, _⟩ := cells_five (Y9.out.below hb10 Y9.out.lt)
 clear ho hb10 HDm
 rw [show [(3 : Int)].length = 1 from rfl]
 go_wp2_with fail
 go_ret
 exact ⟨rfl, B10.out⟩
end Go.Proofs.YtpaikolnampcfaaGreatDoor
