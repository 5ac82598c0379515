/- The document's own reader: texts. -/
import Derived.Test.YtifoiiaddcgngaaGreatDoorRefRd
import Derived.Test.YtifoiiaddcgngaaGreatDoorRefParts
import Derived.Test.YtifoiiaddcgngaaGreatDoorCodeMathC
import Derived.Deep.DeepCutAuto
import Derived.IntWalk
namespace Go.Proofs.YtifoiiaddcgngaaGreatDoor
open Go.RowKit
theorem own_base {w : World} {B C n : Nat} {e : TypeId} {v : Value} {xs : List Value} (h : w.ownsRow C e 1 v n xs) (hB : B ≤ C) : w.ownsRow B e 1 v n xs :=
  ⟨h.1, h.2.imp id fun ⟨g, cap, cur, e1, e2, e3⟩ => ⟨g, cap, cur, e1, Nat.le_trans hB e2, e3⟩⟩
theorem cut_run3 (X : Option Addr) (n k j cap : Nat) (w : World) (h1 : k ≤ j) (h2 : j ≤ cap) (_h3 : cap ≤ 9223372036854775807) : (Instr.slice 23 (.slice X n cap) (some (.int .i64 (k : Int))) (some (.int .i64 (j : Int))) none).run Tryz.prog w = .ok (.slice (cutAt X cap k) (j - k) (cap - k)) w := by
  have hs : (sizeOf (Tryz.prog.elem 23)).run Tryz.prog w = .ok 1 w := by kernel_rfl
  rw [run_slice_lh w 23 X n cap (by kernel_rfl) .i64 .i64 k j (by omega) (by omega) (by omega), hs]
  simp [Result.andThen, sliced, cutAt]
/-- append onto bytes that are owned, at a step of a region that draws its order. -/
theorem step_append_bytes {w : World} {ops : Array Oper} {o : Oper} {a : Act} {K : Act → World → Prop} {Q : Exit → Act → World → Prop} {E : Prop} (hgd : o.guard = none) (s x : Operand)
    (ho : o.op = .call { callee := .builtin .append, args := #[s, x], argTypes := #[23, 23] }) (base : Nat) (v : Value) (n : Nat) (xs : List Int) (hs : a.eval s = v) (hown : w.ownsRow base 5 1 v n (u8s xs))
    (A : Option Addr) (zs : List Int) (m c : Nat) (hx : a.eval x = .slice A m c) (hm : zs.length = m) (hz : BytesAt w A zs) (hA : A = none → c = 0) (hb : n + m ≤ 140737488355328) (hbase : base ≤ w.heap.size)
    (h : ∀ v' w', w'.ownsRow base 5 1 v' (n + m) (u8s (xs ++ zs)) → w.grownBy w' v.ownBlock → (v'.ownBlock = v.ownBlock ∨ ∃ b, v'.ownBlock = some b ∧ w.heap.size ≤ b) → K (a.put o.dst v') w') :
    if Region.wanted o (yielded ops a.tmps) = true then Oper.wp Tryz.prog o a w K Q else E := by
  have hw : Region.wanted o (yielded ops a.tmps) = true := by simp [Region.wanted, hgd]
  rw [if_pos hw]
  obtain ⟨i0, hi, hz0, hz1, hz2⟩ := info_parts infoByte
  subst hm
  cases A with
  | none =>
    have hnil : zs = [] := by
      apply Classical.byContradiction
      intro hne
      obtain ⟨b, off, e⟩ := hz.some_ hne
      cases e
    subst hnil
    obtain rfl : c = 0 := hA rfl
    have hr := run_append_owned_none (P := Tryz.prog) (w := w) base 23 o.type 5 i0 1 Tryz.underlying23 hi v n (u8s xs) hown
    unfold Oper.wp execOp
    have hx' : a.eval x = .slice none 0 0 := hx
    simp only [ho, resolve, invoke, builtin, Sem.run_bind, Sem.run_pure, Result.andThen_ok, List.map_toArray, List.map_cons, List.map_nil, hs, hx', hr]
    exact h v w (own_same hown (by simp) (by simp)) (World.grownBy.refl _ _) (.inl rfl)
  | some ad =>
    have hsrc : ∀ j u, (u8s zs)[j]? = some u → w.cell? (ad.add j) = some u := fun j u hj => by
      have hne : zs ≠ [] := by intro e; subst e; simp [u8s] at hj
      obtain ⟨b, off, e, hc⟩ := hz.2 hne
      obtain rfl : ad = ⟨b, off, none⟩ := by simpa using e
      simp only [u8s, List.getElem?_map] at hj
      cases hq : zs[j]? with
      | none => simp [hq] at hj
      | some z =>
        obtain rfl : Value.int .u8 z = u := by simpa [hq] using hj
        have h1 := hc j (List.getElem?_eq_some_iff.1 hq).1
        rw [List.getD_eq_getElem?_getD, hq] at h1
        have hadd : (⟨b, off, none⟩ : Addr).add j = ⟨b, off + j, none⟩ := by unfold Addr.add; split <;> simp_all
        rw [hadd]; exact h1
    obtain ⟨v', w', hr, h2, h3, h4, h5⟩ := run_append_own_at (P := Tryz.prog) w base 23 o.type 5 i0 (.int .u8 0) 1 1 Tryz.underlying23 hi hz0 hz1 hz2 rfl (by decide) v n (u8s xs) hown ad zs.length c (u8s zs) (by rw [u8s_len, Nat.mul_one]) hsrc (u8s_one zs) (by unfold maxLen; omega) (by omega) hbase
    unfold Oper.wp execOp
    simp only [ho, resolve, invoke, builtin, Sem.run_bind, Sem.run_pure, Result.andThen_ok, List.map_toArray, List.map_cons, List.map_nil, hs, hx, hr]
    exact h v' w' (own_same h2 rfl (by rw [u8s_app])) h3 (h5.imp id fun e => ⟨_, e, Nat.le_refl _⟩)
theorem fieldR_two (bs : List Int) (hb : ∀ z ∈ bs, 0 ≤ z ∧ z < 256) (wd k : Nat) (_hk : k ≤ bs.length) : fieldR bs (wd : Int) (.ok k) = (0, .bad k false) ∨ ∃ n : Nat, fieldR bs (wd : Int) (.ok k) = ((n : Int), .ok (k + wd)) ∧ (n : Int) ≤ top wd ∧ k + wd ≤ bs.length := by
  simp only [fieldR]
  split
  · exact .inl rfl
  · split
    · exact .inl rfl
    · rename_i h1 h2
      have hu := unle_bd ((bs.drop k).take ((wd : Int)).toNat) (fun z hz => hb z (List.mem_of_mem_drop (List.mem_of_mem_take hz)))
      obtain ⟨n, hn⟩ := Int.eq_ofNat_of_zero_le hu.1
      refine .inr ⟨n, ?_, by rw [← hn]; omega, by omega⟩
      rw [hn]; rfl
set_option maxRecDepth 100000 in
set_option maxHeartbeats 2000000 in
theorem rrText_any {lo : Nat} (w : World) (g : Nat) (bs : List Int) (s : RSt) (most : Int) (h : RrAt lo w g bs s) (hl : bs.length ≤ 140737488351232) :
    Calls Tryz.prog 33 #[.pointer (some ⟨g, 0, none⟩), .int .i64 most] w fun e w' => ∃ v, e = .returned v ∧ w'.ownsRow w.heap.size 5 1 v (textR bs most s).1.length (u8s (textR bs most s).1) ∧ RGot lo w g bs (textR bs most s).2 w' := by
  cases s with
  | bad p l =>
    have HF := Lib.hid (rrField_bad w g bs p l 2 h)
    have HG := Lib.hid (RGot.same h)
    obtain ⟨x, cap, k, e, b, h⟩ := h
    obtain ⟨rfl, rfl, hk⟩ := h.st
    obtain ⟨c0, c1, c2, c3⟩ := h.cells
    have hne : (errCode l != 0) = true := by cases l <;> rfl
    have heq : (errCode l == 0) = false := by cases l <;> rfl
    clear h
    go_enter Tryz.func33, Tryz.ntmps33
    go_wp2_with fail
    refine HF.out.mono ?_
    rintro e w' ⟨rfl, rfl⟩
    go_wp2_with fail
    go_quiet (fail)
    go_wp2_with fail
    go_ret
    exact ⟨_, rfl, World.ownsRow_nil _ _ _ _, HG.out.on (drewN_below (Below.refl _ _) _)⟩
  | ok j =>
    have hjl := h.le
    obtain ⟨x, cap, k, e, b, hI⟩ := h
    obtain ⟨rfl, rfl, rfl, hj⟩ := hI.st
    obtain ⟨c0, c1, c2, c3⟩ := hI.cells
    have hbb := hI.bytes.1
    have HF := Lib.hid (rrField_any w g bs (.ok k) 2 ⟨x, cap, k, 0, 0, hI⟩ hl (by omega))
    have HI := Lib.hid hI
    clear hI
    rcases fieldR_two bs hbb 2 k hj with hf | ⟨n, hf, hn, hk2⟩
    · rw [show ((2 : Nat) : Int) = 2 from rfl] at hf
      have Ht := Lib.hid (show textR bs most (.ok k) = ([], .bad k false) by simp only [textR, countR, hf])
      rw [hf] at HF
      have Hf := Lib.hid hf
      clear hf hbb
      go_enter Tryz.func33, Tryz.ntmps33
      go_wp2_with fail
      refine HF.out.mono ?_
      rintro e w1 ⟨rfl, hG⟩
      obtain ⟨x1, cap1, k1, e1, b1, hI1⟩ := hG.rd
      obtain ⟨rfl, rfl, hk1⟩ := hI1.st
      obtain ⟨d0, d1, d2, d3⟩ := hI1.cells
      have HG := Lib.hid hG
      unfold errCode at d2
      clear hG hI1 c0 c1 c2 c3
      go_wp2_with fail
      go_quiet (fail)
      go_wp2_with fail
      go_ret
      rw [Ht.out]
      exact ⟨_, rfl, World.ownsRow_nil _ _ _ _, HG.out.on (drewN_below (Below.refl _ _) _)⟩
    · rw [show ((2 : Nat) : Int) = 2 from rfl] at hf hn
      rw [hf] at HF
      have hn : (n : Int) ≤ 65535 := hn
      have Hbb := Lib.hid hbb
      by_cases hm : (n : Int) > most
      · have Ht := Lib.hid (show textR bs most (.ok k) = ([], .bad k true) by simp only [textR, countR, hf]; rw [if_pos hm])
        clear hf hbb
        go_enter Tryz.func33, Tryz.ntmps33
        go_wp2_with fail
        refine HF.out.mono ?_
        rintro e w1 ⟨rfl, hG⟩
        have hFl := rrfail_any w1 g bs (k + 2) k true hG.rd
        obtain ⟨x1, cap1, k1, e1, b1, hI1⟩ := hG.rd
        obtain ⟨rfl, rfl, rfl, hk1⟩ := hI1.st
        obtain ⟨d0, d1, d2, d3⟩ := hI1.cells
        have HG := Lib.hid hG
        unfold errCode at hFl
        have HFl := Lib.hid hFl
        clear hG hI1 c0 c1 c2 c3 hFl
        go_wp2_with fail
        refine HFl.out.mono ?_
        rintro e w2 ⟨rfl, hG2⟩
        obtain ⟨x2, cap2, k2, e2, b2, hI2⟩ := hG2.rd
        obtain ⟨rfl, rfl, hk2⟩ := hI2.st
        obtain ⟨d0, d1, d2, d3⟩ := hI2.cells
        have HG2 := Lib.hid (HG.out.trans hG2)
        unfold errCode at d2
        clear hG2 hI2
        go_wp2_with fail
        go_quiet (fail)
        go_wp2_with fail
        go_ret
        rw [Ht.out]
        exact ⟨_, rfl, World.ownsRow_nil _ _ _ _, HG2.out.on (drewN_below (Below.refl _ _) _)⟩
      · have hm2 : decide (most < (n : Int)) = false := decide_eq_false hm
        by_cases hs : (n : Int) > (bs.length : Int) - ((k : Int) + 2)
        · have Ht := Lib.hid (show textR bs most (.ok k) = ([], .bad k false) by simp only [textR, countR, hf]; rw [if_neg hm, if_pos (by omega)])
          clear hf hbb
          go_enter Tryz.func33, Tryz.ntmps33
          go_wp2_with fail
          refine HF.out.mono ?_
          rintro e w1 ⟨rfl, hG⟩
          have HFl := Lib.hid (fun m => rrfail_any (w1.drewN m) g bs (k + 2) k false (hG.rd.drewN m))
          obtain ⟨x1, cap1, k1, e1, b1, hI1⟩ := hG.rd
          obtain ⟨rfl, rfl, rfl, hk1⟩ := hI1.st
          obtain ⟨d0, d1, d2, d3⟩ := hI1.cells
          have HG := Lib.hid hG
          unfold errCode at HFl
          clear hG hI1 c0 c1 c2 c3
          go_wp2_with fail
          go_quiet (fail)
          go_wp2_with fail
          refine (HFl.out _).mono ?_
          rintro e w2 ⟨rfl, hG2⟩
          obtain ⟨x2, cap2, k2, e2, b2, hI2⟩ := hG2.rd
          obtain ⟨rfl, rfl, hk2⟩ := hI2.st
          obtain ⟨d0, d1, d2, d3⟩ := hI2.cells
          have HG2 := Lib.hid ((HG.out.on (drewN_below (Below.refl _ _) _)).trans hG2)
          unfold errCode at d2
          clear hG2 hI2
          go_wp2_with fail
          go_ret
          rw [Ht.out]
          exact ⟨_, rfl, World.ownsRow_nil _ _ _ _, HG2.out⟩
        · have hfit : k + 2 + n ≤ bs.length := by omega
          have Ht := Lib.hid (show textR bs most (.ok k) = ((bs.drop (k + 2)).take n, .ok (k + 2 + n)) by simp only [textR, countR, hf]; rw [if_neg hm, if_neg (by omega)]; rfl)
          have hs2 : decide ((bs.length : Int) - ((k : Int) + 2) < (n : Int)) = false := decide_eq_false (by omega)
          clear hf hbb
          go_enter Tryz.func33, Tryz.ntmps33
          go_wp2_with fail
          refine HF.out.mono ?_
          rintro e w1 ⟨rfl, hG⟩
          obtain ⟨x1, cap1, k1, e1, b1, hI1⟩ := hG.rd
          obtain ⟨rfl, rfl, rfl, hk1⟩ := hI1.st
          obtain ⟨d0, d1, d2, d3⟩ := hI1.cells
          have HG := Lib.hid hG
          have HI1 := Lib.hid hI1
          have hcap1 := hI1.fit
          rw [show ((k + 2 : Nat) : Int) = (k : Int) + 2 by omega] at d1
          have f1 := hI1.free 1
          clear hG hI1 c0 c1 c2 c3
          go_wp2_with fail
          go_quiet (fail)
          go_upto_region 10 with fail
          have hb := HI1.out.blk.below (drewN_below (Below.refl _ _) nq) HI1.out.blk.lt
          have hg := grown_at (grown_below (drewN_below (Below.refl w1.heap.size w1) nq) (some g)) 1 (.int .i64 ((k : Int) + 2 + (n : Int)))
          have hI2 : RrIs lo ((w1.drewN nq).setCell ⟨g, 1, none⟩ (.int .i64 ((k : Int) + 2 + (n : Int)))) g bs (.ok (k + 2 + n)) x1 cap1 (k + 2 + n) 0 0 := HI1.out.turn hg (by
            have := hb.set1 1 (.int .i64 ((k : Int) + 2 + (n : Int)))
            rw [show ((k + 2 + n : Nat) : Int) = (k : Int) + 2 + (n : Int) by omega]; exact this) ⟨rfl, rfl, rfl, hfit⟩
          have HG2 := Lib.hid (HG.out.trans ⟨⟨_, _, _, _, _, hI2⟩, hg⟩)
          generalize (w1.drewN nq).setCell ⟨g, 1, none⟩ (.int .i64 ((k : Int) + 2 + (n : Int))) = w2 at *
          obtain ⟨e0, e1, _, _⟩ := hI2.cells
          rw [show ((k + 2 + n : Nat) : Int) = (k : Int) + 2 + (n : Int) by omega] at e1
          have HI2 := Lib.hid hI2
          clear hb hg hI2 d0 d1 d2 d3 f1
          have hcr := fun w => cut_run3 x1 bs.length (k + 2) (k + 2 + n) cap1 w (by omega) (by omega) hcap1.2
          rw [show ((k + 2 : Nat) : Int) = (k : Int) + 2 by omega, show ((k + 2 + n : Nat) : Int) = (k : Int) + 2 + (n : Int) by omega, show k + 2 + n - (k + 2) = n by omega] at hcr
          have q1 : IntKind.i64.wrap ((k : Int) + 2 + (n : Int) - (n : Int)) = (k : Int) + 2 := by rw [IntWalk.i64_in _ (by omega)]; omega
          have q2 : IntKind.i64.wrap ((k : Int) + 2) = (k : Int) + 2 := IntWalk.i64_in _ (by omega)
          have p0 : (0 : Int) ≤ (k : Int) + 2 := by omega
          have p1 : (k : Int) + 2 ≤ (k : Int) + 2 + (n : Int) := by omega
          have p2 : (k : Int) + 2 + (n : Int) ≤ (cap1 : Int) := by omega
          have hbE := below_new w2 (.cells #[] 5)
          have HbE := Lib.hid hbE
          have g0 := cell_below e0 hbE
          have g1 := cell_below e1 hbE
          have hown0 := World.ownsRow_lit (base := w2.heap.size) (e := 5) (size := 1) w2 #[] 0 (Nat.le_refl _) (Nat.zero_le _) (by simp)
          have Hown0 := Lib.hid hown0
          have hzc : BytesAt (w2.alloc (.cells #[] 5)) (cutAt x1 cap1 (k + 2)) ((bs.drop (k + 2)).take n) := front_reads ((cut_reads HI2.out.bytes hcap1.1).below hbE)
          have Hzc := Lib.hid hzc
          have Hlen := Lib.hid (show ((bs.drop (k + 2)).take n).length = n by rw [List.length_take, List.length_drop]; omega)
          have Hnil := Lib.hid (show cutAt x1 cap1 (k + 2) = none → cap1 - (k + 2) = 0 from fun e => by
            unfold cutAt at e
            split at e
            · have := HI2.out.nil e; omega
            · cases x1 with
              | none => have := HI2.out.nil rfl; omega
              | some a => cases e)
          clear hbE hown0 hzc
          go_region_held3 (fun w' => w'.cell? ⟨g, 0, none⟩ = some (.slice x1 bs.length cap1) ∧ w'.cell? ⟨g, 1, none⟩ = some (.int .i64 ((k : Int) + 2 + (n : Int)))) (first | exact ⟨e0, e1⟩ | exact ⟨g0, g1⟩ | exact ⟨m0, m1⟩) ((refine step_append_bytes (by rfl) _ _ (by rfl) w2.heap.size _ 0 [] (by rfl) (by first | exact Hown0.out | exact Hown0.out.drew) _ ((bs.drop (k + 2)).take n) n _ (by rfl) Hlen.out (by first | exact Hzc.out | exact Hzc.out.drewN 1) Hnil.out (by omega) (by first | exact HbE.out.size | exact HbE.out.drew.size) ?_; intro v3 w3 hown3 hgrow3 hlies; rw [Nat.zero_add, List.nil_append] at hown3; obtain ⟨Y, yc, hv3, _, _⟩ := own_slice hown3; subst hv3; have m0 := hgrow3.cell g0 (fun e => absurd (Option.some.inj (show some g = some w2.heap.size from e)) (by have := HI2.out.blk.lt; omega)); have m1 := hgrow3.cell g1 (fun e => absurd (Option.some.inj (show some g = some w2.heap.size from e)) (by have := HI2.out.blk.lt; omega)); have Hend := Lib.hid (show (w2.alloc (.cells #[] 5)).grownBy w3 (some w2.heap.size) from (by first | exact hgrow3 | exact ⟨hgrow3.os, hgrow3.tape, hgrow3.output, hgrow3.size, hgrow3.block⟩)); have Hown3 := Lib.hid hown3; clear hown3 hgrow3 hlies))
          all_goals (go_wp2_with fail)
          all_goals go_ret
          all_goals
            rw [Ht.out]
            refine ⟨_, rfl, own_same (own_base Hown3.out HG2.out.fr.size) Hlen.out.symm rfl, HG2.out.on ?_⟩
            exact HbE.out.grown Hend.out (by simp) (fun j e => by cases e; exact Nat.le_refl _)
end Go.Proofs.YtifoiiaddcgngaaGreatDoor
