/- The document's own writer: many fields, texts, rows, entries, and what it has. -/
import Derived.Test.YtifoiiaddcgngaaGreatDoorRefField
import Derived.Test.YtifoiiaddcgngaaGreatDoorKitSame
namespace Go.Proofs.YtifoiiaddcgngaaGreatDoor
open Go.RowKit
theorem Chg.cell {T : Nat → Prop} {w w' : World} (c : Chg T w w') {a : Addr} {v : Value} (h : w.cell? a = some v) (hT : ¬ T a.block) : w'.cell? a = some v :=
  (World.cell?_of_block (c.block a.block (World.block_lt_of_cell? _ _ h) hT)).trans h
theorem IntsAt.chg {T : Nat → Prop} {w w' : World} {A : Option Addr} {ns : List Int} (h : IntsAt w A ns) (c : Chg T w w') (hA : ns ≠ [] → ∀ a, A = some a → ¬ T a.block) : IntsAt w' A ns :=
  ⟨h.1, fun hne => by
    obtain ⟨b, off, rfl, hc⟩ := h.2 hne
    exact ⟨b, off, rfl, fun i hi => c.cell (hc i hi) (hA hne ⟨b, off, none⟩ rfl)⟩⟩
theorem BytesAt.chg {T : Nat → Prop} {w w' : World} {A : Option Addr} {zs : List Int} (h : BytesAt w A zs) (c : Chg T w w') (hA : zs ≠ [] → ∀ a, A = some a → ¬ T a.block) : BytesAt w' A zs :=
  ⟨h.1, fun hne => by
    obtain ⟨b, off, rfl, hc⟩ := h.2 hne
    exact ⟨b, off, rfl, fun i hi => c.cell (hc i hi) (hA hne ⟨b, off, none⟩ rfl)⟩⟩
theorem BytesAt.off_grow {T : Nat → Prop} {w w' : World} {A : Option Addr} {zs : List Int} (h : BytesAt w A zs) (hA : zs ≠ [] → ∀ a, A = some a → ¬ T a.block) : zs ≠ [] → ∀ a, A = some a → ¬ grow T w w' a.block := by
  intro hne a ha hg
  rcases hg with hg | hg
  · exact hA hne a ha hg
  · obtain ⟨b, off, e, hc⟩ := h.2 hne
    have h0 := World.block_lt_of_cell? _ _ (hc 0 (List.length_pos_iff.2 hne))
    rw [ha] at e
    obtain rfl := Option.some.inj e
    simp only at h0 hg; omega
theorem fieldsB_snoc (wd : Int) (xs : List Int) (n : Int) : putO (fieldsB wd xs) (fieldsB wd [n]) = fieldsB wd (xs ++ [n]) := by
  unfold fieldsB
  by_cases ht : top wd < 0
  · simp [ht, putO]
  · simp only [if_neg ht]
    unfold inTop
    rw [List.all_append]
    cases h1 : xs.all fun n => decide (0 ≤ n ∧ n ≤ top wd) <;> cases h2 : [n].all fun n => decide (0 ≤ n ∧ n ≤ top wd) <;> simp [putO]
theorem fieldsB_nil (wd : Int) (s : Option (List Int)) (h : 0 ≤ top wd) : putO s (fieldsB wd []) = s := by
  rw [fieldsB_ok wd [] h (by simp)]; exact putO_nil s
theorem RefAt.bad {w : World} {T : Nat → Prop} {h m : Nat} {s : Option (List Int)} (k : RefAt w T h s m) : RPut w T h none m (w.setCell ⟨h, 1, none⟩ (.bool true)) := by
  obtain ⟨bv, bs, sp, k, hm, hs⟩ := k
  exact ⟨⟨bv, bs, true, k.spoil.1, hm, rfl⟩, k.spoil.2⟩
theorem RefAt.cells {w : World} {T : Nat → Prop} {h m : Nat} {s : Option (List Int)} (k : RefAt w T h s m) : ∃ bv sp, w.cell? ⟨h, 0, none⟩ = some bv ∧ w.cell? ⟨h, 1, none⟩ = some (.bool sp) ∧ w.frozen? ⟨h, 0, none⟩ = false ∧ w.frozen? ⟨h, 1, none⟩ = false := by
  obtain ⟨bv, bs, sp, k, hm, hs⟩ := k
  exact ⟨bv, sp, ref_cells k.blk⟩
theorem take_snoc_ints (ns : List Int) (j : Nat) (hj : j < ns.length) : ns.take (j + 1) = ns.take j ++ [ns.getD j 0] := by
  rw [List.take_add_one, List.getD_eq_getElem?_getD, List.getElem?_eq_getElem hj]; rfl
set_option maxRecDepth 100000 in
set_option maxHeartbeats 2000000 in
theorem refFields_any (w : World) (T : Nat → Prop) (h : Nat) (s : Option (List Int)) (m : Nat) (k : RefAt w T h s m) (wd : Int) (A : Option Addr) (c : Nat) (ns : List Int) (hz : IntsAt w A ns) (hA : ns ≠ [] → ∀ a, A = some a → ¬ T a.block) (hm : m + 6 * ns.length ≤ 1000000000) :
    Calls Tryz.prog 14 #[.pointer (some ⟨h, 0, none⟩), .int .i64 wd, .slice A ns.length c] w fun e w' => e = .returned (.tuple #[]) ∧ RPut w T h (putO s (fieldsB wd ns)) (m + 6 * ns.length) w' := by
  obtain ⟨bv, sp, c0, c1, f0, f1⟩ := k.cells
  have HT := Lib.hid (rtop_any wd w)
  have hst : ∀ w1, RPut w T h (putO s (fieldsB wd [])) m w1 → RPut w T h (putO s (fieldsB wd (ns.take 0))) (m + 6 * 0) w1 := fun w1 h => h
  have Hst := Lib.hid hst
  have Hk := Lib.hid k
  have Hz := Lib.hid (And.intro hz hA)
  clear hst k hz hA
  by_cases ht : top wd < 0
  · have Hi := Lib.hid (show RPut w T h (putO s (fieldsB wd [])) m (w.setCell ⟨h, 1, none⟩ (.bool true)) by rw [fieldsB_bad _ _ ht, putO_none]; exact Hk.out.bad)
    go_enter Tryz.func14, Tryz.ntmps14
    go_wp2_with fail
    refine HT.out.mono ?_
    rintro e w' ⟨rfl, rfl⟩
    go_wp2_with fail
    go_loopg [6] ns.length (fun g i wx => ∃ j : Nat, g = ns.length - j ∧ j ≤ ns.length ∧ i = .int .i64 (j : Int) ∧ Hid (RPut w T h (putO s (fieldsB wd (ns.take j))) (m + 6 * j) wx))
    case atStart => exact ⟨0, rfl, by omega, rfl, Lib.hid (Hst.out _ Hi.out)⟩
    case round =>
      clear c0 c1 f0 f1
      obtain ⟨j, hgj, hj, rfl, hk⟩ := hrel
      have Hgj := Lib.hid hgj; clear hgj
      by_cases hlt : j < ns.length
      · obtain ⟨b, off, rfl⟩ := Hz.out.1.some_ (by intro e; simp [e] at hlt)
        have hz2 := Hz.out.1.chg hk.out.fr Hz.out.2
        have d1 := hz2.one j hlt
        have hbd := hz2.bd j hlt
        have Htk := Lib.hid (take_snoc_ints ns j hlt)
        generalize ns.getD j 0 = n at *
        have HF := Lib.hid (refField_any wr (grow T w wr) h _ _ hk.out.rf wd n (by omega) hbd)
        clear hz2
        go_wp2_with fail
        refine HF.out.mono ?_
        rintro e w2 ⟨rfl, hP⟩
        have HP := Lib.hid (hk.out.trans hP Hk.out.foot)
        clear hP HF
        go_wp2_with fail
        go_roundg (ns.length - (j + 1))
        case measure => rw [Hgj.out]; omega
        case rel => exact ⟨j + 1, rfl, by omega, by go_num, Lib.hid (by rw [Htk.out, ← fieldsB_snoc, ← putO_assoc]; exact HP.out)⟩
      · obtain rfl : ns.length = j := by omega
        go_wp2_with fail
        go_end0
        have hf := hk.out
        rw [List.take_length] at hf
        exact ⟨rfl, hf⟩
  · have Hi := Lib.hid (show RPut w T h (putO s (fieldsB wd [])) m w by rw [fieldsB_nil _ _ (by omega)]; exact RPut.same Hk.out)
    have hnt : decide (top wd < 0) = false := decide_eq_false ht
    go_enter Tryz.func14, Tryz.ntmps14
    go_wp2_with fail
    refine HT.out.mono ?_
    rintro e w' ⟨rfl, rfl⟩
    go_wp2_with fail
    go_loopg [6] ns.length (fun g i wx => ∃ j : Nat, g = ns.length - j ∧ j ≤ ns.length ∧ i = .int .i64 (j : Int) ∧ Hid (RPut w T h (putO s (fieldsB wd (ns.take j))) (m + 6 * j) wx))
    case atStart => exact ⟨0, rfl, by omega, rfl, Lib.hid (Hst.out _ Hi.out)⟩
    case round =>
      clear c0 c1 f0 f1
      obtain ⟨j, hgj, hj, rfl, hk⟩ := hrel
      have Hgj := Lib.hid hgj; clear hgj
      by_cases hlt : j < ns.length
      · obtain ⟨b, off, rfl⟩ := Hz.out.1.some_ (by intro e; simp [e] at hlt)
        have hz2 := Hz.out.1.chg hk.out.fr Hz.out.2
        have d1 := hz2.one j hlt
        have hbd := hz2.bd j hlt
        have Htk := Lib.hid (take_snoc_ints ns j hlt)
        generalize ns.getD j 0 = n at *
        have HF := Lib.hid (refField_any wr (grow T w wr) h _ _ hk.out.rf wd n (by omega) hbd)
        clear hz2
        go_wp2_with fail
        refine HF.out.mono ?_
        rintro e w2 ⟨rfl, hP⟩
        have HP := Lib.hid (hk.out.trans hP Hk.out.foot)
        clear hP HF
        go_wp2_with fail
        go_roundg (ns.length - (j + 1))
        case measure => rw [Hgj.out]; omega
        case rel => exact ⟨j + 1, rfl, by omega, by go_num, Lib.hid (by rw [Htk.out, ← fieldsB_snoc, ← putO_assoc]; exact HP.out)⟩
      · obtain rfl : ns.length = j := by omega
        go_wp2_with fail
        go_end0
        have hf := hk.out
        rw [List.take_length] at hf
        exact ⟨rfl, hf⟩

set_option maxRecDepth 100000 in
set_option maxHeartbeats 2000000 in
theorem refRow_any (w : World) (T : Nat → Prop) (h : Nat) (s : Option (List Int)) (m : Nat) (k : RefAt w T h s m) (A : Option Addr) (c : Nat) (ns : List Int) (hz : IntsAt w A ns) (hA : ns ≠ [] → ∀ a, A = some a → ¬ T a.block) (hm : m + 6 * ns.length + 6 ≤ 1000000000) :
    Calls Tryz.prog 18 #[.pointer (some ⟨h, 0, none⟩), .slice A ns.length c] w fun e w' => e = .returned (.tuple #[]) ∧ RPut w T h (putO s (rowB ns)) (m + 6 + 6 * ns.length) w' := by
  have HF1 := Lib.hid (refField_any w T h s m k 1 (ns.length : Int) (by omega) (by omega))
  have Hk := Lib.hid k
  have Hz := Lib.hid (And.intro hz hA)
  clear k hz hA
  go_enter Tryz.func18, Tryz.ntmps18
  go_wp2_with fail
  refine HF1.out.mono ?_
  rintro e w1 ⟨rfl, hP1⟩
  have Hi := Lib.hid hP1
  clear hP1 HF1
  go_wp2_with fail
  go_loopg [4] ns.length (fun g i wx => ∃ j : Nat, g = ns.length - j ∧ j ≤ ns.length ∧ i = .int .i64 (j : Int) ∧ Hid (RPut w T h (putO (putO s (fieldsB 1 [(ns.length : Int)])) (fieldsB 6 (ns.take j))) (m + 6 + 6 * j) wx))
  case atStart => exact ⟨0, rfl, by omega, rfl, Lib.hid (by
    have := Hi.out
    rw [List.take_zero, fieldsB_nil 6 _ (by decide)]; exact this)⟩
  case round =>
    obtain ⟨j, hgj, hj, rfl, hk⟩ := hrel
    have Hgj := Lib.hid hgj; clear hgj
    by_cases hlt : j < ns.length
    · obtain ⟨b, off, rfl⟩ := Hz.out.1.some_ (by intro e; simp [e] at hlt)
      have hz2 := Hz.out.1.chg hk.out.fr Hz.out.2
      have d1 := hz2.one j hlt
      have hbd := hz2.bd j hlt
      have Htk := Lib.hid (take_snoc_ints ns j hlt)
      generalize ns.getD j 0 = n at *
      have HF := Lib.hid (refField_any wr (grow T w wr) h _ _ hk.out.rf 6 n (by omega) hbd)
      clear hz2
      go_wp2_with fail
      refine HF.out.mono ?_
      rintro e w2 ⟨rfl, hP⟩
      have HP := Lib.hid (hk.out.trans hP Hk.out.foot)
      clear hP HF
      go_wp2_with fail
      go_roundg (ns.length - (j + 1))
      case measure => rw [Hgj.out]; omega
      case rel => exact ⟨j + 1, rfl, by omega, by go_num, Lib.hid (by rw [Htk.out, ← fieldsB_snoc, ← putO_assoc]; exact HP.out)⟩
    · obtain rfl : ns.length = j := by omega
      go_wp2_with fail
      go_end0
      have hf := hk.out
      rw [List.take_length, putO_assoc] at hf
      exact ⟨rfl, hf⟩

/-- append onto bytes that are owned, the source nil or not; where what is told lies. -/
theorem wpList_append_bytes_at {w : World} {ops : Array Oper} {rest : List Oper} {o : Oper} {a : Act} {Q : Exit → Act → World → Prop} (hgd : o.guard = none) (s x : Operand)
    (ho : o.op = .call { callee := .builtin .append, args := #[s, x], argTypes := #[23, 23] }) (base : Nat) (v : Value) (n : Nat) (xs : List Int) (hs : a.eval s = v) (hown : w.ownsRow base 5 1 v n (u8s xs))
    (A : Option Addr) (zs : List Int) (m c : Nat) (hx : a.eval x = .slice A m c) (hm : zs.length = m) (hz : BytesAt w A zs) (hA : A = none → c = 0) (hb : n + m ≤ 140737488355328) (hbase : base ≤ w.heap.size)
    (h : ∀ v' w', w'.ownsRow base 5 1 v' (n + m) (u8s (xs ++ zs)) → w.grownBy w' v.ownBlock → (v'.ownBlock = v.ownBlock ∨ ∃ b, v'.ownBlock = some b ∧ w.heap.size ≤ b) → wpList Tryz.prog ops Q rest (a.put o.dst v') w') : wpList Tryz.prog ops Q (o :: rest) a w := by
  obtain ⟨i0, hi, hz0, hz1, hz2⟩ := info_parts infoByte
  subst hm
  cases A with
  | none =>
    have hnil : zs = [] := by
      apply Classical.byContradiction
      intro hne
      obtain ⟨b, off, e⟩ := hz.some_ hne
      cases e
    subst hnil
    obtain rfl : c = 0 := hA rfl
    refine wpList_append_own_none hgd s x 23 ho base 5 i0 1 Tryz.underlying23 hi v n (u8s xs) hs hown hx ?_
    exact h v w (own_same hown (by simp) (by simp)) (World.grownBy.refl _ _) (.inl rfl)
  | some ad =>
    have hsrc : ∀ j u, (u8s zs)[j]? = some u → w.cell? (ad.add j) = some u := fun j u hj => by
      have hne : zs ≠ [] := by intro e; subst e; simp [u8s] at hj
      obtain ⟨b, off, e, hc⟩ := hz.2 hne
      obtain rfl : ad = ⟨b, off, none⟩ := by simpa using e
      simp only [u8s, List.getElem?_map] at hj
      cases hq : zs[j]? with
      | none => simp [hq] at hj
      | some z =>
        obtain rfl : Value.int .u8 z = u := by simpa [hq] using hj
        have h1 := hc j (List.getElem?_eq_some_iff.1 hq).1
        rw [List.getD_eq_getElem?_getD, hq] at h1
        have hadd : (⟨b, off, none⟩ : Addr).add j = ⟨b, off + j, none⟩ := by unfold Addr.add; split <;> simp_all
        rw [hadd]; exact h1
    refine wpList_append_own_at _ hgd s x 23 ho base 5 i0 (.int .u8 0) 1 1 Tryz.underlying23 hi hz0 hz1 hz2 rfl (by decide) v n (u8s xs) hs hown ad zs.length c (u8s zs) hx (by rw [u8s_len, Nat.mul_one]) hsrc (u8s_one zs) (by unfold maxLen; omega) (by omega) hbase ?_
    intro v' w' hown' hg _ hl
    exact h v' w' (own_same hown' rfl (by rw [u8s_app])) hg (hl.imp id fun e => ⟨_, e, Nat.le_refl _⟩)
set_option maxRecDepth 100000 in
set_option maxHeartbeats 2000000 in
theorem refText_any (w : World) (T : Nat → Prop) (h : Nat) (s : Option (List Int)) (m : Nat) (k : RefAt w T h s m) (A : Option Addr) (c : Nat) (zs : List Int) (hz : BytesAt w A zs) (hA : zs ≠ [] → ∀ a, A = some a → ¬ T a.block) (hn : A = none → c = 0) (hm : m + zs.length + 6 ≤ 1000000000) :
    Calls Tryz.prog 16 #[.pointer (some ⟨h, 0, none⟩), .slice A zs.length c] w fun e w' => e = .returned (.tuple #[]) ∧ RPut w T h (putO s (textB zs)) (m + 6 + zs.length) w' := by
  have HF1 := Lib.hid (refField_any w T h s m k 2 (zs.length : Int) (by omega) (by omega))
  have Hk := Lib.hid k
  have Hz := Lib.hid (And.intro hz hA)
  clear k hz hA
  go_enter Tryz.func16, Tryz.ntmps16
  go_wp2_with fail
  refine HF1.out.mono ?_
  rintro e w1 ⟨rfl, hP1⟩
  have hz1 := Hz.out.1.chg hP1.fr Hz.out.2
  obtain ⟨bv, bs, sp, hC, hbm, hs⟩ := hP1.rf
  obtain ⟨X, cap, rfl, _, hcm⟩ := own_slice hC.own
  obtain ⟨c0, c1, f0, f1⟩ := ref_cells hC.blk
  have HC := Lib.hid (And.intro hC (And.intro hs (And.intro hP1 hz1)))
  clear hC hs hP1 HF1 c1 f1 hz1
  go_wp2_with (at_builtin; refine wpList_append_bytes_at rfl _ _ rfl 0 _ _ _ rfl HC.out.1.own A zs zs.length c rfl rfl HC.out.2.2.2 hn (by omega) (Nat.zero_le _) ?_)
  intro v2 w2 hown2 hgrow2 hlies
  obtain ⟨hD, hX⟩ := HC.out.1.app (ys := zs) (Below.refl _ _) Hz.out.1.1 rfl rfl hown2 hgrow2 hlies
  have hblk2 := HC.out.1.blk.kept hgrow2 (fun e => HC.out.1.off e.symm)
  obtain ⟨d0, d1, e0, e1⟩ := ref_cells hblk2
  obtain ⟨Y, yc, rfl, _, _⟩ := own_slice hown2
  have HS := Lib.hid (And.intro hD hX)
  clear hD hX hblk2 hown2 hgrow2 hlies c0 f0 d1 e1
  go_wp2_with fail
  go_end0
  refine ⟨rfl, HC.out.2.2.1.trans (w2 := _) (m2 := m + 6 + zs.length) (s2 := putO s (textB zs)) ⟨⟨_, bs ++ zs, sp, HS.out.1, by rw [List.length_append]; omega, ?_⟩, HS.out.2⟩ Hk.out.foot⟩
  have hs := HC.out.2.1
  rw [textB_put, ← putO_assoc, hs]
  cases sp <;> rfl
set_option maxRecDepth 100000 in
theorem refRight_any (w : World) (e : Ent) (A : Option Addr) (c : Nat) (hl : e.body.length ≤ 9223372036854775807) :
    Calls Tryz.prog 28 #[.agg #[.int .i64 e.index, .int .i64 e.term, .int .i64 e.kind, .slice A e.body.length c]] w fun r w' => r = .returned (.bool (rightB e)) ∧ Below w.heap.size w w' := by
  obtain ⟨x, t, k, body⟩ := e
  simp only at hl ⊢
  have hn := below_new w (.cells #[.int .i64 x, .int .i64 t, .int .i64 k, .slice A body.length c] 28)
  go_enter Tryz.func28, Tryz.ntmps28
  go_wp2
  all_goals
    go_ret
    refine ⟨ret_bool ?_, hn⟩
    unfold rightB
    first | exact (decide_eq_false (by simp only; omega)).symm | (rw [decide_eq_decide]; simp only; omega)
theorem agg_ent (e : Ent) (A : Option Addr) (c : Nat) : entV e A c = .agg #[.int .i64 e.index, .int .i64 e.term, .int .i64 e.kind, .slice A e.body.length c] := rfl
set_option maxRecDepth 100000 in
set_option maxHeartbeats 4000000 in
theorem refEntry_any (w : World) (T : Nat → Prop) (h : Nat) (s : Option (List Int)) (m : Nat) (k : RefAt w T h s m) (E : Ent) (A : Option Addr) (c : Nat) (hz : BytesAt w A E.body) (hA : E.body ≠ [] → ∀ a, A = some a → ¬ T a.block) (hn : A = none → c = 0) (hm : m + E.body.length + 24 ≤ 1000000000) (_hE : i64ok E.index ∧ i64ok E.term ∧ i64ok E.kind) :
    Calls Tryz.prog 20 #[.pointer (some ⟨h, 0, none⟩), .agg #[.int .i64 E.index, .int .i64 E.term, .int .i64 E.kind, .slice A E.body.length c]] w fun e w' => e = .returned (.tuple #[]) ∧ RPut w T h (putO s (entryB E)) (m + 24 + E.body.length) w' := by
  have hbn := below_new w (.cells #[.int .i64 E.index, .int .i64 E.term, .int .i64 E.kind, .slice A E.body.length c] 28)
  have hblk : BlockIs (w.alloc (.cells #[.int .i64 E.index, .int .i64 E.term, .int .i64 E.kind, .slice A E.body.length c] 28)) w.heap.size 28 #[.int .i64 E.index, .int .i64 E.term, .int .i64 E.kind, .slice A E.body.length c] := BlockIs.made _ _ _
  have hT : ¬ T w.heap.size := fun e => by have := k.foot _ e; omega
  have HR := fun w => refRight_any w E A c (by omega)
  have Hk := Lib.hid k
  have HZ := Lib.hid (And.intro hz (And.intro hA hT))
  clear k hz hA hT
  go_enter Tryz.func20, Tryz.ntmps20
  go_wp2_with fail
  generalize w.alloc _ = w1 at *
  refine (HR w1).mono ?_
  rintro e w2 ⟨rfl, hb2⟩
  have hb02 : Below w.heap.size w w2 := hbn.trans (hb2.mono hbn.size)
  have hblk2 := hblk.below hb2 hblk.lt
  have hk2 := Hk.out.below hb02
  have hz2 := HZ.out.1.below hb02
  have HK := Lib.hid (And.intro hk2 (And.intro hz2 (And.intro hblk2 hb02)))
  clear hbn hblk hb2 hb02 hk2 hz2 HR hblk2
  by_cases hr : rightB E = true
  · rw [hr]
    have HE := Lib.hid (entryB_put E hr)
    clear hr
    have hT2 : ∀ k, T k → k ≠ w.heap.size := fun k hk e => HZ.out.2.2 (e ▸ hk)
    have q1 : w2.cell? ⟨w.heap.size, 2, none⟩ = some (.int .i64 E.kind) := HK.out.2.2.1.cell 2
    have HF1 := Lib.hid (refField_any w2 T h s m HK.out.1 1 E.kind (by omega) _hE.2.2)
    go_wp2_with fail
    refine HF1.out.mono ?_
    rintro e w3 ⟨rfl, hP1⟩
    have hf2 := HK.out.1.foot
    have hb3 : BlockIs w3 w.heap.size 28 #[.int .i64 E.index, .int .i64 E.term, .int .i64 E.kind, .slice A E.body.length c] := (hP1.fr.block _ HK.out.2.2.1.lt HZ.out.2.2).trans HK.out.2.2.1
    have q2 : w3.cell? ⟨w.heap.size, 0, none⟩ = some (.int .i64 E.index) := hb3.cell 0
    have HF2 := Lib.hid (refField_any w3 _ h _ _ hP1.rf 6 E.index (by omega) _hE.1)
    have HP1 := Lib.hid (And.intro hP1 (And.intro hf2 hb3))
    clear hP1 HF1 q1 hf2 hb3
    go_wp2_with fail
    refine HF2.out.mono ?_
    rintro e w4 ⟨rfl, hP2⟩
    have hPA := HP1.out.1.trans hP2 HP1.out.2.1
    have hb4 : BlockIs w4 w.heap.size 28 #[.int .i64 E.index, .int .i64 E.term, .int .i64 E.kind, .slice A E.body.length c] := (hPA.fr.block _ HK.out.2.2.1.lt HZ.out.2.2).trans HK.out.2.2.1
    have q3 : w4.cell? ⟨w.heap.size, 1, none⟩ = some (.int .i64 E.term) := hb4.cell 1
    have HF3 := Lib.hid (refField_any w4 _ h _ _ hPA.rf 6 E.term (by omega) _hE.2.1)
    have HP2 := Lib.hid hPA
    clear hP2 HF2 q2 hPA hb4
    go_wp2_with fail
    refine HF3.out.mono ?_
    rintro e w5 ⟨rfl, hP3⟩
    have hPB := HP2.out.trans hP3 HP1.out.2.1
    have hb5 : BlockIs w5 w.heap.size 28 #[.int .i64 E.index, .int .i64 E.term, .int .i64 E.kind, .slice A E.body.length c] := (hPB.fr.block _ HK.out.2.2.1.lt HZ.out.2.2).trans HK.out.2.2.1
    have q4 : w5.cell? ⟨w.heap.size, 3, none⟩ = some (.slice A E.body.length c) := hb5.cell 3
    have hz5 := HK.out.2.1.chg hPB.fr HZ.out.2.1
    have hA5 : E.body ≠ [] → ∀ a, A = some a → ¬ grow T w2 w5 a.block := HK.out.2.1.off_grow HZ.out.2.1
    have HF4 := Lib.hid (refText_any w5 _ h _ _ hPB.rf A c E.body hz5 hA5 hn (by omega))
    have HP3 := Lib.hid hPB
    clear hP3 HF3 q3 hPB hb5 hz5 hA5
    go_wp2_with fail
    refine HF4.out.mono ?_
    rintro e w6 ⟨rfl, hP4⟩
    have hPC := HP3.out.trans hP4 HP1.out.2.1
    have HPC := Lib.hid hPC
    clear hP4 hPC HF4 q4
    go_wp2_with fail
    go_end0
    refine ⟨rfl, RPut.after HK.out.2.2.2 ?_ Hk.out.foot⟩
    have h1 := HPC.out.more (m' := m + 24 + E.body.length) (by omega)
    rw [HE.out]
    have h2 : putO (fieldsB 6 [E.index]) (fieldsB 6 [E.term]) = fieldsB 6 [E.index, E.term] := fieldsB_snoc 6 [E.index] E.term
    rw [← h2]
    simpa only [putO_assoc] using h1
  · have hrf : rightB E = false := by simpa using hr
    have HE := Lib.hid (show putO s (entryB E) = none by unfold entryB; rw [hrf]; exact putO_none s)
    have hP := HK.out.1.bad
    obtain ⟨bv, sp, c0, c1, f0, f1⟩ := HK.out.1.cells
    have HP := Lib.hid (hP.more (m' := m + 24 + E.body.length) (by omega))
    rw [hrf]
    clear hr hrf hP
    go_wp2_with fail
    refine ret_none rfl rfl ?_
    refine ⟨rfl, RPut.after HK.out.2.2.2 ?_ Hk.out.foot⟩
    rw [HE.out]; exact HP.out
theorem own_nil {w : World} {B : Nat} {e : TypeId} {size n cap : Nat} {X : Option Addr} {xs : List Value} (h : w.ownsRow B e size (.slice X n cap) n xs) : X = none → cap = 0 := by
  intro hX
  rcases h.2 with ⟨h', _⟩ | ⟨g, c, cur, h', _⟩
  · simp at h'; exact h'.2.2
  · subst hX; simp at h'
set_option maxRecDepth 100000 in
set_option maxHeartbeats 2000000 in
theorem refBytes_none (w : World) (T : Nat → Prop) (h m : Nat) (k : RefAt w T h none m) :
    Calls Tryz.prog 22 #[.pointer (some ⟨h, 0, none⟩)] w fun e w' => e = .returned (.tuple #[.slice none 0 0, .bool false]) ∧ w = w' := by
  obtain ⟨bv, bs, sp, k, hm, hs⟩ := k
  cases sp with
  | false => cases hs
  | true =>
    obtain ⟨c0, c1, _, _⟩ := ref_cells k.blk
    clear hs k
    go_enter Tryz.func22, Tryz.ntmps22
    go_wp2_with fail
    go_ret2
    exact ⟨rfl, rfl⟩
set_option maxRecDepth 100000 in
set_option maxHeartbeats 2000000 in
theorem refBytes_some (w : World) (T : Nat → Prop) (h m : Nat) (bs : List Int) (k : RefAt w T h (some bs) m) (hm : m ≤ 1000000000) :
    Calls Tryz.prog 22 #[.pointer (some ⟨h, 0, none⟩)] w fun e w' => ∃ v, e = .returned (.tuple #[v, .bool true]) ∧ w'.ownsRow w.heap.size 5 1 v bs.length (u8s bs) ∧ Below w.heap.size w w' ∧ bs.length ≤ m ∧ ∀ z ∈ bs, 0 ≤ z ∧ z < 256 := by
  obtain ⟨bv, bs', sp, k, hbm, hs⟩ := k
  cases sp with
  | true => cases hs
  | false =>
    obtain rfl : bs = bs' := by simpa using hs
    obtain ⟨c0, c1, _, _⟩ := ref_cells k.blk
    obtain ⟨X, cap, rfl, _, hcm⟩ := own_slice k.own
    have hz := own_reads k.own k.bd
    have hn := own_nil k.own
    have hlt := k.lt
    have hown0 := World.ownsRow_lit (base := w.heap.size) (e := 5) (size := 1) w #[] 0 (Nat.le_refl _) (Nat.zero_le _) (by simp)
    have hbE := below_new w (.cells #[] 5)
    have HH := Lib.hid (And.intro hz (And.intro hn (And.intro hown0 (And.intro hbE k.bd))))
    clear hs k hz hn hown0 hbE
    go_enter Tryz.func22, Tryz.ntmps22
    go_wp2_with (at_builtin; refine wpList_append_bytes_at rfl _ _ rfl w.heap.size _ _ [] rfl HH.out.2.2.1 X bs bs.length cap rfl rfl (HH.out.1.below HH.out.2.2.2.1) HH.out.2.1 (by omega) (by simp) ?_)
    intro v2 w2 hown2 hgrow2 _
    have hb2 := HH.out.2.2.2.1.grown hgrow2 (by simp) (fun j e => by have := (HH.out.2.2.1.lt j e).1; omega)
    have HS := Lib.hid (And.intro (own_same hown2 (m := bs.length) (ys := u8s bs) (by omega) (by simp)) hb2)
    clear hown2 hgrow2 hb2
    go_wp2_with fail
    go_ret2
    exact ⟨_, rfl, HS.out.1, HS.out.2, hbm, HH.out.2.2.2.2⟩
end Go.Proofs.YtifoiiaddcgngaaGreatDoor
