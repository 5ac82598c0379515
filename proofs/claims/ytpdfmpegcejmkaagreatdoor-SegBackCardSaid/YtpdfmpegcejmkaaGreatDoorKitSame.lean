/- append onto bytes that are owned, and a copy of a row of bytes, at a step of a region that draws its order. -/
/- limpetref08: whether an ident is one ahead of an index; a record. -/
/- seg: whether an ident is one ahead; how there can be no such record; an entry's ident. -/
/- The statements' own helpers: are two rows of numbers the same. -/
/- The statements' own helpers: are two entries the same. -/
import Derived.Test.YtpdfmpegcejmkaaGreatDoorKitChg
import Derived.Laws.AppendOwnNone
import Derived.Maps.AppendAt
import Derived.Test.YtpdfmpegcejmkaaGreatDoorRefEnt
import Derived.Test.YtpdfmpegcejmkaaGreatDoorSegModel
import Derived.Test.YtpdfmpegcejmkaaGreatDoorCodeRight
import Derived.Test.YtpdfmpegcejmkaaGreatDoorKitInts
import Derived.Test.YtpdfmpegcejmkaaGreatDoorCodeAdd
namespace Go.Proofs.YtpdfmpegcejmkaaGreatDoor
open Go.RowKit
/-- append onto bytes that are owned, at a step of a region that draws its order. -/
theorem step_append_own8 {w : World} {ops : Array Oper} {o : Oper} {a : Act} {K : Act → World → Prop} {Q : Exit → Act → World → Prop} {E : Prop} (hgd : o.guard = none) (s x : Operand)
    (ho : o.op = .call { callee := .builtin .append, args := #[s, x], argTypes := #[27, 27] }) (base : Nat) (v : Value) (n : Nat) (xs : List Int) (hs : a.eval s = v) (hown : w.ownsRow base 5 1 v n (u8s xs))
    (A : Option Addr) (zs : List Int) (m c : Nat) (hx : a.eval x = .slice A m c) (hm : zs.length = m) (hz : BytesAt w A zs) (hA : A = none → c = 0) (hb : n + m ≤ 140737488355328) (hbase : base ≤ w.heap.size)
    (h : ∀ v' w', w'.ownsRow base 5 1 v' (n + m) (u8s (xs ++ zs)) → w.grownBy w' v.ownBlock → (v'.ownBlock = v.ownBlock ∨ ∃ b, v'.ownBlock = some b ∧ w.heap.size ≤ b) → K (a.put o.dst v') w') :
    if Region.wanted o (yielded ops a.tmps) = true then Oper.wp Tryz.prog o a w K Q else E := by
  have hw : Region.wanted o (yielded ops a.tmps) = true := by simp [Region.wanted, hgd]
  rw [if_pos hw]
  obtain ⟨i0, hi, hz0, hz1, hz2⟩ := info_parts infoByte
  subst hm
  cases A with
  | none =>
    have hnil : zs = [] := by
      apply Classical.byContradiction
      intro hne
      obtain ⟨b, off, e⟩ := hz.some_ hne
      cases e
    subst hnil
    obtain rfl : c = 0 := hA rfl
    have hr := run_append_owned_none (P := Tryz.prog) (w := w) base 27 o.type 5 i0 1 Tryz.underlying27 hi v n (u8s xs) hown
    unfold Oper.wp execOp
    have hx' : a.eval x = .slice none 0 0 := hx
    simp only [ho, resolve, invoke, builtin, Sem.run_bind, Sem.run_pure, Result.andThen_ok, List.map_toArray, List.map_cons, List.map_nil, hs, hx', hr]
    exact h v w (own_same hown (by simp) (by simp)) (World.grownBy.refl _ _) (.inl rfl)
  | some ad =>
    have hsrc : ∀ j u, (u8s zs)[j]? = some u → w.cell? (ad.add j) = some u := fun j u hj => by
      have hne : zs ≠ [] := by intro e; subst e; simp [u8s] at hj
      obtain ⟨b, off, e, hc⟩ := hz.2 hne
      obtain rfl : ad = ⟨b, off, none⟩ := by simpa using e
      simp only [u8s, List.getElem?_map] at hj
      cases hq : zs[j]? with
      | none => simp [hq] at hj
      | some z =>
        obtain rfl : Value.int .u8 z = u := by simpa [hq] using hj
        have h1 := hc j (List.getElem?_eq_some_iff.1 hq).1
        rw [List.getD_eq_getElem?_getD, hq] at h1
        have hadd : (⟨b, off, none⟩ : Addr).add j = ⟨b, off + j, none⟩ := by unfold Addr.add; split <;> simp_all
        rw [hadd]; exact h1
    obtain ⟨v', w', hr, h2, h3, h4, h5⟩ := run_append_own_at (P := Tryz.prog) w base 27 o.type 5 i0 (.int .u8 0) 1 1 Tryz.underlying27 hi hz0 hz1 hz2 rfl (by decide) v n (u8s xs) hown ad zs.length c (u8s zs) (by rw [u8s_len, Nat.mul_one]) hsrc (u8s_one zs) (by unfold maxLen; omega) (by omega) hbase
    unfold Oper.wp execOp
    simp only [ho, resolve, invoke, builtin, Sem.run_bind, Sem.run_pure, Result.andThen_ok, List.map_toArray, List.map_cons, List.map_nil, hs, hx, hr]
    exact h v' w' (own_same h2 rfl (by rw [u8s_app])) h3 (h5.imp id fun e => ⟨_, e, Nat.le_refl _⟩)
/-- 'append([]byte{}, x..)' of n bytes, n not nought: a row of its own. -/
theorem step_clone8 {w : World} {ops : Array Oper} {o : Oper} {a : Act} {K : Act → World → Prop} {Q : Exit → Act → World → Prop} {E : Prop} (hgd : o.guard = none) (s x : Operand)
    (ho : o.op = .call { callee := .builtin .append, args := #[s, x], argTypes := #[27, 27] }) (g0 : Nat) (hs : a.eval s = .slice (some ⟨g0, 0, none⟩) 0 0) (hB : BlockIs w g0 5 #[])
    (A : Option Addr) (zs : List Int) (m c : Nat) (hx : a.eval x = .slice A m c) (hm : zs.length = m) (h0 : 0 < m) (hz : BytesAt w A zs) (hA : A = none → c = 0) (hb : m ≤ 140737488355328)
    (h : ∀ g cap w', w'.ownsRow 0 5 1 (.slice (some ⟨g, 0, none⟩) m cap) m (u8s zs) → g0 ≤ g → m ≤ cap → cap ≤ maxLen → w.grownBy w' (some g0) → K (a.put o.dst (.slice (some ⟨g, 0, none⟩) m cap)) w') :
    if Region.wanted o (yielded ops a.tmps) = true then Oper.wp Tryz.prog o a w K Q else E := by
  have hown : w.ownsRow g0 5 1 (.slice (some ⟨g0, 0, none⟩) 0 0) 0 (u8s []) := ⟨rfl, .inr ⟨g0, 0, #[], rfl, Nat.le_refl _, hB, Nat.le_refl _, Nat.zero_le _, rfl, rfl⟩⟩
  refine step_append_own8 hgd s x ho g0 _ 0 [] hs hown A zs m c hx hm hz hA (by omega) (Nat.le_of_lt hB.lt) ?_
  intro v' w' h1 h2 h3
  have h1' : w'.ownsRow g0 5 1 v' m (u8s zs) := own_same h1 (by omega) rfl
  obtain ⟨g, cap, e, hg, _, hc, hc2⟩ := own_form h1' h0
  subst e
  exact h g cap w' ⟨h1'.1, h1'.2.imp id fun ⟨g, cap, cur, e1, e2, e3⟩ => ⟨g, cap, cur, e1, Nat.zero_le _, e3⟩⟩ hg hc hc2 h2
theorem wpList_clone8 {w : World} {ops : Array Oper} {rest : List Oper} {o : Oper} {a : Act} {Q : Exit → Act → World → Prop} (hgd : o.guard = none) (s x : Operand)
    (ho : o.op = .call { callee := .builtin .append, args := #[s, x], argTypes := #[27, 27] }) (g0 : Nat) (hs : a.eval s = .slice (some ⟨g0, 0, none⟩) 0 0) (hB : BlockIs w g0 5 #[])
    (A : Option Addr) (zs : List Int) (m c : Nat) (hx : a.eval x = .slice A m c) (hm : zs.length = m) (h0 : 0 < m) (hz : BytesAt w A zs) (hb : m ≤ 140737488355328)
    (h : ∀ g cap w', w'.ownsRow 0 5 1 (.slice (some ⟨g, 0, none⟩) m cap) m (u8s zs) → g0 ≤ g → m ≤ cap → cap ≤ maxLen → w.grownBy w' (some g0) → wpList Tryz.prog ops Q rest (a.put o.dst (.slice (some ⟨g, 0, none⟩) m cap)) w') : wpList Tryz.prog ops Q (o :: rest) a w := by
  have hown : w.ownsRow g0 5 1 (.slice (some ⟨g0, 0, none⟩) 0 0) 0 (u8s []) := ⟨rfl, .inr ⟨g0, 0, #[], rfl, Nat.le_refl _, hB, Nat.le_refl _, Nat.zero_le _, rfl, rfl⟩⟩
  obtain ⟨i0, hi, hz0, hz1, hz2⟩ := info_parts infoByte
  subst hm
  have hne : zs ≠ [] := by rintro rfl; exact absurd h0 (by decide)
  obtain ⟨b, off, e, hc⟩ := hz.2 hne
  subst e
  have hsrc : ∀ j u, (u8s zs)[j]? = some u → w.cell? ((⟨b, off, none⟩ : Addr).add j) = some u := fun j u hj => by
    simp only [u8s, List.getElem?_map] at hj
    cases hq : zs[j]? with
    | none => simp [hq] at hj
    | some z =>
      obtain rfl : Value.int .u8 z = u := by simpa [hq] using hj
      have h1 := hc j (List.getElem?_eq_some_iff.1 hq).1
      rw [List.getD_eq_getElem?_getD, hq] at h1
      have hadd : (⟨b, off, none⟩ : Addr).add j = ⟨b, off + j, none⟩ := by unfold Addr.add; split <;> simp_all
      rw [hadd]; exact h1
  refine wpList_append_own_at (w := w) hgd s x 27 ho g0 5 i0 (.int .u8 0) 1 1 Tryz.underlying27 hi hz0 hz1 hz2 rfl (by decide) _ 0 (u8s []) hs hown ⟨b, off, none⟩ zs.length c (u8s zs) hx (by rw [u8s_len, Nat.mul_one]) hsrc (u8s_one zs) (by unfold maxLen; omega) (by omega) (Nat.le_of_lt hB.lt) ?_
  intro v' w' h1 h2 _ _
  have h1' : w'.ownsRow g0 5 1 v' zs.length (u8s zs) := own_same h1 (by omega) rfl
  obtain ⟨g, cap, e, hg, _, hc, hc2⟩ := own_form h1' h0
  subst e
  exact h g cap w' ⟨h1'.1, h1'.2.imp id fun ⟨g, cap, cur, e1, e2, e3⟩ => ⟨g, cap, cur, e1, Nat.zero_le _, e3⟩⟩ hg hc hc2 h2
end Go.Proofs.YtpdfmpegcejmkaaGreatDoor
namespace Go.Proofs.YtpdfmpegcejmkaaGreatDoor
open Go.RowKit
def IdentI.val (i : IdentI) : Value := .agg #[.int .i64 i.idx, .int .i64 i.term, .int .i64 i.kind]
set_option maxRecDepth 100000 in
set_option maxHeartbeats 1000000 in
theorem rfits_any (w : World) (i : IdentI) (n : Int) (h0 : 0 ≤ n) (h1 : n ≤ 1099511627776 * 64) :
    Calls Tryz.prog 43 #[i.val, .int .i64 n] w fun e w' => e = .returned (.bool (decide (aheadI i n))) ∧ Below w.heap.size w w' := by
  obtain ⟨x, t, k⟩ := i
  have HK := Lib.hid (fun W => rknown_any W x t k)
  unfold identV at HK
  have hB := BlockIs.made w 26 #[.int .i64 x, .int .i64 t, .int .i64 k]
  have hbn := below_new w (.cells #[.int .i64 x, .int .i64 t, .int .i64 k] 26)
  have HB := Lib.hid (And.intro hbn hB)
  have hE := Lib.hid (show decide (aheadI ⟨x, t, k⟩ n) = (decide (knownI x t k) && decide (x = n - 1)) by rw [← Bool.decide_and]; rfl)
  unfold IdentI.val
  simp only
  rw [hE.out]
  clear hbn hB
  by_cases hk : knownI x t k
  · rw [decide_eq_true hk] at HK ⊢
    clear hE
    go_enter Tryz.func43, Tryz.ntmps43
    go_wp2_with (go_at_call 79; refine (HK.out _).mono ?_; rintro e w1 ⟨rfl, hb1⟩; have c0 := (HB.out.2.below hb1 HB.out.2.lt).cell 0; have Hb := Lib.hid (HB.out.1.trans (hb1.mono HB.out.1.size)); clear hb1)
    go_ret
    exact ⟨ret_bool (by first | rfl | (rw [Bool.true_and, Bool.eq_iff_iff]; simp) | simp), Hb.out⟩
  · rw [decide_eq_false hk] at HK ⊢
    clear hE
    go_enter Tryz.func43, Tryz.ntmps43
    go_wp2_with (go_at_call 79; refine (HK.out _).mono ?_; rintro e w1 ⟨rfl, hb1⟩; have Hb := Lib.hid (HB.out.1.trans (hb1.mono HB.out.1.size)); clear hb1)
    go_ret
    exact ⟨rfl, Hb.out⟩
end Go.Proofs.YtpdfmpegcejmkaaGreatDoor
namespace Go.Proofs.YtpdfmpegcejmkaaGreatDoor
open Go.RowKit
set_option maxRecDepth 100000 in
set_option maxHeartbeats 1000000 in
theorem gahead_any (w : World) (i : IdentI) (n : Int) (h0 : 0 ≤ n) (h1 : n ≤ 1099511627776 * 64) :
    Calls Tryz.prog 74 #[i.val, .int .i64 n] w fun e w' => e = .returned (.bool (decide (aheadI i n))) ∧ Below w.heap.size w w' := by
  obtain ⟨x, t, k⟩ := i
  have HK := Lib.hid (fun W => known_any W x t k)
  unfold identV at HK
  have HB := Lib.hid (And.intro (below_new w (.cells #[.int .i64 x, .int .i64 t, .int .i64 k] 26)) (BlockIs.made w 26 #[.int .i64 x, .int .i64 t, .int .i64 k]))
  by_cases hx : x = n - 1
  · have hE : decide (aheadI ⟨x, t, k⟩ n) = decide (knownI x t k) := by
      unfold aheadI
      simp only [hx, and_true]
    unfold IdentI.val
    simp only
    rw [hE]
    have hx1 : (x == n - 1) = true := by simp [hx]
    clear hx hE
    go_enter Tryz.func74, Tryz.ntmps74
    go_wp2_with (go_at_call 26; refine (HK.out _).mono ?_; rintro e w1 ⟨rfl, hb1⟩; have Hb := Lib.hid (HB.out.1.trans (hb1.mono HB.out.1.size)); clear hb1)
    go_ret
    exact ⟨rfl, Hb.out⟩
  · have hE : decide (aheadI ⟨x, t, k⟩ n) = false := decide_eq_false (fun h => hx h.2)
    unfold IdentI.val
    simp only
    rw [hE]
    have hx1 : (x == n - 1) = false := by simp [hx]
    clear hx hE
    go_enter Tryz.func74, Tryz.ntmps74
    go_wp2_with fail
    go_ret
    exact ⟨rfl, HB.out.1⟩
/-- Three cells are stored. -/
theorem BlockIs.put3 {w : World} {g : Nat} {t : TypeId} {a b c : Value} (h : BlockIs w g t #[a, b, c]) (x y z : Value) :
    BlockIs (((w.setCell ⟨g, 0, none⟩ x).setCell ⟨g, 1, none⟩ y).setCell ⟨g, 2, none⟩ z) g t #[x, y, z] ∧ w.grownBy (((w.setCell ⟨g, 0, none⟩ x).setCell ⟨g, 1, none⟩ y).setCell ⟨g, 2, none⟩ z) (some g) :=
  ⟨((h.set1 0 x).set1 1 y).set1 2 z, grown_at (grown_at (grown_at (World.grownBy.refl w (some g)) 0 x) 1 y) 2 z⟩
theorem BlockIs.three {w : World} {g : Nat} {t : TypeId} {a b c : Value} (h : BlockIs w g t #[a, b, c]) : w.cell? ⟨g, 0, none⟩ = some a ∧ w.cell? ⟨g, 1, none⟩ = some b ∧ w.cell? ⟨g, 2, none⟩ = some c ∧ w.frozen? ⟨g, 0, none⟩ = false ∧ w.frozen? ⟨g, 1, none⟩ = false ∧ w.frozen? ⟨g, 2, none⟩ = false :=
  ⟨h.cell 0, h.cell 1, h.cell 2, h.free 0, h.free 1, h.free 2⟩
/-- A record: an entry, and the ident ahead of it. -/
def recV (e : Ent) (A : Option Addr) (c : Nat) (a : IdentI) : Value := .agg #[.int .i64 e.index, .int .i64 e.term, .int .i64 e.kind, .slice A e.body.length c, .int .i64 a.idx, .int .i64 a.term, .int .i64 a.kind]
def SenQ.lack (σ : SenQ) (e : Ent) (a : IdentI) : Value := if rightB e = false then errK σ.en else if aheadI a e.index then .nilIface else errK σ.od
set_option maxRecDepth 100000 in
set_option maxHeartbeats 1000000 in
theorem rident_any (w : World) (e : Ent) (A : Option Addr) (c : Nat) (a : IdentI) :
    Calls Tryz.prog 68 #[recV e A c a] w fun r w' => r = .returned e.ident.val ∧ Below w.heap.size w w' := by
  have hb1 := below_new w (.cells #[.int .i64 e.index, .int .i64 e.term, .int .i64 e.kind, .slice A e.body.length c, .int .i64 a.idx, .int .i64 a.term, .int .i64 a.kind] 95)
  have hb2 := hb1.alloc hb1.size (.cells #[.int .i64 e.index, .int .i64 e.term, .int .i64 e.kind] 26)
  unfold recV IdentI.val Ent.ident
  go_enter Tryz.func68, Tryz.ntmps68
  go_wp2_with fail
  exact bodyPost_ret (v := .agg #[.int .i64 e.index, .int .i64 e.term, .int .i64 e.kind]) (by simp [results, Tryz.results68, go_sem]) rfl ⟨rfl, hb2⟩
set_option maxRecDepth 100000 in
set_option maxHeartbeats 1000000 in
theorem segIdent_any (w : World) (e : Ent) (A : Option Addr) (c : Nat) :
    Calls Tryz.prog 34 #[.agg #[.int .i64 e.index, .int .i64 e.term, .int .i64 e.kind, .slice A e.body.length c]] w fun r w' => r = .returned e.ident.val ∧ Below w.heap.size w w' := by
  have hb1 := below_new w (.cells #[.int .i64 e.index, .int .i64 e.term, .int .i64 e.kind, .slice A e.body.length c] 50)
  have hb2 := hb1.alloc hb1.size (.cells #[.int .i64 0, .int .i64 0, .int .i64 0] 26)
  have hB := BlockIs.made (w.alloc (.cells #[.int .i64 e.index, .int .i64 e.term, .int .i64 e.kind, .slice A e.body.length c] 50)) 26 #[.int .i64 0, .int .i64 0, .int .i64 0]
  have HR := Lib.hid (fun W => rident_any W e A c ⟨0, 0, 0⟩)
  unfold recV IdentI.val Ent.ident at HR
  unfold IdentI.val Ent.ident
  rw [World.size_alloc] at hB
  have HB := Lib.hid (And.intro hb2 hB)
  have Hw := Lib.hid (show ((w.alloc (.cells #[.int .i64 e.index, .int .i64 e.term, .int .i64 e.kind, .slice A e.body.length c] 50)).alloc (.cells #[.int .i64 0, .int .i64 0, .int .i64 0] 26)).heap.size = w.heap.size + 2 by simp)
  clear hb1 hb2 hB
  go_enter Tryz.func34, Tryz.ntmps34
  go_wp2_with fail
  refine (HR.out _).mono ?_
  rintro r w2 ⟨rfl, b2⟩
  have B2 := HB.out.2.below b2 (by have := Hw.out; omega)
  have Z := Lib.hid (B2.put3 (.int .i64 e.index) (.int .i64 e.term) (.int .i64 e.kind))
  have G2 := Lib.hid (HB.out.1.trans (b2.mono HB.out.1.size))
  obtain ⟨c0, c1, c2, f0, f1, f2⟩ := B2.three
  clear b2 B2 HR
  go_wp2_with fail
  clear c0 c1 c2 f0 f1 f2
  obtain ⟨z0, z1, z2, _⟩ := Z.out.1.three
  exact bodyPost_ret (v := .agg #[.int .i64 e.index, .int .i64 e.term, .int .i64 e.kind]) (by simp [results, Tryz.results34, go_sem, z0, z1, z2]) rfl ⟨rfl, below_grown G2.out Z.out.2 G2.out.size (by omega)⟩
set_option maxRecDepth 100000 in
set_option maxHeartbeats 1000000 in
theorem rlack_any (σ : SenQ) (w : World) (hG : GlQ σ w) (e : Ent) (A : Option Addr) (c : Nat) (hl : e.body.length ≤ 9223372036854775807) (a : IdentI) :
    Calls Tryz.prog 94 #[recV e A c a] w fun r w' => r = .returned (σ.lack e a) ∧ Below w.heap.size w w' := by
  have hb1 := below_new w (.cells #[.int .i64 e.index, .int .i64 e.term, .int .i64 e.kind, .slice A e.body.length c, .int .i64 a.idx, .int .i64 a.term, .int .i64 a.kind] 95)
  have HB := Lib.hid (And.intro hb1 (BlockIs.made w 95 #[.int .i64 e.index, .int .i64 e.term, .int .i64 e.kind, .slice A e.body.length c, .int .i64 a.idx, .int .i64 a.term, .int .i64 a.kind]))
  have HG := Lib.hid (hG.below hb1)
  have HR := Lib.hid (fun W => right_any W e A c hl)
  clear hb1 hG
  unfold recV
  by_cases hr : rightB e = false
  · rw [show σ.lack e a = errK σ.en by unfold SenQ.lack; rw [if_pos hr]]
    rw [hr] at HR
    clear hr
    unfold errK
    go_enter Tryz.func94, Tryz.ntmps94
    go_wp2_with fail
    refine (HR.out _).mono ?_
    rintro r w2 ⟨rfl, b2⟩
    have g0 := (HG.out.below b2).en
    have B2 := Lib.hid (HB.out.1.trans (b2.mono HB.out.1.size))
    unfold errK at g0
    clear b2 HR
    go_wp2_with fail
    go_ret
    exact ⟨rfl, B2.out⟩
  · have hr' : rightB e = true := by simpa using hr
    obtain ⟨⟨_, _⟩, ⟨i0, i1⟩, _⟩ := ent_right hr'
    have HA := Lib.hid (fun W => gahead_any W a e.index (by omega) (by omega))
    rw [hr'] at HR
    unfold IdentI.val at HA
    by_cases ha : aheadI a e.index
    · rw [show σ.lack e a = .nilIface by unfold SenQ.lack; rw [if_neg hr, if_pos ha]]
      rw [decide_eq_true ha] at HA
      clear hr hr' i0 i1 ha
      go_enter Tryz.func94, Tryz.ntmps94
      go_wp2_with fail
      refine (HR.out _).mono ?_
      rintro r w2 ⟨rfl, b2⟩
      have R2 := HB.out.2.below b2 HB.out.2.lt
      have c0 := R2.cell 0
      have c4 := R2.cell 4
      have c5 := R2.cell 5
      have c6 := R2.cell 6
      have B2 := Lib.hid (HB.out.1.trans (b2.mono HB.out.1.size))
      clear b2 HR R2
      go_wp2_with fail
      refine (HA.out _).mono ?_
      rintro r w3 ⟨rfl, b3⟩
      have B3 := Lib.hid (B2.out.trans (b3.mono B2.out.size))
      clear c0 c4 c5 c6 HA b3
      go_wp2_with fail
      go_ret
      exact ⟨rfl, B3.out⟩
    · rw [show σ.lack e a = errK σ.od by unfold SenQ.lack; rw [if_neg hr, if_neg ha]]
      rw [decide_eq_false ha] at HA
      clear hr hr' i0 i1 ha
      unfold errK
      go_enter Tryz.func94, Tryz.ntmps94
      go_wp2_with fail
      refine (HR.out _).mono ?_
      rintro r w2 ⟨rfl, b2⟩
      have R2 := HB.out.2.below b2 HB.out.2.lt
      have c0 := R2.cell 0
      have c4 := R2.cell 4
      have c5 := R2.cell 5
      have c6 := R2.cell 6
      have B2 := Lib.hid (HB.out.1.trans (b2.mono HB.out.1.size))
      have HG2 := Lib.hid (HG.out.below b2)
      clear b2 HR R2
      go_wp2_with fail
      refine (HA.out _).mono ?_
      rintro r w3 ⟨rfl, b3⟩
      have g0 := (HG2.out.below b3).od
      unfold errK at g0
      have B3 := Lib.hid (B2.out.trans (b3.mono B2.out.size))
      clear c0 c4 c5 c6 HA b3
      go_wp2_with fail
      go_ret
      exact ⟨rfl, B3.out⟩
end Go.Proofs.YtpdfmpegcejmkaaGreatDoor
namespace Go.Proofs.YtpdfmpegcejmkaaGreatDoor
open Go.RowKit
set_option maxRecDepth 100000 in
set_option maxHeartbeats 1000000 in
theorem sameInts_any (xs ys : List Int) (A B : Option Addr) (ca cb : Nat) (w : World) (ha : IntsAt w A xs) (hb : IntsAt w B ys) (_hx : xs.length ≤ 9223372036854775807) :
    Calls Tryz.prog 172 #[.slice A xs.length ca, .slice B ys.length cb] w fun e w' => e = .returned (.bool (sameB xs ys)) ∧ ∃ n, w' = w.drewN n := by
  by_cases hl : xs.length = ys.length
  · have hne : ((xs.length : Int) != (ys.length : Int)) = false := by rw [hl]; simp
    have Hl := Lib.hid hl; clear hl
    go_enter Tryz.func172, Tryz.ntmps172
    go_wp2_with fail
    go_loopg [5] xs.length (fun g i wx => (∃ nq, wx = w.drewN nq) ∧ ∃ k : Nat, k ≤ xs.length ∧ g = xs.length - k ∧ i = .int .i64 (k : Int) ∧ Hid (xs.take k = ys.take k))
    case atStart => exact ⟨⟨0, rfl⟩, 0, by omega, rfl, rfl, Lib.hid rfl⟩
    case round =>
      obtain ⟨⟨nq, rfl⟩, k, hk, hg, rfl, hp⟩ := hrel
      have Hg := Lib.hid hg; clear hg
      by_cases hlt : k < xs.length
      · have hly : k < ys.length := by have := Hl.out; omega
        obtain ⟨b1, o1, rfl⟩ := ha.some_ (by intro e; simp [e] at hlt)
        obtain ⟨b2, o2, rfl⟩ := hb.some_ (by intro e; simp [e] at hly)
        have c1 := ha.one k hlt
        have c2 := hb.one k hly
        have Hs : ∀ x y, xs.getD k 0 = x → ys.getD k 0 = y → Hid (((x != y) = true → sameB xs ys = false) ∧ ((x != y) = false → xs.take (k + 1) = ys.take (k + 1))) := fun x y h1 h2 =>
          Lib.hid ⟨fun h => same_not xs ys k hlt hly (by rw [h1, h2]; exact h), fun h => same_next xs ys k hlt hly hp.out (by rw [h1, h2]; exact h)⟩
        generalize xs.getD k 0 = x at c1 Hs
        generalize ys.getD k 0 = y at c2 Hs
        have Hs := Hs x y rfl rfl
        go_wp2_with fail
        go_quiet (fail)
        go_wp2_with fail
        · go_ret
          exact ⟨ret_bool (Hs.out.1 (by assumption)).symm, _, World.drewN_drewN _ _ _⟩
        · go_roundg (xs.length - (k + 1))
          case measure => rw [Hg.out]; omega
          case rel => exact ⟨⟨_, rfl⟩, k + 1, by omega, rfl, by go_num, Lib.hid (Hs.out.2 (by assumption))⟩
      · have hkk : k = xs.length := by omega
        have Hk := Lib.hid hkk; clear hkk
        go_wp2_with fail
        go_ret
        exact ⟨ret_bool (same_all xs ys k hp.out Hk.out Hl.out).symm, _, rfl⟩
  · have hne : ((xs.length : Int) != (ys.length : Int)) = true := by simp; omega
    have Hl := Lib.hid hl; clear hl
    go_enter Tryz.func172, Tryz.ntmps172
    go_wp2_with fail
    go_ret
    exact ⟨ret_bool (same_len xs ys Hl.out).symm, 0, rfl⟩
end Go.Proofs.YtpdfmpegcejmkaaGreatDoor
namespace Go.Proofs.YtpdfmpegcejmkaaGreatDoor
open Go.RowKit
def sameE (a b : Ent) : Bool := decide (a.index = b.index ∧ a.term = b.term ∧ a.kind = b.kind ∧ a.body = b.body)
def entV (e : Ent) (A : Option Addr) (c : Nat) : Value := .agg #[.int .i64 e.index, .int .i64 e.term, .int .i64 e.kind, .slice A e.body.length c]
set_option maxRecDepth 100000 in
set_option maxHeartbeats 1000000 in
theorem sameEntry_any (a b : Ent) (A B : Option Addr) (ca cb : Nat) (w : World) (ha : BytesAt w A a.body) (hb : BytesAt w B b.body) (hl : a.body.length ≤ 9223372036854775807) :
    Calls Tryz.prog 31 #[entV a A ca, entV b B cb] w fun e w' => e = .returned (.bool (sameE a b)) ∧ Below w.heap.size w w' := by
  obtain ⟨x, t, k, zs⟩ := a
  obtain ⟨x', t', k', zs'⟩ := b
  unfold entV
  simp only at ha hb hl ⊢
  have hb1 := below_new w (.cells #[.int .i64 x, .int .i64 t, .int .i64 k, .slice A zs.length ca] 50)
  have hb2 := hb1.alloc (by simp) (.cells #[.int .i64 x', .int .i64 t', .int .i64 k', .slice B zs'.length cb] 50)
  have HS := Lib.hid (sameBytes_any zs zs' A B ca cb _ (ha.below hb2) (hb.below hb2) hl)
  have Hb2 := Lib.hid hb2
  clear hb1 hb2 ha hb
  have hE : sameE ⟨x, t, k, zs⟩ ⟨x', t', k', zs'⟩ = (decide (x = x') && (decide (t = t') && (decide (k = k') && sameB zs zs'))) := by
    unfold sameE sameB; simp [Bool.decide_and]
  have HE := Lib.hid hE
  clear hE
  by_cases h1 : x = x'
  · by_cases h2 : t = t'
    · by_cases h3 : k = k'
      · subst h1 h2 h3
        go_enter Tryz.func31, Tryz.ntmps31
        go_wp2_with fail
        refine HS.out.mono ?_
        rintro e w' ⟨rfl, n, rfl⟩
        go_wp2_with fail
        go_ret
        exact ⟨by rw [HE.out]; simp, Below.drewN Hb2.out n⟩
      · have q3 : (k == k') = false := by simpa using h3
        subst h1 h2
        clear h3
        go_enter Tryz.func31, Tryz.ntmps31
        go_wp2_with fail
        go_ret
        exact ⟨by rw [HE.out]; simp at q3; simp [q3], Hb2.out⟩
    · have q2 : (t == t') = false := by simpa using h2
      subst h1
      clear h2
      go_enter Tryz.func31, Tryz.ntmps31
      go_wp2_with fail
      go_ret
      exact ⟨by rw [HE.out]; simp at q2; simp [q2], Hb2.out⟩
  · have q1 : (x == x') = false := by simpa using h1
    clear h1
    go_enter Tryz.func31, Tryz.ntmps31
    go_wp2_with fail
    go_ret
    exact ⟨by rw [HE.out]; simp at q1; simp [q1], Hb2.out⟩
end Go.Proofs.YtpdfmpegcejmkaaGreatDoor
