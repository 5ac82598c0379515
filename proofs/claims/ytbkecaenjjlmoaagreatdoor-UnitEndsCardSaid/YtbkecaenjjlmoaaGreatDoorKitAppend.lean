/- append onto bytes that are owned, and a copy of a row of bytes, at a step of a region that draws its order. -/
import Derived.Test.YtbkecaenjjlmoaaGreatDoorKitChg
import Derived.Laws.AppendOwnNone
import Derived.Maps.AppendAt
namespace Go.Proofs.YtbkecaenjjlmoaaGreatDoor
open Go.RowKit
/-- append onto bytes that are owned, at a step of a region that draws its order. -/
theorem step_append_own8 {w : World} {ops : Array Oper} {o : Oper} {a : Act} {K : Act → World → Prop} {Q : Exit → Act → World → Prop} {E : Prop} (hgd : o.guard = none) (s x : Operand)
    (ho : o.op = .call { callee := .builtin .append, args := #[s, x], argTypes := #[22, 22] }) (base : Nat) (v : Value) (n : Nat) (xs : List Int) (hs : a.eval s = v) (hown : w.ownsRow base 5 1 v n (u8s xs))
    (A : Option Addr) (zs : List Int) (m c : Nat) (hx : a.eval x = .slice A m c) (hm : zs.length = m) (hz : BytesAt w A zs) (hA : A = none → c = 0) (hb : n + m ≤ 140737488355328) (hbase : base ≤ w.heap.size)
    (h : ∀ v' w', w'.ownsRow base 5 1 v' (n + m) (u8s (xs ++ zs)) → w.grownBy w' v.ownBlock → (v'.ownBlock = v.ownBlock ∨ ∃ b, v'.ownBlock = some b ∧ w.heap.size ≤ b) → K (a.put o.dst v') w') :
    if Region.wanted o (yielded ops a.tmps) = true then Oper.wp Tryz.prog o a w K Q else E := by
  have hw : Region.wanted o (yielded ops a.tmps) = true := by simp [Region.wanted, hgd]
  rw [if_pos hw]
  obtain ⟨i0, hi, hz0, hz1, hz2⟩ := info_parts infoByte
  subst hm
  cases A with
  | none =>
    have hnil : zs = [] := by
      apply Classical.byContradiction
      intro hne
      obtain ⟨b, off, e⟩ := hz.some_ hne
      cases e
    subst hnil
    obtain rfl : c = 0 := hA rfl
    have hr := run_append_owned_none (P := Tryz.prog) (w := w) base 22 o.type 5 i0 1 Tryz.underlying22 hi v n (u8s xs) hown
    unfold Oper.wp execOp
    have hx' : a.eval x = .slice none 0 0 := hx
    simp only [ho, resolve, invoke, builtin, Sem.run_bind, Sem.run_pure, Result.andThen_ok, List.map_toArray, List.map_cons, List.map_nil, hs, hx', hr]
    exact h v w (own_same hown (by simp) (by simp)) (World.grownBy.refl _ _) (.inl rfl)
  | some ad =>
    have hsrc : ∀ j u, (u8s zs)[j]? = some u → w.cell? (ad.add j) = some u := fun j u hj => by
      have hne : zs ≠ [] := by intro e; subst e; simp [u8s] at hj
      obtain ⟨b, off, e, hc⟩ := hz.2 hne
      obtain rfl : ad = ⟨b, off, none⟩ := by simpa using e
      simp only [u8s, List.getElem?_map] at hj
      cases hq : zs[j]? with
      | none => simp [hq] at hj
      | some z =>
        obtain rfl : Value.int .u8 z = u := by simpa [hq] using hj
        have h1 := hc j (List.getElem?_eq_some_iff.1 hq).1
        rw [List.getD_eq_getElem?_getD, hq] at h1
        have hadd : (⟨b, off, none⟩ : Addr).add j = ⟨b, off + j, none⟩ := by unfold Addr.add; split <;> simp_all
        rw [hadd]; exact h1
    obtain ⟨v', w', hr, h2, h3, h4, h5⟩ := run_append_own_at (P := Tryz.prog) w base 22 o.type 5 i0 (.int .u8 0) 1 1 Tryz.underlying22 hi hz0 hz1 hz2 rfl (by decide) v n (u8s xs) hown ad zs.length c (u8s zs) (by rw [u8s_len, Nat.mul_one]) hsrc (u8s_one zs) (by unfold maxLen; omega) (by omega) hbase
    unfold Oper.wp execOp
    simp only [ho, resolve, invoke, builtin, Sem.run_bind, Sem.run_pure, Result.andThen_ok, List.map_toArray, List.map_cons, List.map_nil, hs, hx, hr]
    exact h v' w' (own_same h2 rfl (by rw [u8s_app])) h3 (h5.imp id fun e => ⟨_, e, Nat.le_refl _⟩)
/-- 'append([]byte{}, x..)' of n bytes, n not nought: a row of its own. -/
theorem step_clone8 {w : World} {ops : Array Oper} {o : Oper} {a : Act} {K : Act → World → Prop} {Q : Exit → Act → World → Prop} {E : Prop} (hgd : o.guard = none) (s x : Operand)
    (ho : o.op = .call { callee := .builtin .append, args := #[s, x], argTypes := #[22, 22] }) (g0 : Nat) (hs : a.eval s = .slice (some ⟨g0, 0, none⟩) 0 0) (hB : BlockIs w g0 5 #[])
    (A : Option Addr) (zs : List Int) (m c : Nat) (hx : a.eval x = .slice A m c) (hm : zs.length = m) (h0 : 0 < m) (hz : BytesAt w A zs) (hA : A = none → c = 0) (hb : m ≤ 140737488355328)
    (h : ∀ g cap w', w'.ownsRow 0 5 1 (.slice (some ⟨g, 0, none⟩) m cap) m (u8s zs) → g0 ≤ g → m ≤ cap → cap ≤ maxLen → w.grownBy w' (some g0) → K (a.put o.dst (.slice (some ⟨g, 0, none⟩) m cap)) w') :
    if Region.wanted o (yielded ops a.tmps) = true then Oper.wp Tryz.prog o a w K Q else E := by
  have hown : w.ownsRow g0 5 1 (.slice (some ⟨g0, 0, none⟩) 0 0) 0 (u8s []) := ⟨rfl, .inr ⟨g0, 0, #[], rfl, Nat.le_refl _, hB, Nat.le_refl _, Nat.zero_le _, rfl, rfl⟩⟩
  refine step_append_own8 hgd s x ho g0 _ 0 [] hs hown A zs m c hx hm hz hA (by omega) (Nat.le_of_lt hB.lt) ?_
  intro v' w' h1 h2 h3
  have h1' : w'.ownsRow g0 5 1 v' m (u8s zs) := own_same h1 (by omega) rfl
  obtain ⟨g, cap, e, hg, _, hc, hc2⟩ := own_form h1' h0
  subst e
  exact h g cap w' ⟨h1'.1, h1'.2.imp id fun ⟨g, cap, cur, e1, e2, e3⟩ => ⟨g, cap, cur, e1, Nat.zero_le _, e3⟩⟩ hg hc hc2 h2
theorem wpList_clone8 {w : World} {ops : Array Oper} {rest : List Oper} {o : Oper} {a : Act} {Q : Exit → Act → World → Prop} (hgd : o.guard = none) (s x : Operand)
    (ho : o.op = .call { callee := .builtin .append, args := #[s, x], argTypes := #[22, 22] }) (g0 : Nat) (hs : a.eval s = .slice (some ⟨g0, 0, none⟩) 0 0) (hB : BlockIs w g0 5 #[])
    (A : Option Addr) (zs : List Int) (m c : Nat) (hx : a.eval x = .slice A m c) (hm : zs.length = m) (h0 : 0 < m) (hz : BytesAt w A zs) (hb : m ≤ 140737488355328)
    (h : ∀ g cap w', w'.ownsRow 0 5 1 (.slice (some ⟨g, 0, none⟩) m cap) m (u8s zs) → g0 ≤ g → m ≤ cap → cap ≤ maxLen → w.grownBy w' (some g0) → wpList Tryz.prog ops Q rest (a.put o.dst (.slice (some ⟨g, 0, none⟩) m cap)) w') : wpList Tryz.prog ops Q (o :: rest) a w := by
  have hown : w.ownsRow g0 5 1 (.slice (some ⟨g0, 0, none⟩) 0 0) 0 (u8s []) := ⟨rfl, .inr ⟨g0, 0, #[], rfl, Nat.le_refl _, hB, Nat.le_refl _, Nat.zero_le _, rfl, rfl⟩⟩
  obtain ⟨i0, hi, hz0, hz1, hz2⟩ := info_parts infoByte
  subst hm
  have hne : zs ≠ [] := by rintro rfl; exact absurd h0 (by decide)
  obtain ⟨b, off, e, hc⟩ := hz.2 hne
  subst e
  have hsrc : ∀ j u, (u8s zs)[j]? = some u → w.cell? ((⟨b, off, none⟩ : Addr).add j) = some u := fun j u hj => by
    simp only [u8s, List.getElem?_map] at hj
    cases hq : zs[j]? with
    | none => simp [hq] at hj
    | some z =>
      obtain rfl : Value.int .u8 z = u := by simpa [hq] using hj
      have h1 := hc j (List.getElem?_eq_some_iff.1 hq).1
      rw [List.getD_eq_getElem?_getD, hq] at h1
      have hadd : (⟨b, off, none⟩ : Addr).add j = ⟨b, off + j, none⟩ := by unfold Addr.add; split <;> simp_all
      rw [hadd]; exact h1
  refine wpList_append_own_at (w := w) hgd s x 22 ho g0 5 i0 (.int .u8 0) 1 1 Tryz.underlying22 hi hz0 hz1 hz2 rfl (by decide) _ 0 (u8s []) hs hown ⟨b, off, none⟩ zs.length c (u8s zs) hx (by rw [u8s_len, Nat.mul_one]) hsrc (u8s_one zs) (by unfold maxLen; omega) (by omega) (Nat.le_of_lt hB.lt) ?_
  intro v' w' h1 h2 _ _
  have h1' : w'.ownsRow g0 5 1 v' zs.length (u8s zs) := own_same h1 (by omega) rfl
  obtain ⟨g, cap, e, hg, _, hc, hc2⟩ := own_form h1' h0
  subst e
  exact h g cap w' ⟨h1'.1, h1'.2.imp id fun ⟨g, cap, cur, e1, e2, e3⟩ => ⟨g, cap, cur, e1, Nat.zero_le _, e3⟩⟩ hg hc hc2 h2
end Go.Proofs.YtbkecaenjjlmoaaGreatDoor
