/- Lists that lie apart: whose block is whose; a row that is grown while an elder, shorter look at it stays; marks. -/
import Derived.Test.YtmmebaphhgggfaaGreatDoorKitB
import Derived.ArgAppend
namespace Go.Proofs.YtmmebaphhgggfaaGreatDoor
open Go.RowKit
/-- The mark of a place in a list of bytes. -/
def mkB (k i : Nat) : Int := IntKind.u64.wrap ((1000003 * ((k : Int) + 7) + (i : Int)) * 11400714819323198485) / 72057594037927936 % 256
theorem mkB_bd (k i : Nat) : 0 ≤ mkB k i ∧ mkB k i < 256 := by unfold mkB; omega
def mkRow (k n : Nat) : List Int := (List.range n).map (mkB k)
theorem mkRow_len (k n : Nat) : (mkRow k n).length = n := by unfold mkRow; simp
theorem mkRow_succ (k n : Nat) : mkRow k (n + 1) = mkRow k n ++ [mkB k n] := by unfold mkRow; rw [List.range_succ, List.map_append]; rfl
theorem mkRow_at (k n i : Nat) (h : i < n) : (mkRow k n)[i]? = some (mkB k i) := by unfold mkRow; rw [List.getElem?_map, List.getElem?_range h]; rfl
theorem mkRow_take (k n m : Nat) (h : m ≤ n) : (mkRow k n).take m = mkRow k m := by
  unfold mkRow; rw [← List.map_take, List.take_range, Nat.min_eq_left h]
theorem mark_any (k i : Nat) (w : World) (hk : k ≤ 1000000) (hi : i ≤ 140737488355328) :
    Calls Tryz.prog 62 #[.int .i64 (k : Int), .int .i64 (i : Int)] w fun e w' => e = .returned (.int .i64 (1000003 * ((k : Int) + 7) + (i : Int))) ∧ w = w' := by
  go_enter Tryz.func62, Tryz.ntmps62
  go_wp2
  go_ret
  exact ⟨rfl, rfl⟩
theorem markByte_any (k i : Nat) (w : World) (hk : k ≤ 1000000) (hi : i ≤ 140737488355328) :
    Calls Tryz.prog 34 #[.int .i64 (k : Int), .int .i64 (i : Int)] w fun e w' => e = .returned (.int .u8 (mkB k i)) ∧ w = w' := by
  have H : IntKind.u64.wrap ((1000003 * ((k : Int) + 7) + (i : Int))) = (1000003 * ((k : Int) + 7) + (i : Int)) := by
    have h0 : ∀ n : Int, IntKind.u64.wrap n = n % 18446744073709551616 := fun n => by simp [IntKind.wrap, IntKind.bits, IntKind.signed]
    rw [h0]; omega
  go_enter Tryz.func34, Tryz.ntmps34
  go_wp2_with fail
  refine (mark_any k i w hk hi).mono ?_
  rintro e w' ⟨rfl, rfl⟩
  go_wp2
  go_ret
  exact ⟨rfl, rfl⟩
theorem markByte_q (k i : Nat) (w : World) (hk : k ≤ 1000000) (hi : i ≤ 140737488355328) :
    Calls Tryz.prog 34 #[.int .i64 (k : Int), .int .i64 (i : Int)] w fun e w' => e = .returned (.int .u8 (mkB k i)) ∧ w' = w :=
  (markByte_any k i w hk hi).mono fun _ _ h => ⟨h.1, h.2.symm⟩
/-- What a value owns, its block has this colour. -/
def Col (col : Nat → Nat) (v : Value) (c : Nat) : Prop := ∀ b, v.ownBlock = some b → col b = c
theorem Col.ne {col : Nat → Nat} {v u : Value} {c d : Nat} (h : Col col v c) (k : Col col u d) (hne : c ≠ d) : v.ownBlock = none ∨ v.ownBlock ≠ u.ownBlock := by
  cases hv : v.ownBlock with
  | none => exact .inl rfl
  | some b =>
    refine .inr fun e => ?_
    exact hne ((h b hv).symm.trans (k b e.symm))
/-- New blocks get a colour. -/
def paint (col : Nat → Nat) (n c : Nat) : Nat → Nat := fun b => if n ≤ b then c else col b
theorem Col.paint {w : World} {B : Nat} {e : TypeId} {size n : Nat} {xs : List Value} {col : Nat → Nat} {v : Value} {c : Nat} (h : Col col v c) (ho : w.ownsRow B e size v n xs) (d : Nat) : Col (paint col w.heap.size d) v c := by
  intro b hb
  have := (ho.lt b hb).2
  unfold Go.Proofs.YtmmebaphhgggfaaGreatDoor.paint
  rw [if_neg (by omega)]
  exact h b hb
theorem paint_new (col : Nat → Nat) (n c : Nat) (v : Value) (h : v.ownBlock = some n) : Col (paint col n c) v c := by
  intro b hb
  unfold paint
  rw [if_pos]
  rw [h] at hb
  cases hb; omega
/-- Two looks at one block, one shorter: as the longer one stays, so does the shorter one. -/
theorem own_short {w w' : World} {B n m : Nat} {e : TypeId} {v u : Value} {xs ys : List Value} (h : w.ownsRow B e 1 v n xs) (k : w.ownsRow B e 1 u m ys) (hs : u.ownBlock = v.ownBlock) (hnm : n ≤ m) (k' : w'.ownsRow B e 1 u m ys) : w'.ownsRow B e 1 v n xs := by
  refine ⟨h.1, ?_⟩
  rcases h.2 with hv | ⟨g, cap, cur, rfl, hb, hg, hnc, hcm, hcs, ht⟩
  · exact .inl hv
  · rcases k.2 with ⟨rfl, _⟩ | ⟨g1, cap1, cur1, rfl, _, hg1, _, _, hcs1, ht1⟩
    · simp [Value.ownBlock] at hs
    · obtain rfl : g1 = g := by simpa [Value.ownBlock] using hs
      rw [hg] at hg1
      obtain rfl : cur = cur1 := by injection hg1 with hg1; injection hg1
      obtain rfl : cap = cap1 := by omega
      rcases k'.2 with ⟨h0, _⟩ | ⟨g2, cap2, cur2, e2, _, hg2, _, _, hcs2, ht2⟩
      · cases h0
      · obtain ⟨rfl, rfl⟩ : g1 = g2 ∧ cap = cap2 := by simpa using e2
        refine .inr ⟨g1, cap, cur2, rfl, hb, hg2, hnc, hcm, hcs2, ?_⟩
        rw [← ht, show n * 1 = min (n * 1) (m * 1) by omega, ← List.take_take, ← List.take_take, ht2, ht1]
theorem own_cut {w : World} {B n m cap : Nat} {e : TypeId} {g : Nat} {xs : List Value} (h : w.ownsRow B e 1 (.slice (some ⟨g, 0, none⟩) m cap) m xs) (hn : n ≤ m) : w.ownsRow B e 1 (.slice (some ⟨g, 0, none⟩) n cap) n (xs.take n) := by
  rcases h.2 with ⟨h0, _⟩ | ⟨g1, cap1, cur, e1, hb, hg, hnc, hcm, hcs, ht⟩
  · cases h0
  · obtain ⟨rfl, rfl⟩ : g = g1 ∧ cap = cap1 := by simpa using e1
    have hl := h.1
    refine ⟨by rw [List.length_take]; omega, .inr ⟨g, cap, cur, rfl, hb, hg, by omega, hcm, hcs, ?_⟩⟩
    rw [← ht, List.take_take]; congr 1; omega
set_option maxRecDepth 100000 in
/-- append, onto a row of bytes that is owned: where the new one lies; what was there stays to be looked at. -/
theorem wpList_append_keep {w : World} {ops : Array Oper} {rest : List Oper} {o : Oper} {a : Act} {Q : Exit → Act → World → Prop} (hgd : o.guard = none) (s x : Operand)
    (ho : o.op = .call { callee := .builtin .append, args := #[s, x], argTypes := #[23, 23] }) (B : Nat) (v : Value) (n : Nat) (xs : List Value) (hs : a.eval s = v) (hown : w.ownsRow B 5 1 v n xs)
    (ad : Addr) (m c : Nat) (news : List Value) (hx : a.eval x = .slice (some ad) m c) (hl : news.length = m * 1) (hnews : ∀ j u, news[j]? = some u → w.cell? (ad.add j) = some u) (h1 : ∀ u ∈ news, u.oneCell' = true)
    (hpos : 0 < m) (hb : n + m ≤ 140737488355328) (hbase : B ≤ w.heap.size)
    (h : ∀ v' w', w'.ownsRow B 5 1 v' (n + m) (xs ++ news) → w'.ownsRow B 5 1 v n xs → w.grownBy w' v.ownBlock → (∀ g, v'.ownBlock = some g → v.ownBlock = some g ∨ w.heap.size ≤ g) → wpList Tryz.prog ops Q rest (a.put o.dst v') w') :
    wpList Tryz.prog ops Q (o :: rest) a w := by
  obtain ⟨i0, hi, hz0, hz1, hz2⟩ := info_parts infoByte
  rcases hown.2 with ⟨rfl, rfl⟩ | ⟨g, cap, cur, rfl, hbg, hg, hnc, hcm, hcs, ht⟩
  · have hx0 : xs = [] := List.eq_nil_of_length_eq_zero (by simpa using hown.1)
    subst hx0
    refine wpList_append_own_at _ hgd s x 23 ho B 5 i0 (.int .u8 0) 1 1 Tryz.underlying23 hi hz0 hz1 hz2 rfl (by decide) _ 0 [] hs hown ad m c news hx hl hnews h1 (by unfold maxLen; omega) (by omega) hbase ?_
    intro v' w' h2 h3 _ h5
    refine h v' w' h2 (World.ownsRow_nil _ _ _ _) h3 (fun g hg => ?_)
    rcases h5 with h5 | h5
    · exact .inl (h5 ▸ hg)
    · rw [h5] at hg; cases hg; exact .inr (Nat.le_refl _)
  · by_cases hr : n + m ≤ cap
    · refine wpList_append_fits _ hgd s x 23 ho B 5 i0 1 Tryz.underlying23 hi hz1 g n cap xs hs hown ad m c news hx hl hnews h1 hr ?_
      intro w' h2 h3
      have h4 := own_cut h2 (Nat.le_add_right n m)
      rw [List.take_left' (by have := hown.1; omega)] at h4
      exact h _ w' h2 h4 h3 (fun g hg => .inl hg)
    · refine wpList_append_grows _ hgd s x 23 ho 5 i0 (.int .u8 0) 1 1 Tryz.underlying23 hi hz0 hz1 hz2 rfl (by decide) _ n cap xs hs (fun e => by cases e) hown.1 (fun b e => by
        cases e
        exact hown.cells (g := g) rfl) ad m c news hx hl hnews h1 (by omega) (by unfold maxLen; omega) (by omega) ?_
      intro v' w' h2 h3
      have h4 : w'.ownsRow B 5 1 (.slice (some ⟨g, 0, none⟩) n cap) n xs := hown.kept h3 (.inr (by simp [Value.ownBlock]))
      refine h v' w' ⟨h2.1, h2.2.imp id fun ⟨g, cap, cur, e1, e2, e3⟩ => ⟨g, cap, cur, e1, Nat.le_trans hbase e2, e3⟩⟩ h4 ⟨h3.os, h3.tape, h3.output, h3.size, fun k hk _ => h3.block k hk (by simp)⟩ (fun g hg => .inr (h2.lt g hg).1)
end Go.Proofs.YtmmebaphhgggfaaGreatDoor
