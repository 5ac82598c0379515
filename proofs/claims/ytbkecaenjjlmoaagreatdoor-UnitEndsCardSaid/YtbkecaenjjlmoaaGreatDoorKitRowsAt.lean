/- Lists that lie apart: whose block is whose; a row that is grown while an elder, shorter look at it stays; marks. -/
/- Rows of bytes that lie apart, in a row of their headers. -/
import Derived.Test.YtbkecaenjjlmoaaGreatDoorKitB
import Derived.ArgAppend
namespace Go.Proofs.YtbkecaenjjlmoaaGreatDoor
open Go.RowKit
/-- The mark of a place in a list of bytes. -/
def mkB (k i : Nat) : Int := IntKind.u64.wrap ((1000003 * ((k : Int) + 7) + (i : Int)) * 11400714819323198485) / 72057594037927936 % 256
theorem mkB_bd (k i : Nat) : 0 ≤ mkB k i ∧ mkB k i < 256 := by unfold mkB; omega
def mkRow (k n : Nat) : List Int := (List.range n).map (mkB k)
theorem mkRow_len (k n : Nat) : (mkRow k n).length = n := by unfold mkRow; simp
theorem mkRow_succ (k n : Nat) : mkRow k (n + 1) = mkRow k n ++ [mkB k n] := by unfold mkRow; rw [List.range_succ, List.map_append]; rfl
theorem mkRow_at (k n i : Nat) (h : i < n) : (mkRow k n)[i]? = some (mkB k i) := by unfold mkRow; rw [List.getElem?_map, List.getElem?_range h]; rfl
theorem mkRow_take (k n m : Nat) (h : m ≤ n) : (mkRow k n).take m = mkRow k m := by
  unfold mkRow; rw [← List.map_take, List.take_range, Nat.min_eq_left h]
theorem mark_any (k i : Nat) (w : World) (hk : k ≤ 1000000) (hi : i ≤ 140737488355328) :
    Calls Tryz.prog 33 #[.int .i64 (k : Int), .int .i64 (i : Int)] w fun e w' => e = .returned (.int .i64 (1000003 * ((k : Int) + 7) + (i : Int))) ∧ w = w' := by
  go_enter Tryz.func33, Tryz.ntmps33
  go_wp2
  go_ret
  exact ⟨rfl, rfl⟩
theorem markByte_any (k i : Nat) (w : World) (hk : k ≤ 1000000) (hi : i ≤ 140737488355328) :
    Calls Tryz.prog 19 #[.int .i64 (k : Int), .int .i64 (i : Int)] w fun e w' => e = .returned (.int .u8 (mkB k i)) ∧ w = w' := by
  have H : IntKind.u64.wrap ((1000003 * ((k : Int) + 7) + (i : Int))) = (1000003 * ((k : Int) + 7) + (i : Int)) := by
    have h0 : ∀ n : Int, IntKind.u64.wrap n = n % 18446744073709551616 := fun n => by simp [IntKind.wrap, IntKind.bits, IntKind.signed]
    rw [h0]; omega
  go_enter Tryz.func19, Tryz.ntmps19
  go_wp2_with fail
  refine (mark_any k i w hk hi).mono ?_
  rintro e w' ⟨rfl, rfl⟩
  go_wp2
  go_ret
  exact ⟨rfl, rfl⟩
theorem markByte_q (k i : Nat) (w : World) (hk : k ≤ 1000000) (hi : i ≤ 140737488355328) :
    Calls Tryz.prog 19 #[.int .i64 (k : Int), .int .i64 (i : Int)] w fun e w' => e = .returned (.int .u8 (mkB k i)) ∧ w' = w :=
  (markByte_any k i w hk hi).mono fun _ _ h => ⟨h.1, h.2.symm⟩
/-- What a value owns, its block has this colour. -/
def Col (col : Nat → Nat) (v : Value) (c : Nat) : Prop := ∀ b, v.ownBlock = some b → col b = c
theorem Col.ne {col : Nat → Nat} {v u : Value} {c d : Nat} (h : Col col v c) (k : Col col u d) (hne : c ≠ d) : v.ownBlock = none ∨ v.ownBlock ≠ u.ownBlock := by
  cases hv : v.ownBlock with
  | none => exact .inl rfl
  | some b =>
    refine .inr fun e => ?_
    exact hne ((h b hv).symm.trans (k b e.symm))
/-- New blocks get a colour. -/
def paint (col : Nat → Nat) (n c : Nat) : Nat → Nat := fun b => if n ≤ b then c else col b
theorem Col.paint {w : World} {B : Nat} {e : TypeId} {size n : Nat} {xs : List Value} {col : Nat → Nat} {v : Value} {c : Nat} (h : Col col v c) (ho : w.ownsRow B e size v n xs) (d : Nat) : Col (paint col w.heap.size d) v c := by
  intro b hb
  have := (ho.lt b hb).2
  unfold Go.Proofs.YtbkecaenjjlmoaaGreatDoor.paint
  rw [if_neg (by omega)]
  exact h b hb
theorem paint_new (col : Nat → Nat) (n c : Nat) (v : Value) (h : v.ownBlock = some n) : Col (paint col n c) v c := by
  intro b hb
  unfold paint
  rw [if_pos]
  rw [h] at hb
  cases hb; omega
/-- Two looks at one block, one shorter: as the longer one stays, so does the shorter one. -/
theorem own_short {w w' : World} {B n m : Nat} {e : TypeId} {v u : Value} {xs ys : List Value} (h : w.ownsRow B e 1 v n xs) (k : w.ownsRow B e 1 u m ys) (hs : u.ownBlock = v.ownBlock) (hnm : n ≤ m) (k' : w'.ownsRow B e 1 u m ys) : w'.ownsRow B e 1 v n xs := by
  refine ⟨h.1, ?_⟩
  rcases h.2 with hv | ⟨g, cap, cur, rfl, hb, hg, hnc, hcm, hcs, ht⟩
  · exact .inl hv
  · rcases k.2 with ⟨rfl, _⟩ | ⟨g1, cap1, cur1, rfl, _, hg1, _, _, hcs1, ht1⟩
    · simp [Value.ownBlock] at hs
    · obtain rfl : g1 = g := by simpa [Value.ownBlock] using hs
      rw [hg] at hg1
      obtain rfl : cur = cur1 := by injection hg1 with hg1; injection hg1
      obtain rfl : cap = cap1 := by omega
      rcases k'.2 with ⟨h0, _⟩ | ⟨g2, cap2, cur2, e2, _, hg2, _, _, hcs2, ht2⟩
      · cases h0
      · obtain ⟨rfl, rfl⟩ : g1 = g2 ∧ cap = cap2 := by simpa using e2
        refine .inr ⟨g1, cap, cur2, rfl, hb, hg2, hnc, hcm, hcs2, ?_⟩
        rw [← ht, show n * 1 = min (n * 1) (m * 1) by omega, ← List.take_take, ← List.take_take, ht2, ht1]
theorem own_cut {w : World} {B n m cap : Nat} {e : TypeId} {g : Nat} {xs : List Value} (h : w.ownsRow B e 1 (.slice (some ⟨g, 0, none⟩) m cap) m xs) (hn : n ≤ m) : w.ownsRow B e 1 (.slice (some ⟨g, 0, none⟩) n cap) n (xs.take n) := by
  rcases h.2 with ⟨h0, _⟩ | ⟨g1, cap1, cur, e1, hb, hg, hnc, hcm, hcs, ht⟩
  · cases h0
  · obtain ⟨rfl, rfl⟩ : g = g1 ∧ cap = cap1 := by simpa using e1
    have hl := h.1
    refine ⟨by rw [List.length_take]; omega, .inr ⟨g, cap, cur, rfl, hb, hg, by omega, hcm, hcs, ?_⟩⟩
    rw [← ht, List.take_take]; congr 1; omega
set_option maxRecDepth 100000 in
/-- append, onto a row of bytes that is owned: where the new one lies; what was there stays to be looked at. -/
theorem wpList_append_keep {w : World} {ops : Array Oper} {rest : List Oper} {o : Oper} {a : Act} {Q : Exit → Act → World → Prop} (hgd : o.guard = none) (s x : Operand)
    (ho : o.op = .call { callee := .builtin .append, args := #[s, x], argTypes := #[22, 22] }) (B : Nat) (v : Value) (n : Nat) (xs : List Value) (hs : a.eval s = v) (hown : w.ownsRow B 5 1 v n xs)
    (ad : Addr) (m c : Nat) (news : List Value) (hx : a.eval x = .slice (some ad) m c) (hl : news.length = m * 1) (hnews : ∀ j u, news[j]? = some u → w.cell? (ad.add j) = some u) (h1 : ∀ u ∈ news, u.oneCell' = true)
    (hpos : 0 < m) (hb : n + m ≤ 140737488355328) (hbase : B ≤ w.heap.size)
    (h : ∀ v' w', w'.ownsRow B 5 1 v' (n + m) (xs ++ news) → w'.ownsRow B 5 1 v n xs → w.grownBy w' v.ownBlock → (∀ g, v'.ownBlock = some g → v.ownBlock = some g ∨ w.heap.size ≤ g) → wpList Tryz.prog ops Q rest (a.put o.dst v') w') :
    wpList Tryz.prog ops Q (o :: rest) a w := by
  obtain ⟨i0, hi, hz0, hz1, hz2⟩ := info_parts infoByte
  rcases hown.2 with ⟨rfl, rfl⟩ | ⟨g, cap, cur, rfl, hbg, hg, hnc, hcm, hcs, ht⟩
  · have hx0 : xs = [] := List.eq_nil_of_length_eq_zero (by simpa using hown.1)
    subst hx0
    refine wpList_append_own_at _ hgd s x 22 ho B 5 i0 (.int .u8 0) 1 1 Tryz.underlying22 hi hz0 hz1 hz2 rfl (by decide) _ 0 [] hs hown ad m c news hx hl hnews h1 (by unfold maxLen; omega) (by omega) hbase ?_
    intro v' w' h2 h3 _ h5
    refine h v' w' h2 (World.ownsRow_nil _ _ _ _) h3 (fun g hg => ?_)
    rcases h5 with h5 | h5
    · exact .inl (h5 ▸ hg)
    · rw [h5] at hg; cases hg; exact .inr (Nat.le_refl _)
  · by_cases hr : n + m ≤ cap
    · refine wpList_append_fits _ hgd s x 22 ho B 5 i0 1 Tryz.underlying22 hi hz1 g n cap xs hs hown ad m c news hx hl hnews h1 hr ?_
      intro w' h2 h3
      have h4 := own_cut h2 (Nat.le_add_right n m)
      rw [List.take_left' (by have := hown.1; omega)] at h4
      exact h _ w' h2 h4 h3 (fun g hg => .inl hg)
    · refine wpList_append_grows _ hgd s x 22 ho 5 i0 (.int .u8 0) 1 1 Tryz.underlying22 hi hz0 hz1 hz2 rfl (by decide) _ n cap xs hs (fun e => by cases e) hown.1 (fun b e => by
        cases e
        exact hown.cells (g := g) rfl) ad m c news hx hl hnews h1 (by omega) (by unfold maxLen; omega) (by omega) ?_
      intro v' w' h2 h3
      have h4 : w'.ownsRow B 5 1 (.slice (some ⟨g, 0, none⟩) n cap) n xs := hown.kept h3 (.inr (by simp [Value.ownBlock]))
      refine h v' w' ⟨h2.1, h2.2.imp id fun ⟨g, cap, cur, e1, e2, e3⟩ => ⟨g, cap, cur, e1, Nat.le_trans hbase e2, e3⟩⟩ h4 ⟨h3.os, h3.tape, h3.output, h3.size, fun k hk _ => h3.block k hk (by simp)⟩ (fun g hg => .inr (h2.lt g hg).1)
end Go.Proofs.YtbkecaenjjlmoaaGreatDoor
namespace Go.Proofs.YtbkecaenjjlmoaaGreatDoor
open Go.RowKit
def upd (c : Nat → List Int) (k : Nat) (ys : List Int) : Nat → List Int := fun j => if j = k then ys else c j
theorem upd_same (c : Nat → List Int) (k : Nat) (ys : List Int) : upd c k ys k = ys := if_pos rfl
theorem upd_other (c : Nat → List Int) (k j : Nat) (ys : List Int) (h : j ≠ k) : upd c k ys j = c j := if_neg h
/-- The headers vs in a row of colour o; the rows that are told of, of colours of their own, with their bytes. -/
structure RowsAt (col : Nat → Nat) (B o K : Nat) (lv : Value) (vs : List Value) (ok : Nat → Prop) (c : Nat → List Int) (w : World) : Prop where
  len : vs.length = K
  outer : w.ownsRow B 22 1 lv K vs
  ocol : Col col lv o
  row : ∀ k v, vs[k]? = some v → ok k → w.ownsRow B 5 1 v (c k).length (u8s (c k)) ∧ Col col v (k + 2)
section
variable {col : Nat → Nat} {B o K : Nat} {lv : Value} {vs : List Value} {ok : Nat → Prop} {c : Nat → List Int} {w w' : World}
theorem RowsAt.lt (h : RowsAt col B o K lv vs ok c w) {k : Nat} {v : Value} (hv : vs[k]? = some v) : k < K := by rw [← h.len]; exact (List.getElem?_eq_some_iff.1 hv).1
theorem RowsAt.far (h : RowsAt col B o K lv vs ok c w) {row : Option Nat} (hg : w.grownBy w' row) (hr : ∀ b, row = some b → col b ≠ o ∧ ∀ k, k < K → ok k → col b ≠ k + 2) : RowsAt col B o K lv vs ok c w' := by
  refine ⟨h.len, h.outer.kept hg ?_, h.ocol, fun k v hv hk => ⟨(h.row k v hv hk).1.kept hg ?_, (h.row k v hv hk).2⟩⟩
  · cases hb : lv.ownBlock with
    | none => exact .inl rfl
    | some b => exact .inr fun e => (hr b e.symm).1 (h.ocol b hb)
  · cases hb : v.ownBlock with
    | none => exact .inl rfl
    | some b => exact .inr fun e => (hr b e.symm).2 k (h.lt hv) hk ((h.row k v hv hk).2 b hb)
theorem RowsAt.below (h : RowsAt col B o K lv vs ok c w) (hb : Below w.heap.size w w') : RowsAt col B o K lv vs ok c w' := h.far (grown_of_below hb) (fun b e => by cases e)
theorem RowsAt.alloc (h : RowsAt col B o K lv vs ok c w) (x : Obj) : RowsAt col B o K lv vs ok c (w.alloc x) := h.far (World.grownBy_alloc w x none) (fun b e => by cases e)
theorem RowsAt.paint (h : RowsAt col B o K lv vs ok c w) (d : Nat) : RowsAt (paint col w.heap.size d) B o K lv vs ok c w :=
  ⟨h.len, h.outer, h.ocol.paint h.outer d, fun k v hv hk => ⟨(h.row k v hv hk).1, (h.row k v hv hk).2.paint (h.row k v hv hk).1 d⟩⟩
theorem RowsAt.weak (h : RowsAt col B o K lv vs ok c w) {ok' : Nat → Prop} (hk : ∀ k, k < K → ok' k → ok k) : RowsAt col B o K lv vs ok' c w := ⟨h.len, h.outer, h.ocol, fun k v hv h' => h.row k v hv (hk k (h.lt hv) h')⟩
theorem RowsAt.cong (h : RowsAt col B o K lv vs ok c w) {c' : Nat → List Int} (hc : ∀ k, k < K → ok k → c' k = c k) : RowsAt col B o K lv vs ok c' w := ⟨h.len, h.outer, h.ocol, fun k v hv h' => by rw [hc k (h.lt hv) h']; exact h.row k v hv h'⟩
/-- One row is told of anew. -/
theorem RowsAt.tell (h : RowsAt col B o K lv vs ok c w) {k : Nat} {v : Value} {ys : List Int} (hv : vs[k]? = some v) (ho : w.ownsRow B 5 1 v ys.length (u8s ys)) (hc : Col col v (k + 2)) : RowsAt col B o K lv vs (fun j => ok j ∨ j = k) (upd c k ys) w := by
  refine ⟨h.len, h.outer, h.ocol, fun j u hu hj => ?_⟩
  by_cases e : j = k
  · subst e
    rw [hv] at hu
    obtain rfl := Option.some.inj hu
    rw [upd_same]; exact ⟨ho, hc⟩
  · rw [upd_other _ _ _ _ e]
    exact h.row j u hu (hj.resolve_right e)
/-- One row's bytes turn. -/
theorem RowsAt.turn (h : RowsAt col B o K lv vs ok c w) {k : Nat} {v : Value} {ys : List Int} {row : Option Nat} (hv : vs[k]? = some v) (hg : w.grownBy w' row) (hr : ∀ b, row = some b → col b = k + 2) (ho2 : o < 2) (hk : ok k) (ho : w'.ownsRow B 5 1 v ys.length (u8s ys)) : RowsAt col B o K lv vs ok (upd c k ys) w' := by
  have h1 : RowsAt col B o K lv vs (fun j => ok j ∧ j ≠ k) c w' := (h.weak (ok' := fun j => ok j ∧ j ≠ k) (fun _ _ h => h.1)).far hg (fun b e => ⟨by rw [hr b e]; omega, fun j _ hj => by rw [hr b e]; have := hj.2; omega⟩)
  refine (h1.tell hv ho (h.row k v hv hk).2).weak fun j _ hj => ?_
  by_cases e : j = k
  · exact .inr e
  · exact .inl ⟨hj, e⟩
/-- One header turns. -/
theorem RowsAt.head {g cap : Nat} (h : RowsAt col B o K (.slice (some ⟨g, 0, none⟩) K cap) vs ok c w) (ho2 : o < 2) (k : Nat) (v : Value) (hk : ¬ ok k) :
    RowsAt col B o K (.slice (some ⟨g, 0, none⟩) K cap) (vs.set k v) ok c (w.setCell ⟨g, k, none⟩ v) ∧ w.grownBy (w.setCell ⟨g, k, none⟩ v) (some g) := by
  obtain ⟨s1, s2⟩ := h.outer.stored k v
  refine ⟨⟨by rw [List.length_set]; exact h.len, s1, h.ocol, fun j u hu hj => ?_⟩, s2⟩
  have hjk : k ≠ j := by rintro rfl; exact hk hj
  rw [List.getElem?_set_ne hjk] at hu
  obtain ⟨r1, r2⟩ := h.row j u hu hj
  refine ⟨r1.kept s2 ?_, r2⟩
  have hc := h.ocol g rfl
  cases hb : u.ownBlock with
  | none => exact .inl rfl
  | some b =>
    refine .inr fun e => ?_
    have h2 := r2 b hb
    obtain rfl := Option.some.inj e
    omega
end
theorem getD_of {α : Type} (l : List α) (k : Nat) (x y : α) (h : l[k]? = some x) : l.getD k y = x := by rw [List.getD_eq_getElem?_getD, h]; rfl
theorem own_cell {w : World} {B n cap g : Nat} {zs : List Int} (h : w.ownsRow B 5 1 (.slice (some ⟨g, 0, none⟩) n cap) n (u8s zs)) (i : Nat) (hi : i < n) : ∃ z, zs[i]? = some z ∧ w.cell? ⟨g, i, none⟩ = some (.int .u8 z) := by
  have hl : zs.length = n := by have := h.1; rw [u8s_len] at this; omega
  refine ⟨zs[i], List.getElem?_eq_getElem (by omega), ?_⟩
  rw [h.cellAt i (by omega)]
  simp [u8s, List.getElem?_eq_getElem (show i < zs.length by omega)]
theorem upd_upd (c : Nat → List Int) (k : Nat) (xs ys : List Int) : upd (upd c k xs) k ys = upd c k ys := by
  funext j; unfold upd; split <;> rfl
theorem upd_self (c : Nat → List Int) (k : Nat) : upd c k (c k) = c := by
  funext j; unfold upd; split <;> simp_all
/-- One byte of a row turns. -/
theorem RowsAt.put {col : Nat → Nat} {B o K g n cap k : Nat} {lv : Value} {vs : List Value} {ok : Nat → Prop} {c : Nat → List Int} {ys : List Int} {w : World} (h : RowsAt col B o K lv vs ok (upd c k ys) w) (ho2 : o < 2) (hv : vs[k]? = some (.slice (some ⟨g, 0, none⟩) n cap)) (hk : ok k) (hn : ys.length = n) (q : Nat) (m : Int) :
    RowsAt col B o K lv vs ok (upd c k (ys.set q m)) (w.setCell ⟨g, q, none⟩ (.int .u8 m)) ∧ w.grownBy (w.setCell ⟨g, q, none⟩ (.int .u8 m)) (some g) ∧ B ≤ g ∧ col g = k + 2 := by
  obtain ⟨r1, r2⟩ := h.row k _ hv hk
  rw [upd_same, hn] at r1
  obtain ⟨s1, s2⟩ := r1.stored q (.int .u8 m)
  rw [u8s_set] at s1
  have hc := r2 g rfl
  have h2 := h.turn (ys := ys.set q m) hv s2 (fun b e => by cases e; exact hc) ho2 hk (by rw [List.length_set, hn]; exact s1)
  rw [upd_upd] at h2
  exact ⟨h2, s2, (r1.lt g rfl).1, hc⟩
theorem take_set {l : List Int} {q : Nat} {a : List Int} (m : Int) (h : l.take q = a) (hq : q < l.length) : (l.set q m).take (q + 1) = a ++ [m] := by
  rw [List.take_add_one, List.take_set_of_le (Nat.le_refl q), h, List.getElem?_set_self hq]; rfl
/-- A row's header and one of its bytes. -/
theorem RowsAt.look {col : Nat → Nat} {B o K k L cap : Nat} {vs : List Value} {ok : Nat → Prop} {c : Nat → List Int} {w : World} (h : RowsAt col B o K (.slice (some ⟨L, 0, none⟩) K cap) vs ok c w) (hk : k < K) (hok : ok k) :
    ∃ V vc, w.cell? ⟨L, k, none⟩ = some (.slice V (c k).length vc) ∧ vs[k]? = some (.slice V (c k).length vc) ∧ (c k).length ≤ vc ∧ vc ≤ 9223372036854775807 ∧ ∀ i, i < (c k).length → ∃ g, V = some ⟨g, 0, none⟩ ∧ w.cell? ⟨g, i, none⟩ = some (.int .u8 ((c k).getD i 0)) := by
  obtain ⟨v, hv⟩ : ∃ v, vs[k]? = some v := ⟨_, List.getElem?_eq_getElem (by rw [h.len]; exact hk)⟩
  have hr := (h.row k v hv hok).1
  obtain ⟨V, vc, rfl, h1, h2⟩ := own_slice hr
  refine ⟨V, vc, by rw [h.outer.cellAt k (by omega), hv], hv, h1, h2, fun i hi => ?_⟩
  obtain ⟨g, cp, e, _⟩ := own_form hr (by omega)
  obtain ⟨rfl, rfl⟩ : V = some ⟨g, 0, none⟩ ∧ vc = cp := by simpa using e
  obtain ⟨z, hz, hc⟩ := own_cell hr i hi
  exact ⟨g, rfl, by rw [hc, getD_of _ _ _ _ hz]⟩
theorem mkRow_getD (k n i : Nat) (h : i < n) : (mkRow k n).getD i 0 = mkB k i := getD_of _ _ _ _ (mkRow_at k n i h)
/-- A longer look at row k is grown: what happens to all rows. -/
theorem flat_grow {col : Nat → Nat} {B K k m : Nat} {lv gv g g' v : Value} {vs us : List Value} {ok : Nat → Prop} {c d : Nat → List Int} {xs : List Value} {w w' : World}
    (hL : RowsAt col B 0 K lv vs (fun _ => True) c w) (hG : RowsAt col B 1 K gv us ok d w) (hv : vs[k]? = some v) (hk : ¬ ok k) (ho : w.ownsRow B 5 1 g m xs) (hm : (c k).length ≤ m) (hc : Col col g (k + 2))
    (h2 : w'.ownsRow B 5 1 g m xs) (h3 : w.grownBy w' g.ownBlock) (h4 : ∀ b, g'.ownBlock = some b → g.ownBlock = some b ∨ w.heap.size ≤ b) :
    RowsAt (paint col w.heap.size (k + 2)) B 0 K lv vs (fun _ => True) c w' ∧ RowsAt (paint col w.heap.size (k + 2)) B 1 K gv us ok d w' ∧ Col (paint col w.heap.size (k + 2)) g' (k + 2) := by
  have hc' := hc.paint ho (k + 2)
  refine ⟨?_, ?_, ?_⟩
  · have hp := hL.paint (k + 2)
    obtain ⟨r1, r2⟩ := hL.row k v hv trivial
    have r3 : w'.ownsRow B 5 1 v (c k).length (u8s (c k)) := by
      by_cases e : g.ownBlock = v.ownBlock
      · exact own_short r1 ho e hm h2
      · refine r1.kept h3 ?_
        cases hb : v.ownBlock with
        | none => exact .inl rfl
        | some b => exact .inr (fun h => e (by rw [hb, h]))
    have := hp.turn hv h3 (fun b e => hc' b e) (by decide) trivial r3
    rwa [upd_self] at this
  · refine (hG.paint (k + 2)).far h3 (fun b e => ?_)
    have := hc' b e
    refine ⟨by omega, fun j _ hj => ?_⟩
    have hjk : j ≠ k := by rintro rfl; exact hk hj
    omega
  · intro b hb
    rcases h4 b hb with h | h
    · exact hc' b h
    · unfold paint; rw [if_pos h]
/-- What is grown is kept among the grown ones. -/
theorem flat_keep {col : Nat → Nat} {B K k m G cap : Nat} {lv g : Value} {vs us : List Value} {ok : Nat → Prop} {c d : Nat → List Int} {xs : List Int} {w : World}
    (hL : RowsAt col B 0 K lv vs (fun _ => True) c w) (hG : RowsAt col B 1 K (.slice (some ⟨G, 0, none⟩) K cap) us ok d w) (hk : ¬ ok k) (hkK : k < K) (ho : w.ownsRow B 5 1 g m (u8s xs)) (hc : Col col g (k + 2)) :
    RowsAt col B 0 K lv vs (fun _ => True) c (w.setCell ⟨G, k, none⟩ g) ∧ RowsAt col B 1 K (.slice (some ⟨G, 0, none⟩) K cap) (us.set k g) (fun j => ok j ∨ j = k) (upd d k xs) (w.setCell ⟨G, k, none⟩ g) ∧ w.grownBy (w.setCell ⟨G, k, none⟩ g) (some G) ∧ B ≤ G := by
  obtain ⟨s1, s2⟩ := hG.head (by decide) k g hk
  have hcG : col G = 1 := hG.ocol G rfl
  refine ⟨hL.far s2 (fun b e => ?_), s1.tell (List.getElem?_set_self (by rw [hG.len]; exact hkK)) ?_ hc, s2, (hG.outer.lt G rfl).1⟩
  · cases e
    exact ⟨by omega, fun j _ _ => by omega⟩
  · have hl : xs.length = m := by have := ho.1; rw [u8s_len] at this; omega
    rw [hl]
    refine ho.kept s2 ?_
    cases hb : g.ownBlock with
    | none => exact .inl rfl
    | some b =>
      refine .inr fun e => ?_
      have h2 := hc b hb
      obtain rfl := Option.some.inj e
      omega
end Go.Proofs.YtbkecaenjjlmoaaGreatDoor
