/- CodeEnds: the law's walk. -/
import Derived.Test.YtifoiiaddcgngaaGreatDoorLaw02Long
import Derived.Test.YtifoiiaddcgngaaGreatDoorLaw02None
import Derived.Test.YtifoiiaddcgngaaGreatDoorLaw02PutsLaw
import Derived.Deep.OwnRows
namespace Go.Proofs.YtifoiiaddcgngaaGreatDoor
open Go.RowKit
def e15 : List Int := [-9223372036854775808, -1, 0, 1, 255, 256, 65535, 65536, 4294967295, 4294967296, 1099511627775, 1099511627776, 1099511627777, 281474976710656, 9223372036854775807]
theorem e15_bd : ∀ z ∈ e15, -9223372036854775808 ≤ z ∧ z ≤ 9223372036854775807 := by decide
theorem e15_at (w : World) (g : Nat) (h : BlockIs w g 3 (i64s e15).toArray) : IntsAt w (some ⟨g, 0, none⟩) e15 := by
  refine ⟨e15_bd, fun _ => ⟨g, 0, rfl, fun i hi => ?_⟩⟩
  rw [Nat.zero_add, h.cell, List.getElem?_toArray]
  unfold i64s
  rw [List.getElem?_map, List.getD_eq_getElem?_getD, List.getElem?_eq_getElem hi]; rfl
/-- append onto bytes that are owned, of an operation whose guard lets it by. -/
theorem wpList_append_bytes_g {w : World} {ops : Array Oper} {rest : List Oper} {o : Oper} {a : Act} {Q : Exit → Act → World → Prop} (hw : Region.wanted o (yielded ops a.tmps) = true) (s x : Operand)
    (ho : o.op = .call { callee := .builtin .append, args := #[s, x], argTypes := #[23, 23] }) (base : Nat) (v : Value) (n : Nat) (xs : List Int) (hs : a.eval s = v) (hown : w.ownsRow base 5 1 v n (u8s xs))
    (A : Option Addr) (zs : List Int) (m c : Nat) (hx : a.eval x = .slice A m c) (hm : zs.length = m) (hz : BytesAt w A zs) (hA : A = none → c = 0) (hb : n + m ≤ 140737488355328) (hbase : base ≤ w.heap.size)
    (h : ∀ v' w', w'.ownsRow base 5 1 v' (n + m) (u8s (xs ++ zs)) → w.grownBy w' v.ownBlock → (v'.ownBlock = v.ownBlock ∨ ∃ b, v'.ownBlock = some b ∧ w.heap.size ≤ b) → wpList Tryz.prog ops Q rest (a.put o.dst v') w') : wpList Tryz.prog ops Q (o :: rest) a w := by
  refine wpList_step fun K hK => ?_
  rw [if_pos hw]
  obtain ⟨i0, hi, hz0, hz1, hz2⟩ := info_parts infoByte
  subst hm
  cases A with
  | none =>
    have hnil : zs = [] := by
      apply Classical.byContradiction
      intro hne
      obtain ⟨b, off, e⟩ := hz.some_ hne
      cases e
    subst hnil
    obtain rfl : c = 0 := hA rfl
    have hr := run_append_owned_none (P := Tryz.prog) (w := w) base 23 o.type 5 i0 1 Tryz.underlying23 hi v n (u8s xs) hown
    unfold Oper.wp execOp
    have hx' : a.eval x = .slice none 0 0 := hx
    simp only [ho, resolve, invoke, builtin, Sem.run_bind, Sem.run_pure, Result.andThen_ok, List.map_toArray, List.map_cons, List.map_nil, hs, hx', hr]
    refine hK _ _ ?_
    exact h v w (own_same hown (by simp) (by simp)) (World.grownBy.refl _ _) (.inl rfl)
  | some ad =>
    have hsrc : ∀ j u, (u8s zs)[j]? = some u → w.cell? (ad.add j) = some u := fun j u hj => by
      have hne : zs ≠ [] := by intro e; subst e; simp [u8s] at hj
      obtain ⟨b, off, e, hc⟩ := hz.2 hne
      obtain rfl : ad = ⟨b, off, none⟩ := by simpa using e
      simp only [u8s, List.getElem?_map] at hj
      cases hq : zs[j]? with
      | none => simp [hq] at hj
      | some z =>
        obtain rfl : Value.int .u8 z = u := by simpa [hq] using hj
        have h1 := hc j (List.getElem?_eq_some_iff.1 hq).1
        rw [List.getD_eq_getElem?_getD, hq] at h1
        have hadd : (⟨b, off, none⟩ : Addr).add j = ⟨b, off + j, none⟩ := by unfold Addr.add; split <;> simp_all
        rw [hadd]; exact h1
    obtain ⟨v', w', hr, h2, h3, h4, h5⟩ := run_append_own_at (P := Tryz.prog) w base 23 o.type 5 i0 (.int .u8 0) 1 1 Tryz.underlying23 hi hz0 hz1 hz2 rfl (by decide) v n (u8s xs) hown ad zs.length c (u8s zs) (by rw [u8s_len, Nat.mul_one]) hsrc (u8s_one zs) (by unfold maxLen; omega) (by omega) hbase
    unfold Oper.wp execOp
    simp only [ho, resolve, invoke, builtin, Sem.run_bind, Sem.run_pure, Result.andThen_ok, List.map_toArray, List.map_cons, List.map_nil, hs, hx, hr]
    refine hK _ _ ?_
    exact h v' w' (own_same h2 rfl (by rw [u8s_app])) h3 (h5.imp id fun e => ⟨_, e, Nat.le_refl _⟩)
theorem ints_tail {w : World} {g off : Nat} {z : Int} {zs : List Int} (h : IntsAt w (some ⟨g, off, none⟩) (z :: zs)) : IntsAt w (some ⟨g, off + 1, none⟩) zs := by
  refine ⟨fun y hy => h.1 y (List.mem_cons_of_mem _ hy), fun hne => ⟨g, off + 1, rfl, fun i hi => ?_⟩⟩
  have := h.one (i + 1) (by simp; omega)
  rw [show off + 1 + i = off + (i + 1) by omega, this]
  simp
/-- What puts tells of a row of parts that is laid anew. -/
def PutsTold (W : World) (e : Ending) (w' : World) : Prop := ∃ X cap y, e = .returned (.tuple #[.slice X (List.length (α := Int) y) cap, .bool true]) ∧ w'.ownsRow W.heap.size 5 1 (.slice X y.length cap) y.length (u8s y) ∧ (∀ z ∈ y, 0 ≤ z ∧ z < 256) ∧ y.length ≤ 1000000 ∧ Below W.heap.size W w'
theorem puts_lit (W : World) (ps : List PartV) (cs : Array Value) (n : Nat) (hn : ps.length = n) (hok : ∀ p ∈ ps, p.ok W) (hnn : ∀ p ∈ ps, p.nA = none → p.nc = 0) (ht : tot ps ≤ 30000) (hc : cs.toList = ps.flatMap PartV.cells) :
    Calls Tryz.prog 4 #[.slice (some ⟨W.heap.size, 0, none⟩) n n] (W.alloc (.cells cs 30)) (PutsTold W) := by
  subst hn
  have hbn := below_new W (.cells cs 30)
  refine (puts_any _ _ ps ps.length (pv_lit W ps cs hok hc) hnn ht).mono ?_
  rintro e w2 ⟨v, rfl, ⟨X, cp, rfl, hown, hbd, hln⟩, hb2⟩
  exact ⟨X, cp, _, rfl, own_base hown hbn.size, hbd, hln, hbn.trans (hb2.mono hbn.size)⟩
/-- What was told, all of it newer than w0. -/
def EndTold (w0 : World) (v : Value) (wx : World) : Prop := ∃ X cap y, v = .slice X (List.length (α := Int) y) cap ∧ wx.ownsRow w0.heap.size 5 1 (.slice X y.length cap) y.length (u8s y) ∧ (∀ z ∈ y, 0 ≤ z ∧ z < 256) ∧ y.length ≤ 1000000 ∧ Below w0.heap.size w0 wx
theorem gets_lit (σ : Sen) (w0 W : World) (hG : GlAt σ w0) (hb : Below w0.heap.size w0 W) (B : Option Addr) (y : List Int) (cb : Nat) (hz : BytesAt W B y) (hl : y.length ≤ 140737488351232) (hB : B = none → cb = 0) (hcb : y.length ≤ cb ∧ cb ≤ 9223372036854775807)
    (ps : List PartV) (cs : Array Value) (n : Nat) (hn : ps.length = n) (hok : ∀ p ∈ ps, p.ok W) (hpl : ps.length ≤ 140737488351232) (hc : cs.toList = ps.flatMap PartV.cells) :
    Calls Tryz.prog 5 #[.slice B y.length cb, .slice (some ⟨W.heap.size, 0, none⟩) n n] (W.alloc (.cells cs 30)) fun e w' => e = .returned (.bool true) ∧ Below W.heap.size W w' := by
  subst hn
  have hbn := below_new W (.cells cs 30)
  refine (gets_any σ _ (hG.below (hb.trans (hbn.mono hb.size))) B y cb (hz.below hbn) hl hB hcb _ ps ps.length (pv_lit W ps cs hok hc) hpl).mono ?_
  rintro e w2 ⟨rfl, hb2⟩
  exact ⟨rfl, hbn.trans (hb2.mono hbn.size)⟩
theorem codePuts_lit (σ : Sen) (w0 W : World) (hG : GlAt σ w0) (hb : Below w0.heap.size w0 W) (ps : List PartV) (cs : Array Value) (n : Nat) (hn : ps.length = n) (hok : ∀ p ∈ ps, p.ok W) (hnn : ∀ p ∈ ps, p.nA = none → p.nc = 0) (hpl : ps.length ≤ 140737488351232) (hc : cs.toList = ps.flatMap PartV.cells) :
    Calls Tryz.prog 6 #[.slice (some ⟨W.heap.size, 0, none⟩) n n] (W.alloc (.cells cs 30)) fun e w' => e = .returned (.bool true) ∧ Below W.heap.size W w' := by
  subst hn
  have hbn := below_new W (.cells cs 30)
  refine (codePuts_any σ _ (hG.below (hb.trans (hbn.mono hb.size))).f _ ps ps.length (pv_lit W ps cs hok hc) hpl hnn).mono ?_
  rintro e w2 ⟨rfl, hb2⟩
  exact ⟨rfl, hbn.trans (hb2.mono hbn.size)⟩
/-- An entry, all of it newer than w0. -/
def EndEnt (w0 : World) (v : Value) (wx : World) : Prop := ∃ (g : Nat) (E : Ent) (A : Option Addr) (c : Nat), v = .pointer (some ⟨g, 0, none⟩) ∧ BlockIs wx g 28 #[.int .i64 E.index, .int .i64 E.term, .int .i64 E.kind, .slice A E.body.length c] ∧ BytesAt wx A E.body ∧ (A = none → c = 0) ∧ E.body.length ≤ 300 ∧ i64ok E.index ∧ i64ok E.term ∧ i64ok E.kind ∧ Below w0.heap.size w0 wx
theorem bytes_made (W : World) (n : Nat) : BytesAt (W.alloc (.cells (madeCells #[.int .u8 0] n) 5)) (some ⟨W.heap.size, 0, none⟩) (List.replicate n 0) := by
  have h := bytesAt_lit W (List.replicate n 0) (fun z hz => by obtain rfl := List.eq_of_mem_replicate hz; omega)
  rwa [show (u8s (List.replicate n 0)).toArray = madeCells #[.int .u8 0] n from Array.toList_inj.1 (by rw [u8s_rep]; exact (toList_madeCells_one _ _).symm)] at h
theorem endEnt_1 (w0 W : World) (hb : Below w0.heap.size w0 W) (x y z : Int) (n : Nat) (hn : n ≤ 300) (hx : i64ok x) (hy : i64ok y) (hz : i64ok z) :
    EndEnt w0 (.pointer (some ⟨W.heap.size + 1, 0, none⟩)) ((W.alloc (.cells (madeCells #[.int .u8 0] n) 5)).alloc (.cells #[.int .i64 x, .int .i64 y, .int .i64 z, .slice (some ⟨W.heap.size, 0, none⟩) n n] 28)).drew := by
  have hb1 := below_new W (.cells (madeCells #[.int .u8 0] n) 5)
  have hs1 : (W.alloc (.cells (madeCells #[.int .u8 0] n) 5)).heap.size = W.heap.size + 1 := by simp
  have hB := bytes_made W n
  generalize W.alloc _ = W1 at *
  have hb2 := below_new W1 (.cells #[.int .i64 x, .int .i64 y, .int .i64 z, .slice (some ⟨W.heap.size, 0, none⟩) n n] 28)
  have hE := BlockIs.made W1 28 #[.int .i64 x, .int .i64 y, .int .i64 z, .slice (some ⟨W.heap.size, 0, none⟩) n n]
  rw [hs1] at hE
  have hsz := hb.size
  exact ⟨W.heap.size + 1, ⟨x, y, z, List.replicate n 0⟩, some ⟨W.heap.size, 0, none⟩, n, rfl, by rw [List.length_replicate]; exact hE, hB.below hb2.drew, (fun e => by cases e), by rw [List.length_replicate]; exact hn, hx, hy, hz, ((hb.trans (hb1.mono hsz)).trans (hb2.mono (by omega))).drew⟩
theorem endEnt_2 (w0 W : World) (hb : Below w0.heap.size w0 W) (x y z : Int) (n : Nat) (hn : n ≤ 300) (hx : i64ok x) (hy : i64ok y) (hz : i64ok z) :
    EndEnt w0 (.pointer (some ⟨W.heap.size, 0, none⟩)) ((W.alloc (.cells #[.int .i64 x, .int .i64 y, .int .i64 z, .slice (some ⟨W.heap.size + 1, 0, none⟩) n n] 28)).alloc (.cells (madeCells #[.int .u8 0] n) 5)).drew := by
  have hb1 := below_new W (.cells #[.int .i64 x, .int .i64 y, .int .i64 z, .slice (some ⟨W.heap.size + 1, 0, none⟩) n n] 28)
  have hs1 : (W.alloc (.cells #[.int .i64 x, .int .i64 y, .int .i64 z, .slice (some ⟨W.heap.size + 1, 0, none⟩) n n] 28)).heap.size = W.heap.size + 1 := by simp
  have hE := BlockIs.made W 28 #[.int .i64 x, .int .i64 y, .int .i64 z, .slice (some ⟨W.heap.size + 1, 0, none⟩) n n]
  generalize W.alloc _ = W1 at *
  have hb2 := below_new W1 (.cells (madeCells #[.int .u8 0] n) 5)
  have hB := bytes_made W1 n
  rw [hs1] at hB
  have hsz := hb.size
  exact ⟨W.heap.size, ⟨x, y, z, List.replicate n 0⟩, some ⟨W.heap.size + 1, 0, none⟩, n, rfl, by rw [List.length_replicate]; exact hE.below hb2.drew (by omega), hB, (fun e => by cases e), by rw [List.length_replicate]; exact hn, hx, hy, hz, ((hb.trans (hb1.mono hsz)).trans (hb2.mono (by omega))).drew⟩
/-- A part that holds an entry. -/
def entP (kind : Int) (E : Ent) (A : Option Addr) (c : Nat) : PartV := ⟨kind, 0, 0, E, none, [], 0, none, [], 0, A, c⟩
theorem ent_ok {w : World} {kind : Int} {E : Ent} {A : Option Addr} {c : Nat} (hk : i64ok kind) (hz : BytesAt w A E.body) (hn : A = none → c = 0) (hl : E.body.length ≤ 140737488351232) (h1 : i64ok E.index) (h2 : i64ok E.term) (h3 : i64ok E.kind) : (entP kind E A c).ok w :=
  ⟨IntsAt.nil _ _, BytesAt.nil _ _, hz, fun _ => rfl, hn, ⟨hk, i64zr, i64zr, h1, h2, h3⟩, ⟨Nat.zero_le _, Nat.zero_le _, hl⟩⟩
theorem ints_one {w : World} {g off : Nat} {z : Int} (h : w.cell? ⟨g, off, none⟩ = some (.int .i64 z)) (hb : -9223372036854775808 ≤ z ∧ z ≤ 9223372036854775807) : IntsAt w (some ⟨g, off, none⟩) [z] :=
  ⟨fun y hy => by obtain rfl := List.mem_singleton.1 hy; exact hb, fun _ => ⟨g, off, rfl, fun i hi => by
    obtain rfl : i = 0 := by simpa using hi
    exact h⟩⟩
/-- A part that holds a text. -/
def textP (kind : Int) (A : Option Addr) (ts : List Int) (c : Nat) : PartV := ⟨kind, 0, 0, noEnt, none, [], 0, A, ts, c, none, 0⟩
theorem text_ok {w : World} {kind : Int} {A : Option Addr} {ts : List Int} {c : Nat} (hk : i64ok kind) (hz : BytesAt w A ts) (hn : A = none → c = 0) (hl : ts.length ≤ 140737488351232) : (textP kind A ts c).ok w :=
  ⟨IntsAt.nil _ _, hz, BytesAt.nil _ _, hn, fun _ => rfl, ⟨hk, i64zr, i64zr, i64zr, i64zr, i64zr⟩, ⟨Nat.zero_le _, hl, Nat.zero_le _⟩⟩
theorem whole_any (w0 wr : World) (hb : Below w0.heap.size w0 wr) :
    Calls Tryz.prog 4 #[.slice (some ⟨wr.heap.size + 1 + 1 + 1, 0, none⟩) 3 3]
      ((((wr.alloc (.cells #[.int .u8 98, .int .u8 111, .int .u8 100, .int .u8 121] 5 (4, 5))).alloc (.cells #[.int .u8 116, .int .u8 101, .int .u8 120, .int .u8 116] 5 (4, 5))).alloc (.cells #[.int .i64 1, .int .i64 1099511627776] 3)).alloc
        (.cells #[.int .i64 3, .int .i64 0, .slice none 0 0, .slice none 0 0, .int .i64 9, .int .i64 1099511627776, .int .i64 2, .slice (some ⟨wr.heap.size, 0, none⟩) 4 4, .int .i64 0, .int .i64 1, .int .i64 0, .slice none 0 0, .slice (some ⟨wr.heap.size + 1, 0, none⟩) 4 4, .int .i64 0, .int .i64 0, .int .i64 0, .slice none 0 0, .int .i64 0, .int .i64 2, .int .i64 0, .slice (some ⟨wr.heap.size + 1 + 1, 0, none⟩) 2 2, .slice none 0 0, .int .i64 0, .int .i64 0, .int .i64 0, .slice none 0 0, .int .i64 0] 30))
      fun e w' => ∃ v, e = .returned (.tuple #[v, .bool true]) ∧ EndTold w0 v w' := by
  have hsz := hb.size
  have hb1 := below_new wr (.cells #[.int .u8 98, .int .u8 111, .int .u8 100, .int .u8 121] 5 (4, 5))
  have hz1 : BytesAt (wr.alloc (.cells #[.int .u8 98, .int .u8 111, .int .u8 100, .int .u8 121] 5 (4, 5))) (some ⟨wr.heap.size, 0, none⟩) [98, 111, 100, 121] := bytesAt_marked wr [98, 111, 100, 121] (4, 5) (by decide)
  have hs1 : (wr.alloc (.cells #[.int .u8 98, .int .u8 111, .int .u8 100, .int .u8 121] 5 (4, 5))).heap.size = wr.heap.size + 1 := by simp
  generalize wr.alloc (.cells #[.int .u8 98, .int .u8 111, .int .u8 100, .int .u8 121] 5 (4, 5)) = W1 at *
  have hb2 := below_new W1 (.cells #[.int .u8 116, .int .u8 101, .int .u8 120, .int .u8 116] 5 (4, 5))
  have hz2 : BytesAt (W1.alloc (.cells #[.int .u8 116, .int .u8 101, .int .u8 120, .int .u8 116] 5 (4, 5))) (some ⟨W1.heap.size, 0, none⟩) [116, 101, 120, 116] := bytesAt_marked W1 [116, 101, 120, 116] (4, 5) (by decide)
  have hs2 : (W1.alloc (.cells #[.int .u8 116, .int .u8 101, .int .u8 120, .int .u8 116] 5 (4, 5))).heap.size = W1.heap.size + 1 := by simp
  generalize W1.alloc (.cells #[.int .u8 116, .int .u8 101, .int .u8 120, .int .u8 116] 5 (4, 5)) = W2 at *
  have hb3 := below_new W2 (.cells #[.int .i64 1, .int .i64 1099511627776] 3)
  have hz3 : IntsAt (W2.alloc (.cells #[.int .i64 1, .int .i64 1099511627776] 3)) (some ⟨W2.heap.size, 0, none⟩) [1, 1099511627776] := intsAt_lit W2 [1, 1099511627776] (by decide)
  have hs3 : (W2.alloc (.cells #[.int .i64 1, .int .i64 1099511627776] 3)).heap.size = W2.heap.size + 1 := by simp
  generalize W2.alloc (.cells #[.int .i64 1, .int .i64 1099511627776] 3) = W3 at *
  rw [hs1] at hz2
  rw [hs2, hs1] at hz3
  have hb13 : Below w0.heap.size w0 W3 := ((hb.trans (hb1.mono hsz)).trans (hb2.mono (by omega))).trans (hb3.mono (by omega))
  have h := puts_lit W3 [entP 3 ⟨9, 1099511627776, 2, [98, 111, 100, 121]⟩ (some ⟨wr.heap.size, 0, none⟩) 4, textP 1 (some ⟨wr.heap.size + 1, 0, none⟩) [116, 101, 120, 116] 4, numsV 2 0 (some ⟨wr.heap.size + 1 + 1, 0, none⟩) [1, 1099511627776] 2]
    #[.int .i64 3, .int .i64 0, .slice none 0 0, .slice none 0 0, .int .i64 9, .int .i64 1099511627776, .int .i64 2, .slice (some ⟨wr.heap.size, 0, none⟩) 4 4, .int .i64 0, .int .i64 1, .int .i64 0, .slice none 0 0, .slice (some ⟨wr.heap.size + 1, 0, none⟩) 4 4, .int .i64 0, .int .i64 0, .int .i64 0, .slice none 0 0, .int .i64 0, .int .i64 2, .int .i64 0, .slice (some ⟨wr.heap.size + 1 + 1, 0, none⟩) 2 2, .slice none 0 0, .int .i64 0, .int .i64 0, .int .i64 0, .slice none 0 0, .int .i64 0]
    3 rfl (fun p hp => by
      simp only [List.mem_cons, List.not_mem_nil, or_false] at hp
      rcases hp with rfl | rfl | rfl
      · exact ent_ok ⟨by decide, by decide⟩ ((hz1.below (hb2.mono (Nat.le_refl _))).below hb3) (fun e => by cases e) (by show (4 : Nat) ≤ 140737488351232; decide) ⟨by decide, by decide⟩ ⟨by decide, by decide⟩ ⟨by decide, by decide⟩
      · exact text_ok ⟨by decide, by decide⟩ (hz2.below hb3) (fun e => by cases e) (by show (4 : Nat) ≤ 140737488351232; decide)
      · exact nums_ok ⟨by decide, by decide⟩ i64zr hz3 (by show (2 : Nat) ≤ 140737488351232; decide)) (fun p hp e => by
      simp only [List.mem_cons, List.not_mem_nil, or_false] at hp
      rcases hp with rfl | rfl | rfl
      · rfl
      · rfl
      · cases e) (by show 1 + 0 + 0 + 4 + (1 + 0 + 4 + 0 + (1 + 2 + 0 + 0 + 0)) ≤ 30000; decide) rfl
  rw [hs3, hs2, hs1] at h
  refine h.mono ?_
  rintro e w1 ⟨X, cap, y, rfl, hown, hbd2, hyl, hbe⟩
  have hs13 : wr.heap.size + 1 + 1 + 1 = W3.heap.size := by omega
  exact ⟨_, rfl, X, cap, y, rfl, own_base hown hb13.size, hbd2, hyl, hb13.trans (hbe.mono hb13.size)⟩
/-- The told bytes once more, laid behind W1: as many, whichever they are. -/
def EndBad (W1 : World) (X : Option Addr) (c N : Nat) (wx : World) : Prop := ∃ zs : List Int, zs.length = N ∧ (∀ z ∈ zs, 0 ≤ z ∧ z < 256) ∧ Below W1.heap.size W1 wx ∧ wx.ownsRow W1.heap.size 5 1 (.slice X N c) N (u8s zs)
theorem EndBad.set {W1 w : World} {g c N : Nat} {zs : List Int} (h : w.ownsRow W1.heap.size 5 1 (.slice (some ⟨g, 0, none⟩) N c) N (u8s zs)) (hl : zs.length = N) (hr : ∀ z ∈ zs, 0 ≤ z ∧ z < 256) (hb : Below W1.heap.size W1 w) (n : Nat) (V : Int) (hV : 0 ≤ V ∧ V < 256) : EndBad W1 (some ⟨g, 0, none⟩) c N (w.setCell ⟨g, n, none⟩ (.int .u8 V)) := by
  obtain ⟨s1, s2⟩ := h.stored n (.int .u8 V)
  refine ⟨zs.set n V, by rw [List.length_set]; exact hl, fun z hz => ?_, hb.grown s2 hb.size (fun k e => (h.lt k e).1), own_same s1 rfl (by unfold u8s; rw [List.map_set])⟩
  rcases List.mem_or_eq_of_mem_set hz with hz | rfl
  · exact hr z hz
  · exact hV
set_option maxRecDepth 100000 in
set_option maxHeartbeats 8000000 in
theorem codeEnds_any (σ : Sen) (w : World) (hG : GlAt σ w) :
    Calls Tryz.prog 3 #[] w fun e w' => e = .returned (.bool true) ∧ Below w.heap.size w w' := by
  have hbn := below_new w (.cells #[.int .i64 (-9223372036854775808), .int .i64 (-1), .int .i64 0, .int .i64 1, .int .i64 255, .int .i64 256, .int .i64 65535, .int .i64 65536, .int .i64 4294967295, .int .i64 4294967296, .int .i64 1099511627775, .int .i64 1099511627776, .int .i64 1099511627777, .int .i64 281474976710656, .int .i64 9223372036854775807] 3)
  have hE : BlockIs (w.alloc (.cells #[.int .i64 (-9223372036854775808), .int .i64 (-1), .int .i64 0, .int .i64 1, .int .i64 255, .int .i64 256, .int .i64 65535, .int .i64 65536, .int .i64 4294967295, .int .i64 4294967296, .int .i64 1099511627775, .int .i64 1099511627776, .int .i64 1099511627777, .int .i64 281474976710656, .int .i64 9223372036854775807] 3)) w.heap.size 3 (i64s e15).toArray := BlockIs.made _ _ _
  have HE := Lib.hid (And.intro hbn hE)
  clear hbn hE
  go_enter Tryz.func3, Tryz.ntmps3
  go_upto_region 2 with fail
  generalize w.alloc _ = w0 at *
  obtain ⟨ge, hge⟩ : ∃ ge, w.heap.size = ge := ⟨_, rfl⟩
  have Hge := Lib.hid hge
  have hEi := e15_at w0 ge (by rw [← hge]; exact HE.out.2)
  have HI := Lib.hid (And.intro HE.out.1 hEi)
  rw [hge]
  clear hge hEi HE
  go_wp2_with fail
  go_loopg [2] 11 (fun gk x wx => ∃ (a : Nat) (wd : Int), gk = 11 - a ∧ a ≤ 11 ∧ x = .int .i64 wd ∧ wd = (a : Int) - 1 ∧ Hid (Below w0.heap.size w0 wx))
  case atStart => exact ⟨0, -1, rfl, by omega, rfl, rfl, Lib.hid (Below.refl _ _)⟩
  case round =>
    obtain ⟨a, wd, hga, ha, rfl, hwd, hb⟩ := hrel
    have Hga := Lib.hid hga
    have Hwd := Lib.hid hwd
    by_cases hlt : a < 11
    · have hwd0 : -1 ≤ wd := by omega
      have hwd1 : wd < 10 := by omega
      clear hga hwd
      go_wp2_with fail
      go_loopg [3] 15 (fun gk x wx => ∃ i : Nat, gk = 15 - i ∧ i ≤ 15 ∧ x = .int .i64 (i : Int) ∧ Hid (Below w0.heap.size w0 wx))
      case atStart => exact ⟨0, rfl, by omega, rfl, hb⟩
      case round =>
        clear hb
        obtain ⟨i, hgi, hi, rfl, hb⟩ := hrel
        have Hgi := Lib.hid hgi; clear hgi
        by_cases hlti : i < 15
        · have hc := (HI.out.2.below hb.out).one i hlti
          have hbd := (HI.out.2.below hb.out).bd i hlti
          rw [Nat.zero_add] at hc
          generalize hen : e15.getD i 0 = en at *
          have Hen := Lib.hid hen
          clear hen
          go_upto_region 8 with fail
          go_cut [4, 5] (fun v4 v5 wx => v5 = .bool true ∧ Hid (EndTold w0 v4 wx))
          case first =>
           rcases Nat.mod_two_eq_zero_or_one i with hpar | hpar
           · have hp2 : (i : Int) % 2 = 0 := by omega
             clear hpar
             go_wp2_with fail
             have hii0 : IntsAt (wr.alloc (.cells #[.int .i64 5, .int .i64 en] 3)) (some ⟨wr.heap.size, 0, none⟩) [5, en] := intsAt_lit wr [5, en] (by intro z hz; simp at hz; rcases hz with rfl | rfl <;> omega)
             have hii : IntsAt (wr.alloc (.cells #[.int .i64 5, .int .i64 en] 3)) (some ⟨wr.heap.size, 0, none⟩) [5, en] := hii0
             have hbA := below_new wr (.cells #[.int .i64 5, .int .i64 en] 3)
             have HA := Lib.hid (hb.out.trans (hbA.mono hb.out.size))
             have hsA : (wr.alloc (.cells #[.int .i64 5, .int .i64 en] 3)).heap.size = wr.heap.size + 1 := by simp
             generalize wr.alloc _ = wA at *
             have hok : ∀ p ∈ [numsV 0 wd (some ⟨wr.heap.size, 0, none⟩) [5, en] 2], p.ok wA := fun p hp => by
               obtain rfl := List.mem_singleton.1 hp
               exact nums_ok i64zr ⟨by omega, by omega⟩ hii (by show (2 : Nat) ≤ 140737488351232; decide)
             have hnn : ∀ p ∈ [numsV 0 wd (some ⟨wr.heap.size, 0, none⟩) [5, en] 2], p.nA = none → p.nc = 0 := fun p hp e => by
               obtain rfl := List.mem_singleton.1 hp
               cases e
             have htt : tot [numsV 0 wd (some ⟨wr.heap.size, 0, none⟩) [5, en] 2] ≤ 30000 := by show 1 + 2 + 0 + 0 + 0 ≤ 30000; omega
             have hP := (puts_lit wA _ #[.int .i64 0, .int .i64 wd, .slice (some ⟨wr.heap.size, 0, none⟩) 2 2, .slice none 0 0, .int .i64 0, .int .i64 0, .int .i64 0, .slice none 0 0, .int .i64 0] 1 rfl hok hnn htt rfl)
             rw [hsA] at hP
             have HP := Lib.hid hP
             clear hok hnn htt hP hsA
             refine HP.out.mono ?_
             rintro e w1 ⟨X, cap, y, rfl, hown, hbd2, hyl, hb1⟩
             have HO := Lib.hid (show EndTold w0 (.slice X y.length cap) w1 from ⟨X, cap, y, rfl, own_base hown HA.out.size, hbd2, hyl, HA.out.trans (hb1.mono HA.out.size)⟩)
             clear hown hbd2 hb1 hbA hii hii0
             go_wp2_with fail
             go_meet
             exact ⟨rfl, HO⟩
           · have hp2 : (i : Int) % 2 = 1 := by omega
             clear hpar
             go_wp2_with fail
             have hii0 : IntsAt (wr.alloc (.cells #[.int .i64 5, .int .i64 en] 3)) (some ⟨wr.heap.size, 0, none⟩) [5, en] := intsAt_lit wr [5, en] (by intro z hz; simp at hz; rcases hz with rfl | rfl <;> omega)
             have hii : IntsAt (wr.alloc (.cells #[.int .i64 5, .int .i64 en] 3)) (some ⟨wr.heap.size, 1, none⟩) [en] := ints_tail hii0
             have hbA := below_new wr (.cells #[.int .i64 5, .int .i64 en] 3)
             have HA := Lib.hid (hb.out.trans (hbA.mono hb.out.size))
             have hsA : (wr.alloc (.cells #[.int .i64 5, .int .i64 en] 3)).heap.size = wr.heap.size + 1 := by simp
             generalize wr.alloc _ = wA at *
             have hok : ∀ p ∈ [numsV 0 wd (some ⟨wr.heap.size, 1, none⟩) [en] 1], p.ok wA := fun p hp => by
               obtain rfl := List.mem_singleton.1 hp
               exact nums_ok i64zr ⟨by omega, by omega⟩ hii (by show (1 : Nat) ≤ 140737488351232; decide)
             have hnn : ∀ p ∈ [numsV 0 wd (some ⟨wr.heap.size, 1, none⟩) [en] 1], p.nA = none → p.nc = 0 := fun p hp e => by
               obtain rfl := List.mem_singleton.1 hp
               cases e
             have htt : tot [numsV 0 wd (some ⟨wr.heap.size, 1, none⟩) [en] 1] ≤ 30000 := by show 1 + 1 + 0 + 0 + 0 ≤ 30000; omega
             have hP := (puts_lit wA _ #[.int .i64 0, .int .i64 wd, .slice (some ⟨wr.heap.size, 1, none⟩) 1 1, .slice none 0 0, .int .i64 0, .int .i64 0, .int .i64 0, .slice none 0 0, .int .i64 0] 1 rfl hok hnn htt rfl)
             rw [hsA] at hP
             have HP := Lib.hid hP
             clear hok hnn htt hP hsA
             refine HP.out.mono ?_
             rintro e w1 ⟨X, cap, y, rfl, hown, hbd2, hyl, hb1⟩
             have HO := Lib.hid (show EndTold w0 (.slice X y.length cap) w1 from ⟨X, cap, y, rfl, own_base hown HA.out.size, hbd2, hyl, HA.out.trans (hb1.mono HA.out.size)⟩)
             clear hown hbd2 hb1 hbA hii hii0
             go_wp2_with fail
             go_meet
             exact ⟨rfl, HO⟩
          case rest =>
           obtain ⟨rfl, hT⟩ := hcut
           obtain ⟨X, cap, y, rfl, hown, hbd2, hyl, hb1⟩ := hT.out
           have hz8 : BytesAt (wc.alloc (.cells #[.int .u8 1, .int .u8 2, .int .u8 3, .int .u8 4, .int .u8 5, .int .u8 255, .int .u8 255, .int .u8 255] 5)) (some ⟨wc.heap.size, 0, none⟩) [1, 2, 3, 4, 5, 255, 255, 255] := bytesAt_lit wc [1, 2, 3, 4, 5, 255, 255, 255] (by decide)
           have hb8 := below_new wc (.cells #[.int .u8 1, .int .u8 2, .int .u8 3, .int .u8 4, .int .u8 5, .int .u8 255, .int .u8 255, .int .u8 255] 5)
           have HO := Lib.hid (And.intro (ownsRow_below hown hb8) (And.intro hbd2 (And.intro hz8 (And.intro hb1 hb8))))
           have hszc := hb1.size
           clear hown hbd2 hz8 hb1 hb8 hT
           go_wp2_with (at_builtin; go_loud (refine wpList_append_bytes_g (by rfl) _ _ rfl w0.heap.size _ y.length y rfl HO.out.1 (some ⟨wc.heap.size, 0, none⟩) [1, 2, 3, 4, 5, 255, 255, 255] 8 8 rfl rfl HO.out.2.2.1 (fun e => by cases e) (by omega) (by simp; omega) ?_))
           intro v2 w2 hown2 hgrow2 hlies
           obtain ⟨X2, cap2, rfl, hc2, hcm2⟩ := own_slice hown2
           unfold maxLen at hcm2
           have hy2 : (y ++ [1, 2, 3, 4, 5, 255, 255, 255]).length = y.length + 8 := by rw [List.length_append]; rfl
           have hbd3 : ∀ z ∈ y ++ [1, 2, 3, 4, 5, 255, 255, 255], 0 ≤ z ∧ z < 256 := fun z hz => by
             rcases List.mem_append.1 hz with hz | hz
             · exact HO.out.2.1 z hz
             · exact (show ∀ z ∈ ([1, 2, 3, 4, 5, 255, 255, 255] : List Int), 0 ≤ z ∧ z < 256 by decide) z hz
           have hb2 : Below w0.heap.size w0 w2 := (HO.out.2.2.2.1.trans (HO.out.2.2.2.2.mono hszc)).grown hgrow2 (by simp; omega) (fun k e => (HO.out.1.lt k e).1)
           have hz2 := own_reads hown2 hbd3
           have hn2 := own_nil hown2
           have hG2 := gets_lit σ w0 w2 (hG.below HI.out.1) hb2 X2 _ cap2 hz2 (by rw [hy2]; omega) hn2 (by rw [hy2]; omega)
             [askV 0 wd 0, askV 0 6 0, askV 0 ((i : Int) % 7) 0, askV 0 1 0]
             #[.int .i64 0, .int .i64 wd, .slice none 0 0, .slice none 0 0, .int .i64 0, .int .i64 0, .int .i64 0, .slice none 0 0, .int .i64 0, .int .i64 0, .int .i64 6, .slice none 0 0, .slice none 0 0, .int .i64 0, .int .i64 0, .int .i64 0, .slice none 0 0, .int .i64 0, .int .i64 0, .int .i64 ((i : Int) % 7), .slice none 0 0, .slice none 0 0, .int .i64 0, .int .i64 0, .int .i64 0, .slice none 0 0, .int .i64 0, .int .i64 0, .int .i64 1, .slice none 0 0, .slice none 0 0, .int .i64 0, .int .i64 0, .int .i64 0, .slice none 0 0, .int .i64 0]
             4 rfl (fun p hp => by
               simp only [List.mem_cons, List.not_mem_nil, or_false] at hp
               rcases hp with rfl | rfl | rfl | rfl
               · exact ask_ok i64zr ⟨by omega, by omega⟩ i64zr
               · exact ask_ok i64zr ⟨by decide, by decide⟩ i64zr
               · exact ask_ok i64zr ⟨by omega, by omega⟩ i64zr
               · exact ask_ok i64zr ⟨by decide, by decide⟩ i64zr) (by show (4 : Nat) ≤ 140737488351232; decide) rfl
           rw [hy2] at hG2
           have HG2 := Lib.hid hG2
           have HB2 := Lib.hid hb2
           clear hown2 hgrow2 hlies hy2 hbd3 hb2 hz2 hn2 hG2
           go_wp2_with fail
           refine HG2.out.mono ?_
           rintro e w3 ⟨rfl, hb3⟩
           have HB3 := Lib.hid (HB2.out.trans (hb3.mono HB2.out.size))
           clear hb3
           go_wp2_with fail
           have hi3 : IntsAt (w3.alloc (.cells #[.int .i64 3] 3)) (some ⟨w3.heap.size, 0, none⟩) [3] := intsAt_lit w3 [3] (by decide)
           have hbC := below_new w3 (.cells #[.int .i64 3] 3)
           have hsC : (w3.alloc (.cells #[.int .i64 3] 3)).heap.size = w3.heap.size + 1 := by simp
           have HBC := Lib.hid (HB3.out.trans (hbC.mono HB3.out.size))
           generalize w3.alloc _ = wC at *
           have hP2 := codePuts_lit σ w0 wC (hG.below HI.out.1) HBC.out [numsV 0 wd none [] 0, numsV 0 1 (some ⟨w3.heap.size, 0, none⟩) [3] 1]
             #[.int .i64 0, .int .i64 wd, .slice none 0 0, .slice none 0 0, .int .i64 0, .int .i64 0, .int .i64 0, .slice none 0 0, .int .i64 0, .int .i64 0, .int .i64 1, .slice (some ⟨w3.heap.size, 0, none⟩) 1 1, .slice none 0 0, .int .i64 0, .int .i64 0, .int .i64 0, .slice none 0 0, .int .i64 0]
             2 rfl (fun p hp => by
               simp only [List.mem_cons, List.not_mem_nil, or_false] at hp
               rcases hp with rfl | rfl
               · exact nums_ok i64zr ⟨by omega, by omega⟩ (IntsAt.nil _ _) (Nat.zero_le _)
               · exact nums_ok i64zr ⟨by decide, by decide⟩ hi3 (by show (1 : Nat) ≤ 140737488351232; decide)) (fun p hp e => by
               simp only [List.mem_cons, List.not_mem_nil, or_false] at hp
               rcases hp with rfl | rfl
               · rfl
               · cases e) (by show (2 : Nat) ≤ 140737488351232; decide) rfl
           rw [hsC] at hP2
           have HP2 := Lib.hid hP2
           clear hi3 hbC hsC hP2
           refine HP2.out.mono ?_
           rintro e w4 ⟨rfl, hb4⟩
           have HB4 := Lib.hid (HBC.out.trans (hb4.mono (by have := HB3.out.size; omega)))
           clear hb4
           have hc4 := (HI.out.2.below HB4.out).one i hlti
           obtain ⟨k, hk⟩ : ∃ k : Nat, ((i : Int) * 4 + wd + 1) % 15 = (k : Int) := ⟨(((i : Int) * 4 + wd + 1) % 15).toNat, by omega⟩
           have hk15 : k < 15 := by omega
           have hc5 := (HI.out.2.below HB4.out).one k hk15
           have hbd4 := (HI.out.2.below HB4.out).bd i hlti
           have hbd5 := (HI.out.2.below HB4.out).bd k hk15
           rw [Nat.zero_add] at hc4 hc5
           generalize e15.getD i 0 = en4 at *
           generalize e15.getD k 0 = en5 at *
           go_upto_region 11 with fail
           go_cut [6] (fun v6 wx => Hid (EndEnt w0 v6 wx))
           case first =>
             have hmk : ∀ W : World, (Instr.makeSlice 23 (.int .i64 (198 + (i : Int) % 5)) (.int .i64 (198 + (i : Int) % 5))).run Tryz.prog W = .ok (.slice (some ⟨W.heap.size, 0, none⟩) (198 + i % 5) (198 + i % 5)) (W.alloc (.cells (madeCells #[.int .u8 0] (198 + i % 5)) 5)) := fun W => by
               have := run_make_row' (P := Tryz.prog) 23 5 (.int .u8 0) 1 Tryz.underlying23 infoByte rfl .i64 .i64 (198 + i % 5) (by omega) (by omega) W
               rwa [show ((198 + i % 5 : Nat) : Int) = 198 + (i : Int) % 5 by omega] at this
             have hgl : ge < w4.heap.size := by
               obtain ⟨q, hq⟩ := Option.isSome_iff_exists.1 (show (w4.heap[ge]?).isSome by
                 cases hh : w4.heap[ge]? with
                 | none => simp [World.cell?, hh] at hc4
                 | some _ => rfl)
               exact (Array.getElem?_eq_some_iff.1 hq).1
             go_region
             all_goals (go_wp2_with fail; go_meet)
             · exact Lib.hid (endEnt_1 w0 w4 HB4.out _ _ _ _ (by omega) hbd4 hbd5 ⟨by omega, by omega⟩)
             · exact Lib.hid (endEnt_2 w0 w4 HB4.out _ _ _ _ (by omega) hbd4 hbd5 ⟨by omega, by omega⟩)
           case rest =>
             obtain ⟨ge6, E, A6, c6, rfl, hE6, hA6, hn6, hl6, hi6, ht6, hk6, hb6⟩ := hcut.out
             have d0 : wc.cell? ⟨ge6, 0, none⟩ = some (.int .i64 E.index) := hE6.cell 0
             have d1 : wc.cell? ⟨ge6, 1, none⟩ = some (.int .i64 E.term) := hE6.cell 1
             have d2 : wc.cell? ⟨ge6, 2, none⟩ = some (.int .i64 E.kind) := hE6.cell 2
             have d3 : wc.cell? ⟨ge6, 3, none⟩ = some (.slice A6 E.body.length c6) := hE6.cell 3
             have H6 := Lib.hid (And.intro hA6 (And.intro hn6 (And.intro hi6 (And.intro ht6 (And.intro hk6 hb6)))))
             clear hE6 hA6 hn6 hi6 ht6 hk6 hb6 hcut hc4 hc5 hbd4 hbd5
             have q1 : IntKind.i64.wrap ((i : Int) + 1) = (i : Int) + 1 := IntWalk.i64_in _ (by omega)
             have q2 : ((i : Int) + 1).toNat = i + 1 := by omega
             have q3 : (i : Int) + 1 ≤ 15 := by omega
             have q4 : (0 : Int) ≤ (i : Int) + 1 := by omega
             have q5 : ¬ 15 = i := by omega
             have q6 : i + 1 - i = 1 := by omega
             go_upto_region 12 with fail
             go_still_tail 8, (by kernel_rfl)
             change wpList _ _ _ _ _ wc.drew
             clear q1 q2 q3 q4 q5 q6
             go_wp2_with fail
             have hB7 := H6.out.2.2.2.2.2.drew
             have hI7 := (HI.out.2.below hB7).one i hlti
             have hI8 := (HI.out.2.below hB7).bd i hlti
             rw [Nat.zero_add] at hI7
             have hP7 := codePuts_lit σ w0 wc.drew (hG.below HI.out.1) hB7 [entP 3 E A6 c6, numsV 2 0 (some ⟨ge, i, none⟩) [e15.getD i 0] (15 - i)]
               #[.int .i64 3, .int .i64 0, .slice none 0 0, .slice none 0 0, .int .i64 E.index, .int .i64 E.term, .int .i64 E.kind, .slice A6 E.body.length c6, .int .i64 0, .int .i64 2, .int .i64 0, .slice (some ⟨ge, i, none⟩) 1 (15 - i), .slice none 0 0, .int .i64 0, .int .i64 0, .int .i64 0, .slice none 0 0, .int .i64 0]
               2 rfl (fun p hp => by
                 simp only [List.mem_cons, List.not_mem_nil, or_false] at hp
                 rcases hp with rfl | rfl
                 · exact ent_ok ⟨by decide, by decide⟩ H6.out.1 H6.out.2.1 (by omega) H6.out.2.2.1 H6.out.2.2.2.1 H6.out.2.2.2.2.1
                 · exact nums_ok ⟨by decide, by decide⟩ i64zr (ints_one hI7 hI8) (by show (1 : Nat) ≤ 140737488351232; decide)) (fun p hp e => by
                 simp only [List.mem_cons, List.not_mem_nil, or_false] at hp
                 rcases hp with rfl | rfl
                 · rfl
                 · cases e) (by show (2 : Nat) ≤ 140737488351232; decide) rfl
             have HP7 := Lib.hid hP7
             have HB7 := Lib.hid hB7
             clear hI7 hI8 hP7 hB7
             refine HP7.out.mono ?_
             rintro e w7 ⟨rfl, hb7⟩
             have HB8 := Lib.hid (HB7.out.trans (hb7.mono HB7.out.size))
             clear hb7
             go_wp2_with fail
             go_roundg (15 - (i + 1))
             case measure => rw [Hgi.out]; omega
             case rel => exact ⟨i + 1, rfl, by omega, by go_num, HB8⟩
        · obtain rfl : i = 15 := by omega
          go_wp2_with fail
          go_roundg (11 - (a + 1))
          case measure => rw [Hga.out]; omega
          case rel => exact ⟨a + 1, wd + 1, rfl, by omega, rfl, by have := Hwd.out; omega, hb⟩
    · have hwd1 : wd = 10 := by omega
      subst hwd1
      clear hga hwd hlt
      have hcv1 := fun w => Lib.run_convert_bytes_const (P := Tryz.prog) w 23 5 #[.int .u8 98, .int .u8 111, .int .u8 100, .int .u8 121] 4 4 Tryz.underlying23 Tryz.underlying5
      have hcv2 := Lib.run_convert_bytes_const (P := Tryz.prog) (wr.alloc (.cells #[.int .u8 98, .int .u8 111, .int .u8 100, .int .u8 121] 5 (4, 5))) 23 5 #[.int .u8 116, .int .u8 101, .int .u8 120, .int .u8 116] 4 4 Tryz.underlying23 Tryz.underlying5
      rw [show (wr.alloc (.cells #[.int .u8 98, .int .u8 111, .int .u8 100, .int .u8 121] 5 (4, 5))).heap.size = wr.heap.size + 1 by simp] at hcv2
      go_wp2_with fail
      refine (whole_any w0 wr hb.out).mono ?_
      clear hcv1 hcv2
      rintro e w1 ⟨v, rfl, X, cap, y, rfl, hown, hbd, hyl, hb1⟩
      have hcap := own_slice hown
      obtain ⟨X', cp', e', hc1, hc2⟩ := hcap
      obtain ⟨rfl, rfl⟩ : X = X' ∧ cap = cp' := by simpa using e'
      unfold maxLen at hc2
      have HN := Lib.hid (own_nil hown)
      have HBD := Lib.hid hbd
      have HO := Lib.hid (And.intro hb1 hown)
      clear hown hbd hb1 hb e'
      go_wp2_with fail
      go_loopg [9] (y.length + 1) (fun gk x wx => ∃ n : Nat, gk = y.length + 1 - n ∧ n ≤ y.length + 1 ∧ x = .int .i64 (n : Int) ∧ Hid (Below w0.heap.size w0 wx ∧ wx.ownsRow w0.heap.size 5 1 (.slice X y.length cap) y.length (u8s y)))
      case atStart => exact ⟨0, rfl, Nat.zero_le _, rfl, HO⟩
      case round =>
        clear HO
        obtain ⟨n, hgn, hn, rfl, HO⟩ := hrel
        have Hgn := Lib.hid hgn; clear hgn
        by_cases hln : n < y.length + 1
        · have hnl : n ≤ y.length := by omega
          have hPV0 := pv_lit wr [askV 3 0 0, askV 1 0 (3 + (n : Int) % 3), askV 2 0 (1 + (n : Int) % 3)]
            #[.int .i64 3, .int .i64 0, .slice none 0 0, .slice none 0 0, .int .i64 0, .int .i64 0, .int .i64 0, .slice none 0 0, .int .i64 0, .int .i64 1, .int .i64 0, .slice none 0 0, .slice none 0 0, .int .i64 0, .int .i64 0, .int .i64 0, .slice none 0 0, .int .i64 (3 + (n : Int) % 3), .int .i64 2, .int .i64 0, .slice none 0 0, .slice none 0 0, .int .i64 0, .int .i64 0, .int .i64 0, .slice none 0 0, .int .i64 (1 + (n : Int) % 3)]
            (fun p hp => by
              simp only [List.mem_cons, List.not_mem_nil, or_false] at hp
              rcases hp with rfl | rfl | rfl
              · exact ask_ok ⟨by decide, by decide⟩ i64zr i64zr
              · exact ask_ok ⟨by decide, by decide⟩ i64zr ⟨by omega, by omega⟩
              · exact ask_ok ⟨by decide, by decide⟩ i64zr ⟨by omega, by omega⟩) rfl
          have HPV0 := Lib.hid hPV0
          have hbA := below_new wr (.cells #[.int .i64 3, .int .i64 0, .slice none 0 0, .slice none 0 0, .int .i64 0, .int .i64 0, .int .i64 0, .slice none 0 0, .int .i64 0, .int .i64 1, .int .i64 0, .slice none 0 0, .slice none 0 0, .int .i64 0, .int .i64 0, .int .i64 0, .slice none 0 0, .int .i64 (3 + (n : Int) % 3), .int .i64 2, .int .i64 0, .slice none 0 0, .slice none 0 0, .int .i64 0, .int .i64 0, .int .i64 0, .slice none 0 0, .int .i64 (1 + (n : Int) % 3)] 30)
          have HBA := Lib.hid hbA
          clear hPV0 hbA
          go_upto_region 19 with fail
          have hO1 := ownsRow_below HO.out.2 HBA.out
          have hB1 := HO.out.1.trans (HBA.out.mono HO.out.1.size)
          generalize wr.alloc _ = W1 at *
          have hown0 := World.ownsRow_lit (base := W1.heap.size) (e := 5) (size := 1) W1 #[] 0 (Nat.le_refl _) (Nat.zero_le _) (by simp)
          have hbE := below_new W1 (.cells #[] 5)
          have hz2 := (own_reads hO1 HBD.out).below hbE
          have hs5 : W1.heap.size ≤ (W1.alloc (.cells #[] 5)).heap.size := hbE.size
          have HA := Lib.hid (And.intro hO1 (And.intro hB1 (And.intro hown0 (And.intro hbE (And.intro hz2 hs5)))))
          clear hO1 hB1 hown0 hbE hz2 hs5
          go_wp2_with (at_builtin; go_loud (refine wpList_append_bytes_g (by rfl) (.tmp 125) (.tmp 126) rfl W1.heap.size _ 0 [] rfl HA.out.2.2.1 X y y.length cap rfl rfl HA.out.2.2.2.2.1 HN.out (by omega) HA.out.2.2.2.2.2 ?_))
          intro v2 w2 hown2 hg2 hlies2
          clear hlies2
          have hb2 : Below W1.heap.size W1 w2 := HA.out.2.2.2.1.grown hg2 HA.out.2.2.2.2.2 (fun k e => (HA.out.2.2.1.lt k e).1)
          have hown3 := own_same (m := y.length) (ys := u8s y) hown2 (by omega) (by simp)
          obtain ⟨Xb, cb, rfl, hcb1, hcb2⟩ := own_slice hown3
          unfold maxLen at hcb2
          have HW2 := Lib.hid (And.intro hown3 hb2)
          clear hown2 hg2 hb2 hown3
          go_upto_if 131 with fail
          go_cut [] (fun wx => Hid (EndBad W1 Xb cb y.length wx))
          case first =>
            by_cases hlt : n < y.length
            · obtain ⟨gb, cb', e', _⟩ := own_form HW2.out.1 (by omega)
              obtain ⟨rfl, rfl⟩ : Xb = some ⟨gb, 0, none⟩ ∧ cb = cb' := by simpa using e'
              obtain ⟨z, hz, c2⟩ := own_cell HW2.out.1 n hlt
              have f1 := HW2.out.1.frozenAt n
              have hzb := HBD.out z (List.mem_of_getElem? hz)
              clear e' hz
              go_wp2_with fail
              go_meet
              refine Lib.hid (EndBad.set HW2.out.1 rfl HBD.out HW2.out.2 n _ ?_)
              omega
            · obtain rfl : n = y.length := by omega
              go_wp2_with fail
              go_meet
              exact Lib.hid ⟨y, rfl, HBD.out, HW2.out.2, HW2.out.1⟩
          case rest =>
            obtain ⟨zs, hzl, hzr, hbz, hoz⟩ := hcut.out
            have hBz : Below w0.heap.size w0 wc := HA.out.2.1.trans (hbz.mono HA.out.2.1.size)
            have HZ := Lib.hid (And.intro hzr (And.intro hoz (And.intro hBz (ownsRow_below HA.out.1 hbz))))
            have HL := Lib.hid (HPV0.out.below hbz)
            have HZl := Lib.hid hzl
            clear hzr hoz hbz hzl hBz hcut
            go_wp2_with fail
            have hg1 := gets_any σ wc (hG.below (HI.out.1.trans (HZ.out.2.2.1.mono HI.out.1.size))) X (y.take n) cap (front_reads (own_reads HZ.out.2.2.2 HBD.out)) (by rw [List.length_take]; omega) HN.out ⟨by rw [List.length_take]; omega, by omega⟩ _ _ 3 HL.out (by show (3 : Nat) ≤ 140737488351232; decide)
            rw [show (y.take n).length = n by rw [List.length_take]; omega] at hg1
            refine hg1.mono ?_
            rintro e w3 ⟨rfl, hb3⟩
            have hB3 := HZ.out.2.2.1.trans (hb3.mono HZ.out.2.2.1.size)
            have hg2 := gets_any σ w3 (hG.below (HI.out.1.trans (hB3.mono HI.out.1.size))) Xb zs cb (own_reads (ownsRow_below HZ.out.2.1 hb3) HZ.out.1) (by rw [HZl.out]; omega) (own_nil HZ.out.2.1) ⟨by rw [HZl.out]; omega, by omega⟩ _ _ 3 (HL.out.below hb3) (by show (3 : Nat) ≤ 140737488351232; decide)
            rw [HZl.out] at hg2
            have H3 := Lib.hid (And.intro hg2 (And.intro hB3 (ownsRow_below HZ.out.2.2.2 hb3)))
            clear hg1 hb3 hB3 hg2
            go_wp2_with fail
            refine H3.out.1.mono ?_
            rintro e w4 ⟨rfl, hb4⟩
            have H4 := Lib.hid (And.intro (H3.out.2.1.trans (hb4.mono H3.out.2.1.size)) (ownsRow_below H3.out.2.2 hb4))
            clear hb4
            go_wp2_with fail
            have hg3 := gets_lit σ w0 w4 (hG.below HI.out.1) H4.out.1 X y cap (own_reads H4.out.2 HBD.out) (by omega) HN.out ⟨hc1, by omega⟩ [askV ((n : Int) % 4) ((n : Int) % 8) (n : Int), askV 3 0 0]
              #[.int .i64 ((n : Int) % 4), .int .i64 ((n : Int) % 8), .slice none 0 0, .slice none 0 0, .int .i64 0, .int .i64 0, .int .i64 0, .slice none 0 0, .int .i64 (n : Int), .int .i64 3, .int .i64 0, .slice none 0 0, .slice none 0 0, .int .i64 0, .int .i64 0, .int .i64 0, .slice none 0 0, .int .i64 0]
              2 rfl (fun p hp => by
                simp only [List.mem_cons, List.not_mem_nil, or_false] at hp
                rcases hp with rfl | rfl
                · exact ask_ok ⟨by omega, by omega⟩ ⟨by omega, by omega⟩ ⟨by omega, by omega⟩
                · exact ask_ok ⟨by decide, by decide⟩ i64zr i64zr) (by show (2 : Nat) ≤ 140737488351232; decide) rfl
            have HG3 := Lib.hid hg3
            clear hg3
            refine HG3.out.mono ?_
            rintro e w5 ⟨rfl, hb5⟩
            have H5 := Lib.hid (And.intro (H4.out.1.trans (hb5.mono H4.out.1.size)) (ownsRow_below H4.out.2 hb5))
            clear hb5
            go_wp2_with fail
            go_roundg (y.length + 1 - (n + 1))
            case measure => rw [Hgn.out]; omega
            case rel => exact ⟨n + 1, rfl, by omega, by go_num, H5⟩
        · obtain rfl : n = y.length + 1 := by omega
          clear hln hn
          go_wp2_with fail
          refine (long_any σ wr (hG.below (HI.out.1.trans (HO.out.1.mono HI.out.1.size)))).mono ?_
          rintro e w2 ⟨rfl, hb2⟩
          have HB2 := Lib.hid (HO.out.1.trans (hb2.mono HO.out.1.size))
          clear hb2
          go_wp2_with fail
          refine (none_any w2).mono ?_
          rintro e w3 ⟨rfl, hb3⟩
          have HB3 := Lib.hid (HB2.out.trans (hb3.mono HB2.out.size))
          clear hb3
          go_wp2_with fail
          refine (awake_any σ w3 (hG.below (HI.out.1.trans (HB3.out.mono HI.out.1.size))).f).mono ?_
          rintro e w4 ⟨rfl, hb4⟩
          have HB4 := Lib.hid (HB3.out.trans (hb4.mono HB3.out.size))
          clear hb4
          go_wp2_with fail
          go_ret
          exact ⟨rfl, HI.out.1.trans (HB4.out.mono HI.out.1.size)⟩
end Go.Proofs.YtifoiiaddcgngaaGreatDoor
