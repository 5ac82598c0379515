/- What the rows of law 02 share: parts that come in opened; the package's own errors as they are laid. -/
import Derived.Test.YtifoiiaddcgngaaGreatDoorRows
import Derived.Test.YtifoiiaddcgngaaGreatDoorCards
import Derived.Test.YtifoiiaddcgngaaGreatDoorTie
import Derived.Test.YtifoiiaddcgngaaGreatDoorKitRows
import Derived.Test.YtifoiiaddcgngaaGreatDoorLaw02PartV
import Derived.LaidHandle
import Derived.LaidLaws
namespace Go.Proofs.YtifoiiaddcgngaaGreatDoor
open Go.ChangeShapes Go.WideShapes Go.RowKit Go.Deep
theorem open_i64s_raw {H : Type} {enc : TypeId × Value → H} {P : Program} {W : World} {held : Bool} {fuel : Nat} {t e : TypeId} {cs : List Value} {x : DataW H × List MemPlace}
    (ht : P.underlying t = some (.slice e)) (he : P.underlying e = some (.int .i64)) (hc : P.cellsOf e = 1) (hby : P.bytesOf e = 8) (h : DataW.trod enc P W 0 (fun _ => true) held fuel t cs = some x) (hw : ∀ n ∈ x.1.weights P t, n ≤ reachBytes) :
    ∃ (A : Option Addr) (zs : List Int) (cap : Nat), cs = [.slice A zs.length cap] ∧ IntsAt W A zs ∧ zs.length ≤ cap ∧ cap ≤ 140737488351232 ∧ (A = none → cap = 0) := by
  rcases open_ints ht he hc h with ⟨hcs, hx⟩ | ⟨a, len, cap, zs, hcs, _, hl, hm, hz, hx, hcell, hwz⟩
  · exact ⟨none, [], 0, hcs, IntsAt.nil _ _, Nat.le_refl _, Nat.zero_le _, fun _ => rfl⟩
  · simp only [if_true] at hz
    have hlen : (zs.take len).length = len := by rw [List.length_take, hz]; omega
    have hcap : cap * 8 ≤ 140737488351232 := by
      have := hw ((zs.take len).length * 8 + (zs.drop len).length * 8) (by
        rw [hx]
        simp only [DataW.weights, ht, hby]
        refine List.mem_cons.2 (.inl ?_)
        simp [lits]
        omega)
      simp only [List.length_take, List.length_drop, reachBytes] at this
      omega
    refine ⟨some a, zs.take len, cap, by rw [hlen]; exact hcs, ⟨fun z hzm => bounds_i64 (hwz z (List.mem_of_mem_take hzm)), fun hne => ?_⟩, by rw [hlen]; exact hl, by omega, fun e => by cases e⟩
    have hpos : 0 < zs.length := by
      rcases Nat.eq_zero_or_pos zs.length with h0 | h0
      · exact absurd (by rw [List.eq_nil_of_length_eq_zero h0]; simp) hne
      · exact h0
    obtain ⟨b, off, rfl, hc2⟩ := ints_at hcell hpos
    refine ⟨b, off, rfl, fun i hi => ?_⟩
    rw [hlen] at hi
    rw [hc2 i (by omega)]
    simp only [List.getD_eq_getElem?_getD]
    rw [List.getElem?_take_of_lt hi]
/-- A []byte argument, with its reach. -/
theorem open_bytes_all {H : Type} {enc : TypeId × Value → H} {P : Program} {W : World} {base : Nat} {t e : TypeId} {v : Value} {d : DataW H} {pl : List MemPlace}
    (ht : P.underlying t = some (.slice e)) (he : P.underlying e = some (.int .u8)) (hc : P.cellsOf e = 1) (hby : P.bytesOf e = 1) (hv : Value.okWide P W .any base t v) (h : DataW.Trod enc P W 0 (fun _ => true) true t v d pl) (hw : ∀ n ∈ d.weights P t, n ≤ reachBytes) :
    ∃ (A : Option Addr) (zs : List Int) (cap : Nat), v = .slice A zs.length cap ∧ (∀ z ∈ zs, 0 ≤ z ∧ z < 256) ∧ (zs ≠ [] → ∃ b off, A = some ⟨b, off, none⟩ ∧ ∀ i, i < zs.length → W.cell? ⟨b, off + i, none⟩ = some (.int .u8 (zs.getD i 0))) ∧ zs.length ≤ cap ∧
      cap ≤ 140737488351232 ∧ (A = none → cap = 0) := by
  obtain ⟨a0, len, cap, rfl⟩ := okWide_slice ht hv
  obtain ⟨fuel, hf⟩ := h
  obtain ⟨A, zs, c, e1, k⟩ := open_bytes_raw ht he hc hby hf hw
  exact ⟨A, zs, c, by simpa [Value.cells] using e1, k⟩
theorem cellsInt : Tryz.prog.cellsOf 3 = 1 := by kernel_rfl
theorem bytesInt : Tryz.prog.bytesOf 3 = 8 := by kernel_rfl
theorem cellsKind : Tryz.prog.cellsOf 26 = 1 := by kernel_rfl
theorem cellsInts : Tryz.prog.cellsOf 22 = 1 := by kernel_rfl
theorem cellsBytes : Tryz.prog.cellsOf 23 = 1 := by kernel_rfl
theorem cellsEntry : Tryz.prog.cellsOf 28 = 4 := by kernel_rfl
theorem cellsPart : Tryz.prog.cellsOf 30 = 9 := by kernel_rfl
theorem bytesPart : Tryz.prog.bytesOf 30 = 120 := by kernel_rfl
theorem addr_add2 (b off i j : Nat) : ((⟨b, off, none⟩ : Addr).add i).add j = ⟨b, off + i + j, none⟩ := by
  unfold Addr.add
  by_cases h1 : i = 0 <;> by_cases h2 : j = 0 <;> simp [h1, h2]
theorem list6 {α : Type} (l : List α) (h : l.length = 6) : ∃ a b c d e f, l = [a, b, c, d, e, f] := by
  match l, h with
  | [a, b, c, d, e, f], _ => exact ⟨a, b, c, d, e, f, rfl⟩
theorem list4 {α : Type} (l : List α) (h : l.length = 4) : ∃ a b c d, l = [a, b, c, d] := by
  match l, h with
  | [a, b, c, d], _ => exact ⟨a, b, c, d, rfl⟩
theorem list9 {α : Type} (l : List α) (h : l.length = 9) : ∃ a b c d e f g i j, l = [a, b, c, d, e, f, g, i, j] := by
  match l, h with
  | [a, b, c, d, e, f, g, i, j], _ => exact ⟨a, b, c, d, e, f, g, i, j, rfl⟩
def blankV0 : PartV := ⟨0, 0, 0, noEnt, none, [], 0, none, [], 0, none, 0⟩
/-- One part's cells, read as they stand. -/
theorem open_part {H : Type} {enc : TypeId × Value → H} {W : World} {held : Bool} {fuel : Nat} {cs : List Value} {x : DataW H × List MemPlace}
    (h : DataW.trod enc Tryz.prog W 0 (fun _ => true) held fuel 30 cs = some x) (hw : ∀ n ∈ x.1.weights Tryz.prog 30, n ≤ reachBytes) : ∃ p : PartV, cs = p.cells ∧ p.ok W ∧ (p.nA = none → p.nc = 0) := by
  obtain ⟨ys, n, _, hx, hl, hyl, hf⟩ := DataW.trod_struct Tryz.underlying30 h
  rw [cellsPart] at hl
  have f0 : DataW.trod enc Tryz.prog W 0 (fun _ => true) held n 3 ((cs.drop 0).take (Tryz.prog.cellsOf 3)) = ys[0]? := hf 0 _ rfl
  rw [cellsInt] at f0
  have f1 : DataW.trod enc Tryz.prog W 0 (fun _ => true) held n 3 ((cs.drop 1).take (Tryz.prog.cellsOf 3)) = ys[1]? := hf 1 _ rfl
  rw [cellsInt] at f1
  have f2 : DataW.trod enc Tryz.prog W 0 (fun _ => true) held n 22 ((cs.drop 2).take (Tryz.prog.cellsOf 22)) = ys[2]? := hf 2 _ rfl
  rw [cellsInts] at f2
  have f3 : DataW.trod enc Tryz.prog W 0 (fun _ => true) held n 23 ((cs.drop 3).take (Tryz.prog.cellsOf 23)) = ys[3]? := hf 3 _ rfl
  rw [cellsBytes] at f3
  have f4 : DataW.trod enc Tryz.prog W 0 (fun _ => true) held n 28 ((cs.drop 4).take (Tryz.prog.cellsOf 28)) = ys[4]? := hf 4 _ rfl
  rw [cellsEntry] at f4
  have f5 : DataW.trod enc Tryz.prog W 0 (fun _ => true) held n 3 ((cs.drop 8).take (Tryz.prog.cellsOf 3)) = ys[5]? := hf 5 _ rfl
  rw [cellsInt] at f5
  obtain ⟨y0, y1, y2, y3, y4, y5, rfl⟩ := list6 ys hyl
  obtain ⟨v0, v1, v2, v3, v4, v5, v6, v7, v8, rfl⟩ := list9 cs hl
  simp only [List.getElem?_cons_zero, List.getElem?_cons_succ, List.drop_zero, List.drop_succ_cons, List.take_succ_cons, List.take_zero] at f0 f1 f2 f3 f4 f5
  have hx1 : x.1 = .agg [y0.1, y1.1, y2.1, y3.1, y4.1, y5.1] := by rw [hx]; rfl
  rw [hx1] at hw
  have hwj : ∀ (j : Nat) (t : TypeId) (d : DataW H), [3, 3, 22, 23, 28, 3][j]? = some t → [y0.1, y1.1, y2.1, y3.1, y4.1, y5.1][j]? = some d → ∀ m ∈ d.weights Tryz.prog t, m ≤ reachBytes := fun j t d ht hd m hm => by
    refine hw m ?_
    simp only [DataW.weights, Tryz.underlying30]
    exact DataW.weights_mem_each (ts := [3, 3, 22, 23, 28, 3]) ht hd m hm
  clear hf hx hyl hl h
  obtain ⟨n0, e0, _, w0⟩ := DataW.trod_int Tryz.underlying3 f0
  obtain ⟨n1, e1, _, w1⟩ := DataW.trod_int Tryz.underlying3 f1
  obtain ⟨n8, e8, _, w8⟩ := DataW.trod_int Tryz.underlying3 f5
  obtain ⟨A2, z2, c2, e2, k2, _, m2, o2⟩ := open_i64s_raw Tryz.underlying22 Tryz.underlying3 cellsInt bytesInt f2 (hwj 2 _ _ rfl rfl)
  obtain ⟨A3, z3, c3, e3, k3, j3, l3, m3, o3⟩ := open_bytes_raw Tryz.underlying23 Tryz.underlying5 cellsByte bytesByte f3 (hwj 3 _ _ rfl rfl)
  obtain ⟨us, n', _, hx', hl', hyl', hf'⟩ := DataW.trod_struct Tryz.underlying28 f4
  have g0 : DataW.trod enc Tryz.prog W 0 (fun _ => true) held n' 3 (([v4, v5, v6, v7].drop 0).take (Tryz.prog.cellsOf 3)) = us[0]? := hf' 0 _ rfl
  rw [cellsInt] at g0
  have g1 : DataW.trod enc Tryz.prog W 0 (fun _ => true) held n' 3 (([v4, v5, v6, v7].drop 1).take (Tryz.prog.cellsOf 3)) = us[1]? := hf' 1 _ rfl
  rw [cellsInt] at g1
  have g2 : DataW.trod enc Tryz.prog W 0 (fun _ => true) held n' 26 (([v4, v5, v6, v7].drop 2).take (Tryz.prog.cellsOf 26)) = us[2]? := hf' 2 _ rfl
  rw [cellsKind] at g2
  have g3 : DataW.trod enc Tryz.prog W 0 (fun _ => true) held n' 23 (([v4, v5, v6, v7].drop 3).take (Tryz.prog.cellsOf 23)) = us[3]? := hf' 3 _ rfl
  rw [cellsBytes] at g3
  obtain ⟨u0, u1, u2, u3, rfl⟩ := list4 us hyl'
  simp only [List.getElem?_cons_zero, List.getElem?_cons_succ, List.drop_zero, List.drop_succ_cons, List.take_succ_cons, List.take_zero] at g0 g1 g2 g3
  have hx2 : y4.1 = .agg [u0.1, u1.1, u2.1, u3.1] := by rw [hx']; rfl
  have hwE : ∀ m ∈ u3.1.weights Tryz.prog 23, m ≤ reachBytes := fun m hm => by
    refine hwj 4 _ _ rfl rfl m ?_
    rw [hx2]
    simp only [DataW.weights, Tryz.underlying28]
    exact DataW.weights_mem_each (ts := [3, 3, 26, 23]) (ds := [u0.1, u1.1, u2.1, u3.1]) (j := 3) rfl rfl m hm
  clear hf' hx' hyl' hl' hwj
  obtain ⟨n4, e4, _, w4⟩ := DataW.trod_int Tryz.underlying3 g0
  obtain ⟨n5, e5, _, w5⟩ := DataW.trod_int Tryz.underlying3 g1
  obtain ⟨n6, e6, _, w6⟩ := DataW.trod_int Tryz.underlying26 g2
  obtain ⟨A7, z7, c7, e7, k7, j7, l7, m7, o7⟩ := open_bytes_raw Tryz.underlying23 Tryz.underlying5 cellsByte bytesByte g3 hwE
  simp only [List.cons.injEq, and_true] at e0 e1 e2 e3 e4 e5 e6 e7 e8
  subst e0 e1 e2 e3 e4 e5 e6 e7 e8
  exact ⟨⟨n0, n1, n8, ⟨n4, n5, n6, z7⟩, A2, z2, c2, A3, z3, c3, A7, c7⟩, rfl, ⟨k2, ⟨k3, j3⟩, ⟨k7, j7⟩, o3, o7, ⟨bounds_i64 w0, bounds_i64 w1, bounds_i64 w8, bounds_i64 w4, bounds_i64 w5, bounds_i64 w6⟩, ⟨by show z2.length ≤ _; omega, by show z3.length ≤ _; omega, by show z7.length ≤ _; omega⟩⟩, o2⟩

set_option maxRecDepth 100000 in
theorem open_parts_all {H : Type} {enc : TypeId × Value → H} {W : World} {base : Nat} {v : Value} {d : DataW H} {pl : List MemPlace}
    (hv : Value.okWide Tryz.prog W .any base 31 v) (h : DataW.Trod enc Tryz.prog W 0 (fun _ => true) true 31 v d pl) (hw : ∀ n ∈ d.weights Tryz.prog 31, n ≤ reachBytes) :
    ∃ (A : Option Addr) (ps : List PartV) (cap : Nat), v = .slice A ps.length cap ∧ PVAt W A ps ∧ ps.length ≤ 140737488351232 ∧ ∀ p ∈ ps, p.nA = none → p.nc = 0 := by
  obtain ⟨a0, len, cap, rfl⟩ := okWide_slice Tryz.underlying31 hv
  obtain ⟨fuel, hf⟩ := h
  rcases open_slice Tryz.underlying31 hf with ⟨hcs, hx⟩ | ⟨a, len, cap, m, n, D, Pl, hcs, _, hl, hm, hmm, hx, hi⟩
  · simp [Value.cells] at hcs
    obtain ⟨rfl, rfl, rfl⟩ := hcs
    exact ⟨none, [], 0, rfl, ⟨(fun p hp => by cases hp), (fun h => absurd rfl h)⟩, Nat.zero_le _, fun p hp => by cases hp⟩
  · simp [Value.cells] at hcs
    obtain ⟨rfl, rfl, rfl⟩ := hcs
    simp only [Prod.mk.injEq] at hx
    simp only [if_true] at hmm
    have hwlen : (len + (m - len)) * 120 ≤ reachBytes := by
      refine hw _ ?_
      rw [hx.1]
      simp only [DataW.weights, Tryz.underlying31, bytesPart, List.length_map, List.length_range]
      exact List.mem_cons_self
    have each : ∀ i, i < len → ∃ p : PartV, (∀ j v, p.cells[j]? = some v → W.cell? ((a.add (i * 9)).add j) = some v) ∧ p.ok W ∧ (p.nA = none → p.nc = 0) := by
      intro i hil
      obtain ⟨cs', hcl, htr⟩ := hi i (by omega)
      rw [cellsPart] at hcl
      obtain ⟨_, hlen1, hcell⟩ := World.cells?_some hcl
      obtain ⟨p, rfl, hok⟩ := open_part htr (fun q hq => hw q (by
        rw [hx.1]
        simp only [DataW.weights, Tryz.underlying31]
        refine List.mem_cons.2 (.inr (List.mem_append.2 (.inl (weights_elem ?_ q hq))))
        exact List.mem_map.2 ⟨i, List.mem_range.2 hil, rfl⟩))
      refine ⟨p, fun j v hj => ?_, hok⟩
      have hj9 : j < 9 := by
        have := (List.getElem?_eq_some_iff.1 hj).1
        rwa [hlen1] at this
      rw [hcell j hj9]; exact hj
    have hchoice : ∃ f : Nat → PartV, ∀ i, i < len → (∀ j v, (f i).cells[j]? = some v → W.cell? ((a.add (i * 9)).add j) = some v) ∧ (f i).ok W ∧ ((f i).nA = none → (f i).nc = 0) :=
      ⟨fun i => if h : i < len then Classical.choose (each i h) else blankV0, fun i h => by
        simp only [h, dif_pos]
        exact Classical.choose_spec (each i h)⟩
    obtain ⟨f, hfn⟩ := hchoice
    have hpl : ((List.range len).map f).length = len := by simp
    refine ⟨some a, (List.range len).map f, cap, by rw [hpl], ⟨fun p hp => ?_, fun hne => ?_⟩, by rw [hpl]; simp only [reachBytes] at hwlen; omega, fun p hp => by
      obtain ⟨i, hil, rfl⟩ := List.mem_map.1 hp
      exact (hfn i (List.mem_range.1 hil)).2.2⟩
    · obtain ⟨i, hil, rfl⟩ := List.mem_map.1 hp
      exact (hfn i (List.mem_range.1 hil)).2.1
    · have hpos : 0 < len := by
        rcases Nat.eq_zero_or_pos len with h0 | h0
        · subst h0; exact absurd rfl hne
        · exact h0
      obtain ⟨b, off, spot⟩ := a
      have hspot : spot = none := by simpa [Addr.add] using World.cell?_spot ((hfn 0 hpos).1 0 _ rfl)
      subst hspot
      refine ⟨b, off, rfl, fun i p hp j v hj => ?_⟩
      rw [List.getElem?_map] at hp
      by_cases hil : i < len
      · rw [List.getElem?_range hil] at hp
        obtain rfl : f i = p := by simpa using hp
        have := (hfn i hil).1 j v hj
        rwa [addr_add2] at this
      · rw [List.getElem?_eq_none (by simpa using hil)] at hp; cases hp
set_option maxRecDepth 100000 in
theorem open_parts {H : Type} {enc : TypeId × Value → H} {W : World} {base : Nat} {v : Value} {d : DataW H} {pl : List MemPlace}
    (hv : Value.okWide Tryz.prog W .any base 31 v) (h : DataW.Trod enc Tryz.prog W 0 (fun _ => true) true 31 v d pl) (hw : ∀ n ∈ d.weights Tryz.prog 31, n ≤ reachBytes) :
    ∃ (A : Option Addr) (ps : List PartV) (cap : Nat), v = .slice A ps.length cap ∧ PVAt W A ps ∧ ps.length ≤ 140737488351232 := by
  obtain ⟨A, ps, cap, h1, h2, h3, _⟩ := open_parts_all hv h hw
  exact ⟨A, ps, cap, h1, h2, h3⟩
/-! ### the package's own errors, as they are laid -/
theorem starErr : "*" ++ "errors.errorString" = "*errors.errorString" := by decide
theorem rowErr (u : TypeId) (h : Tryz.prog.typeName? 3 u = some "*errors.errorString") : u = 205 :=
  typeName_ptr_named (nm := "errors.errorString") (by rw [starErr]; kernel_rfl) (by kernel_rfl) (by decide) u (by rw [starErr]; exact h)
theorem cellsErr : Tryz.prog.cellsOf 225 = 1 := by kernel_rfl
set_option maxRecDepth 100000 in
/-- The head of a list of laid sentinels: its address, that its block is there, and that its place is apart from the rest's. -/
theorem sent_step {W : World} {n : String} {text : List UInt8} {r : List (String × DataW Unit)} {ps : List MemPlace} {g : Nat}
    (h : DataW.LaidVars Tryz.prog W ((n, .iface "*errors.errorString" (.ptr (.agg [.lit (.string text)]))) :: r) ps)
    (hrows : ∀ b off, MemPlace.cell b off ∈ ps → (∃ c t, W.heap[b]? = some (.cells c t (0, 0))) ∧ ∀ u v, W.cell? ⟨b, off, none⟩ = some (.iface u v) → Value.okWide Tryz.prog W .any 0 u v)
    (hg : Tryz.prog.globalNamed n = some g) (ht : (Tryz.prog.globals[g]?).map (·.type) = some 98) :
    ∃ (a : Addr) (X q : List MemPlace), W.cell? ⟨g, 0, none⟩ = some (errV a) ∧ (∃ c t, W.heap[a.block]? = some (.cells c t (0, 0))) ∧ DataW.LaidVars Tryz.prog W r q ∧ ps = X ++ q ∧ MemPlace.cell a.block a.off ∈ X := by
  obtain ⟨g0, t0, cs0, f0, p0, q0, hg0, ht0, hv0, hd0, hrest, e0⟩ := h
  obtain rfl := Option.some.inj (hg.symm.trans hg0)
  obtain rfl := Option.some.inj (ht.symm.trans ht0)
  obtain ⟨l0⟩ := cs0
  have ok0 : ∀ u v, l0 = [.iface u v] → Value.okWide Tryz.prog W .any 0 u v := fun u v e => by
    subst e
    exact (hrows g 0 (by rw [e0]; simp [MemPlace.row])).2 u v (by simpa using World.var?_cell hg0 hv0 0)
  obtain ⟨a0, s0, rfl, hc0, hs0, hz0, hp0⟩ := errorString_of_trod Tryz.underlying98 rowErr Tryz.underlying205 Tryz.underlying225 rfl rfl Tryz.underlying9 cellsErr cellsStr hd0 ok0
  subst hp0
  have hin : MemPlace.cell a0.block a0.off ∈ ps := by rw [e0]; simp [MemPlace.row]
  have hcell := World.var?_cell hg0 hv0 0
  exact ⟨a0, _, q0, by simpa [errV] using hcell, (hrows _ _ hin).1, hrest, e0, by simp [MemPlace.row]⟩
theorem places_ne {X q : List MemPlace} {a b : Addr} (hn : (X ++ q).Nodup) (ha : MemPlace.cell a.block a.off ∈ X) (hb : MemPlace.cell b.block b.off ∈ q) : a ≠ b := by
  rintro rfl
  exact (List.nodup_append.1 hn).2.2 _ ha _ hb rfl
theorem rows_tail {W : World} {X q : List MemPlace} (h : ∀ b off, MemPlace.cell b off ∈ X ++ q → (∃ c t, W.heap[b]? = some (.cells c t (0, 0))) ∧ ∀ u v, W.cell? ⟨b, off, none⟩ = some (.iface u v) → Value.okWide Tryz.prog W .any 0 u v) :
    ∀ b off, MemPlace.cell b off ∈ q → (∃ c t, W.heap[b]? = some (.cells c t (0, 0))) ∧ ∀ u v, W.cell? ⟨b, off, none⟩ = some (.iface u v) → Value.okWide Tryz.prog W .any 0 u v :=
  fun b off hm => h b off (List.mem_append_right _ hm)
abbrev laidF : List (String × DataW Unit) := [("limpet/code.errWidth", Rows.laid_limpet_code_errWidth), ("limpet/code.errFew", Rows.laid_limpet_code_errFew), ("limpet/code.errGreat", Rows.laid_limpet_code_errGreat)]
abbrev laidS : List (String × DataW Unit) := [("limpet/code.errWidth", Rows.laid_limpet_code_errWidth), ("limpet/code.errFew", Rows.laid_limpet_code_errFew), ("limpet/code.errGreat", Rows.laid_limpet_code_errGreat), ("limpet/code.errMuch", Rows.laid_limpet_code_errMuch), ("limpet/code.errEntry", Rows.laid_limpet_code_errEntry)]
abbrev laidA : List (String × DataW Unit) := ("errors.errorType", Rows.laid_errors_errorType) :: laidS
theorem gWd : Tryz.prog.globalNamed "limpet/code.errWidth" = some 0 := by kernel_rfl
theorem gFew : Tryz.prog.globalNamed "limpet/code.errFew" = some 1 := by kernel_rfl
theorem gGr : Tryz.prog.globalNamed "limpet/code.errGreat" = some 2 := by kernel_rfl
theorem gMu : Tryz.prog.globalNamed "limpet/code.errMuch" = some 4 := by kernel_rfl
theorem gEn : Tryz.prog.globalNamed "limpet/code.errEntry" = some 3 := by kernel_rfl
theorem tWd : (Tryz.prog.globals[0]?).map (·.type) = some 98 := by kernel_rfl
theorem tFew : (Tryz.prog.globals[1]?).map (·.type) = some 98 := by kernel_rfl
theorem tGr : (Tryz.prog.globals[2]?).map (·.type) = some 98 := by kernel_rfl
theorem tMu : (Tryz.prog.globals[4]?).map (·.type) = some 98 := by kernel_rfl
theorem tEn : (Tryz.prog.globals[3]?).map (·.type) = some 98 := by kernel_rfl
set_option maxRecDepth 100000 in
/-- What a field reads, out of the laid list of CodePuts. -/
theorem glF_of {W : World} (h : laidMetH Tryz.prog laidF W) : ∃ σ, GlF σ W := by
  rw [MakeChecks.laidMetH_plain _ _ _ (by kernel_rfl)] at h
  obtain ⟨ps, hL, hnd, hrows⟩ := h
  obtain ⟨a0, X0, q0, c0, _, h0, rfl, _⟩ := sent_step hL hrows gWd tWd
  obtain ⟨a1, X1, q1, c1, _, h1, rfl, _⟩ := sent_step h0 (rows_tail hrows) gFew tFew
  obtain ⟨a2, X2, q2, c2, _, h2, rfl, _⟩ := sent_step h1 (rows_tail (rows_tail hrows)) gGr tGr
  refine ⟨⟨a0, a1, a2, ⟨a0.block + a1.block + a2.block + 1, 0, none⟩, a0⟩, c0, c1, c2, ?_, ?_, ?_⟩
  · intro e
    have := congrArg Addr.block e
    simp at this; omega
  · intro e
    have := congrArg Addr.block e
    simp at this; omega
  · intro e
    have := congrArg Addr.block e
    simp at this; omega
theorem gTy : Tryz.prog.globalNamed "errors.errorType" = some 5 := by kernel_rfl
theorem rtRow : (Tryz.prog.cutTypes.find? (·.1 == "internal/reflectlite.rtype")).map (·.2) = some 185 := by kernel_rfl
theorem typesSize : Tryz.prog.types.size = 237 := by kernel_rfl
theorem oneRow : ((List.range 237).filter fun t => Tryz.prog.rowNamed t [101, 114, 114, 111, 114]) = [98] := by kernel_rfl
set_option maxRecDepth 100000 in
/-- All of them, out of the laid list of CodeOne, CodeBack, CodeEnds. -/
theorem glAt_of {W : World} (h : laidMetH Tryz.prog laidA W) : ∃ σ, GlAt σ W := by
  have h' : laidMet Tryz.prog laidS W ∧ handlesMet Tryz.prog [("errors.errorType", Rows.laid_errors_errorType)] W := h
  obtain ⟨⟨ps, hL, hnd, hrows⟩, hh⟩ := h'
  obtain ⟨a0, X0, q0, c0, b0, h0, rfl, m0⟩ := sent_step hL hrows gWd tWd
  have r0 := rows_tail hrows
  have n0 := (List.nodup_append.1 hnd).2.1
  obtain ⟨a1, X1, q1, c1, b1, h1, rfl, m1⟩ := sent_step h0 r0 gFew tFew
  have r1 := rows_tail r0
  have n1 := (List.nodup_append.1 n0).2.1
  obtain ⟨a2, X2, q2, c2, b2, h2, rfl, m2⟩ := sent_step h1 r1 gGr tGr
  have r2 := rows_tail r1
  have n2 := (List.nodup_append.1 n1).2.1
  obtain ⟨a3, X3, q3, c3, b3, h3, rfl, m3⟩ := sent_step h2 r2 gMu tMu
  have r3 := rows_tail r2
  obtain ⟨a4, X4, q4, c4, b4, h4, rfl, m4⟩ := sent_step h3 r3 gEn tEn
  obtain ⟨name, u, ty, e1, e2, e3, e4, e5⟩ := hh _ (List.mem_singleton.2 rfl)
  have en : name = [101, 114, 114, 111, 114] := (Option.some.inj e1).symm
  subst en
  obtain rfl := Option.some.inj (rtRow.symm.trans e2)
  have hm : ty ∈ (List.range 237).filter fun t => Tryz.prog.rowNamed t [101, 114, 114, 111, 114] := List.mem_filter.2 ⟨List.mem_range.2 (by rw [← typesSize]; exact e3), e4⟩
  rw [oneRow] at hm
  obtain rfl := List.mem_singleton.1 hm
  have hth : typeHandle Tryz.prog 98 = .pointer (some ⟨6, 98, none⟩) := by kernel_rfl
  rw [hth] at e5
  have cty := World.var?_cell gTy e5 0
  refine ⟨⟨a0, a1, a2, a3, a4⟩, c0, c1, c2, c3, c4, by simpa using cty, ?_, ?_, ?_, ?_, ?_⟩
  · rintro a (rfl | rfl | rfl | rfl | rfl)
    · exact b0
    · exact b1
    · exact b2
    · exact b3
    · exact b4
  · exact places_ne hnd m0 (List.mem_append_right _ (List.mem_append_right _ (List.mem_append_left _ m3)))
  · exact places_ne n0 m1 (List.mem_append_right _ (List.mem_append_left _ m3))
  · exact places_ne n1 m2 (List.mem_append_left _ m3)
  · exact (places_ne n2 m3 (List.mem_append_left _ m4)).symm
end Go.Proofs.YtifoiiaddcgngaaGreatDoor
