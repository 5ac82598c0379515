/- Deeds that come in, opened. -/
import Derived.Test.YtgjdoiblgbdebaaDoorLaw03Facts
import Derived.Test.YtgjdoiblgbdebaaDoorLaw03Do
namespace Go.Proofs.YtgjdoiblgbdebaaDoor
open Go.ChangeShapes Go.WideShapes Go.RowKit Go.Deep
theorem cellsDeed : Tryd.prog.cellsOf 36 = 6 := by kernel_rfl
theorem bytesDeed : Tryd.prog.bytesOf 36 = 64 := by kernel_rfl
theorem cellsU32 : Tryd.prog.cellsOf 34 = 1 := by kernel_rfl
theorem list6 {α : Type} (l : List α) (h : l.length = 6) : ∃ a b c d e f, l = [a, b, c, d, e, f] := by
  match l, h with
  | [a, b, c, d, e, f], _ => exact ⟨a, b, c, d, e, f, rfl⟩
def blankD : DeedV := ⟨0, 0, none, [], 0, 0, 0, 0⟩
theorem open_deed {H : Type} {enc : TypeId × Value → H} {W : World} {held : Bool} {fuel : Nat} {cs : List Value} {x : DataW H × List MemPlace}
    (h : DataW.trod enc Tryd.prog W 0 (fun _ => true) held fuel 36 cs = some x) (hw : ∀ n ∈ x.1.weights Tryd.prog 36, n ≤ reachBytes) : ∃ p : DeedV, cs = p.cells ∧ p.ok W := by
  obtain ⟨ys, n, _, hx, hl, hyl, hf⟩ := DataW.trod_struct Tryd.underlying36 h
  rw [cellsDeed] at hl
  have f0 : DataW.trod enc Tryd.prog W 0 (fun _ => true) held n 3 ((cs.drop 0).take (Tryd.prog.cellsOf 3)) = ys[0]? := hf 0 _ rfl
  rw [cellsInt] at f0
  have f1 : DataW.trod enc Tryd.prog W 0 (fun _ => true) held n 3 ((cs.drop 1).take (Tryd.prog.cellsOf 3)) = ys[1]? := hf 1 _ rfl
  rw [cellsInt] at f1
  have f2 : DataW.trod enc Tryd.prog W 0 (fun _ => true) held n 33 ((cs.drop 2).take (Tryd.prog.cellsOf 33)) = ys[2]? := hf 2 _ rfl
  rw [cellsBytes] at f2
  have f3 : DataW.trod enc Tryd.prog W 0 (fun _ => true) held n 3 ((cs.drop 3).take (Tryd.prog.cellsOf 3)) = ys[3]? := hf 3 _ rfl
  rw [cellsInt] at f3
  have f4 : DataW.trod enc Tryd.prog W 0 (fun _ => true) held n 3 ((cs.drop 4).take (Tryd.prog.cellsOf 3)) = ys[4]? := hf 4 _ rfl
  rw [cellsInt] at f4
  have f5 : DataW.trod enc Tryd.prog W 0 (fun _ => true) held n 34 ((cs.drop 5).take (Tryd.prog.cellsOf 34)) = ys[5]? := hf 5 _ rfl
  rw [cellsU32] at f5
  obtain ⟨y0, y1, y2, y3, y4, y5, rfl⟩ := list6 ys hyl
  obtain ⟨v0, v1, v2, v3, v4, v5, rfl⟩ := list6 cs hl
  simp only [List.getElem?_cons_zero, List.getElem?_cons_succ, List.drop_zero, List.drop_succ_cons, List.take_succ_cons, List.take_zero] at f0 f1 f2 f3 f4 f5
  have hx1 : x.1 = .agg [y0.1, y1.1, y2.1, y3.1, y4.1, y5.1] := by rw [hx]; rfl
  rw [hx1] at hw
  have hwj : ∀ (j : Nat) (t : TypeId) (d : DataW H), [3, 3, 33, 3, 3, 34][j]? = some t → [y0.1, y1.1, y2.1, y3.1, y4.1, y5.1][j]? = some d → ∀ m ∈ d.weights Tryd.prog t, m ≤ reachBytes := fun j t d ht hd m hm => by
    refine hw m ?_
    simp only [DataW.weights, Tryd.underlying36]
    exact DataW.weights_mem_each (ts := [3, 3, 33, 3, 3, 34]) ht hd m hm
  clear hf hx hyl hl h
  obtain ⟨n0, e0, _, w0⟩ := DataW.trod_int Tryd.underlying3 f0
  obtain ⟨n1, e1, _, w1⟩ := DataW.trod_int Tryd.underlying3 f1
  obtain ⟨n3, e3, _, w3⟩ := DataW.trod_int Tryd.underlying3 f3
  obtain ⟨n4, e4, _, w4⟩ := DataW.trod_int Tryd.underlying3 f4
  obtain ⟨n5, e5, _, w5⟩ := DataW.trod_int Tryd.underlying34 f5
  obtain ⟨A2, z2, c2, e2, k2, j2, l2, m2, o2⟩ := open_bytes_raw Tryd.underlying33 Tryd.underlying5 cellsByte bytesByte f2 (hwj 2 _ _ rfl rfl)
  have hm := bounds_u32 w5
  obtain ⟨mk, rfl⟩ := Int.eq_ofNat_of_zero_le hm.1
  simp only [List.cons.injEq, and_true] at e0 e1 e2 e3 e4 e5
  subst e0 e1 e2 e3 e4 e5
  refine ⟨⟨n0, n1, A2, z2, c2, n3, n4, mk⟩, rfl, ⟨⟨k2, j2⟩, o2, by show z2.length ≤ _; omega, (bounds_i64 w1).2, by show mk < _; omega, fun hne a e => ?_⟩⟩
  obtain ⟨b, off, e', hc⟩ := j2 hne
  have e'' : A2 = some a := e
  rw [e''] at e'
  injection e' with e'
  subst e'
  exact World.block_lt_of_cell? _ _ (hc 0 (List.length_pos_iff.2 hne))
set_option maxRecDepth 100000 in
theorem open_deeds {H : Type} {enc : TypeId × Value → H} {W : World} {base : Nat} {v : Value} {d : DataW H} {pl : List MemPlace}
    (hv : Value.okWide Tryd.prog W .any base 22 v) (h : DataW.Trod enc Tryd.prog W 0 (fun _ => true) true 22 v d pl) (hw : ∀ n ∈ d.weights Tryd.prog 22, n ≤ reachBytes) :
    ∃ (A : Option Addr) (l : List DeedV) (cap : Nat), v = .slice A l.length cap ∧ DeedsAt W A l ∧ l.length ≤ 140737488351232 := by
  obtain ⟨a0, len, cap, rfl⟩ := okWide_slice Tryd.underlying22 hv
  obtain ⟨fuel, hf⟩ := h
  rcases open_slice Tryd.underlying22 hf with ⟨hcs, hx⟩ | ⟨a, len, cap, m, n, D, Pl, hcs, _, hl, hm, hmm, hx, hi⟩
  · simp [Value.cells] at hcs
    obtain ⟨rfl, rfl, rfl⟩ := hcs
    exact ⟨none, [], 0, rfl, ⟨(fun p hp => by cases hp), (fun h => absurd rfl h)⟩, Nat.zero_le _⟩
  · simp [Value.cells] at hcs
    obtain ⟨rfl, rfl, rfl⟩ := hcs
    simp only [Prod.mk.injEq] at hx
    simp only [if_true] at hmm
    have hwlen : (len + (m - len)) * 64 ≤ reachBytes := by
      refine hw _ ?_
      rw [hx.1]
      simp only [DataW.weights, Tryd.underlying22, bytesDeed, List.length_map, List.length_range]
      exact List.mem_cons_self
    have each : ∀ i, i < len → ∃ p : DeedV, (∀ j v, p.cells[j]? = some v → W.cell? ((a.add (i * 6)).add j) = some v) ∧ p.ok W := by
      intro i hil
      obtain ⟨cs', hcl, htr⟩ := hi i (by omega)
      rw [cellsDeed] at hcl
      obtain ⟨_, hlen1, hcell⟩ := World.cells?_some hcl
      obtain ⟨p, rfl, hok⟩ := open_deed htr (fun q hq => hw q (by
        rw [hx.1]
        simp only [DataW.weights, Tryd.underlying22]
        refine List.mem_cons.2 (.inr (List.mem_append.2 (.inl (weights_elem ?_ q hq))))
        exact List.mem_map.2 ⟨i, List.mem_range.2 hil, rfl⟩))
      refine ⟨p, fun j v hj => ?_, hok⟩
      have hj6 : j < 6 := by
        have := (List.getElem?_eq_some_iff.1 hj).1
        rwa [hlen1] at this
      rw [hcell j hj6]; exact hj
    have hchoice : ∃ f : Nat → DeedV, ∀ i, i < len → (∀ j v, (f i).cells[j]? = some v → W.cell? ((a.add (i * 6)).add j) = some v) ∧ (f i).ok W :=
      ⟨fun i => if h : i < len then Classical.choose (each i h) else blankD, fun i h => by
        simp only [h, dif_pos]
        exact Classical.choose_spec (each i h)⟩
    obtain ⟨f, hfn⟩ := hchoice
    have hpl : ((List.range len).map f).length = len := by simp
    refine ⟨some a, (List.range len).map f, cap, by rw [hpl], ⟨fun p hp => ?_, fun hne => ?_⟩, by rw [hpl]; simp only [reachBytes] at hwlen; omega⟩
    · obtain ⟨i, hil, rfl⟩ := List.mem_map.1 hp
      exact (hfn i (List.mem_range.1 hil)).2
    · have hpos : 0 < len := by
        rcases Nat.eq_zero_or_pos len with h0 | h0
        · subst h0; exact absurd rfl hne
        · exact h0
      obtain ⟨b, off, spot⟩ := a
      have hspot : spot = none := by simpa [Addr.add] using World.cell?_spot ((hfn 0 hpos).1 0 _ rfl)
      subst hspot
      refine ⟨b, off, rfl, fun i p hp j v hj => ?_⟩
      rw [List.getElem?_map] at hp
      by_cases hil : i < len
      · rw [List.getElem?_range hil] at hp
        obtain rfl : f i = p := by simpa using hp
        have := (hfn i hil).1 j v hj
        rwa [addr_add2] at this
      · rw [List.getElem?_eq_none (by simpa using hil)] at hp; cases hp
end Go.Proofs.YtgjdoiblgbdebaaDoor
