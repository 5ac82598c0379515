/- Deeds of law 06 that come in, opened. -/
import Derived.Test.YtpaikolnampcfaaGreatDoorLaw06Args
import Derived.Test.YtpaikolnampcfaaGreatDoorRef6Open
namespace Go.Proofs.YtpaikolnampcfaaGreatDoor
set_option maxRecDepth 100000
open Go.ChangeShapes Go.WideShapes Go.RowKit Go.Deep
theorem cellsDeed6 : Tryz.prog.cellsOf 46 = 11 := by kernel_rfl
theorem bytesDeed6 : Tryz.prog.bytesOf 46 = 104 := by kernel_rfl
theorem cellsUKind : Tryz.prog.cellsOf 27 = 1 := by kernel_rfl
theorem list7 {α : Type} (l : List α) (h : l.length = 7) : ∃ a b c d e f g, l = [a, b, c, d, e, f, g] := by
 match l, h with
 | [a, b, c, d, e, f, g], _ => exact ⟨a, b, c, d, e, f, g, rfl⟩
theorem list11 {α : Type} (l : List α) (h : l.length = 11) : ∃ a b c d e f g i j k m, l = [a, b, c, d, e, f, g, i, j, k, m] := by
 match l, h with
 | [a, b, c, d, e, f, g, i, j, k, m], _ => exact ⟨a, b, c, d, e, f, g, i, j, k, m, rfl⟩
def blankK : DeedK := ⟨0, 0, noMark, 0, 0, 0, none, [], 0⟩
theorem open_deed6 {H : Type} {enc : TypeId × Value → H} {W : World} {held : Bool} {fuel : Nat} {cs : List Value} {x : DataW H × List MemPlace}
 (h : DataW.trod enc Tryz.prog W 0 (fun _ => true) held fuel 46 cs = some x) (hw : ∀ n ∈ x.1.weights Tryz.prog 46, n ≤ reachBytes) : ∃ p : DeedK, cs = p.cells ∧ p.ok W := by
 obtain ⟨ys, n, _, hx, hl, hyl, hf⟩ := DataW.trod_struct Tryz.underlying46 h
 rw [cellsDeed6] at hl
 have f0 : DataW.trod enc Tryz.prog W 0 (fun _ => true) held n 3 ((cs.drop 0).take (Tryz.prog.cellsOf 3)) = ys[0]? := hf 0 _ rfl
 rw [cellsInt] at f0
 have f1 : DataW.trod enc Tryz.prog W 0 (fun _ => true) held n 27 ((cs.drop 1).take (Tryz.prog.cellsOf 27)) = ys[1]? := hf 1 _ rfl
 rw [cellsUKind] at f1
 have f2 : DataW.trod enc Tryz.prog W 0 (fun _ => true) held n 26 ((cs.drop 2).take (Tryz.prog.cellsOf 26)) = ys[2]? := hf 2 _ rfl
 rw [cellsMark] at f2
 have f3 : DataW.trod enc Tryz.prog W 0 (fun _ => true) held n 3 ((cs.drop 7).take (Tryz.prog.cellsOf 3)) = ys[3]? := hf 3 _ rfl
 rw [cellsInt] at f3
 have f4 : DataW.trod enc Tryz.prog W 0 (fun _ => true) held n 3 ((cs.drop 8).take (Tryz.prog.cellsOf 3)) = ys[4]? := hf 4 _ rfl
 rw [cellsInt] at f4
 have f5 : DataW.trod enc Tryz.prog W 0 (fun _ => true) held n 3 ((cs.drop 9).take (Tryz.prog.cellsOf 3)) = ys[5]? := hf 5 _ rfl
 rw [cellsInt] at f5
 have f6 : DataW.trod enc Tryz.prog W 0 (fun _ => true) held n 28 ((cs.drop 10).take (Tryz.prog.cellsOf 28)) = ys[6]? := hf 6 _ rfl
 rw [cellsBytes] at f6
 obtain ⟨y0, y1, y2, y3, y4, y5, y6, rfl⟩ := list7 ys hyl
 obtain ⟨v0, v1, v2, v3, v4, v5, v6, v7, v8, v9, v10, rfl⟩ := list11 cs hl
 simp only [List.getElem?_cons_zero, List.getElem?_cons_succ, List.drop_zero, List.drop_succ_cons, List.take_succ_cons, List.take_zero] at f0 f1 f2 f3 f4 f5 f6
 have hx1 : x.1 = .agg [y0.1, y1.1, y2.1, y3.1, y4.1, y5.1, y6.1] := by rw [hx]; rfl
 rw [hx1] at hw
 have hwj : ∀ (j : Nat) (t : TypeId) (d : DataW H), [3, 27, 26, 3, 3, 3, 28][j]? = some t → [y0.1, y1.1, y2.1, y3.1, y4.1, y5.1, y6.1][j]? = some d → ∀ m ∈ d.weights Tryz.prog t, m ≤ reachBytes := fun j t d ht hd m hm => by
  refine hw m ?_
  simp only [DataW.weights, Tryz.underlying46]
  exact DataW.weights_mem_each (ts := [3, 27, 26, 3, 3, 3, 28]) ht hd m hm
 clear hf hx hyl hl h
 obtain ⟨n0, e0, _, w0⟩ := DataW.trod_int Tryz.underlying3 f0
 obtain ⟨n1, e1, _, w1⟩ := DataW.trod_int Tryz.underlying27 f1
 obtain ⟨m2, e2⟩ := open_mark_raw f2
 obtain ⟨n3, e3, _, w3⟩ := DataW.trod_int Tryz.underlying3 f3
 obtain ⟨n4, e4, _, w4⟩ := DataW.trod_int Tryz.underlying3 f4
 obtain ⟨n5, e5, _, w5⟩ := DataW.trod_int Tryz.underlying3 f5
 obtain ⟨A6, z6, c6, e6, k6, j6, l6, i6, o6⟩ := open_bytes_raw Tryz.underlying28 Tryz.underlying5 cellsByte bytesByte f6 (hwj 6 _ _ rfl rfl)
 obtain ⟨mv, mi, mt, mk, mo⟩ := m2
 simp only [MarkV.cells, List.cons.injEq, and_true] at e0 e1 e2 e3 e4 e5 e6
 obtain ⟨rfl, rfl, rfl, rfl, rfl⟩ := e2
 subst e0 e1 e3 e4 e5 e6
 refine ⟨⟨n0, n1, ⟨mv, mi, mt, mk, mo⟩, n3, n4, n5, A6, z6, c6⟩, rfl, ⟨⟨k6, j6⟩, o6, by show z6.length ≤ _; omega, (bounds_i64 w3).2, w1, fun hne a e => ?_⟩⟩
 obtain ⟨b, off, e', hc⟩ := j6 hne
 have e'' : A6 = some a := e
 rw [e''] at e'
 injection e' with e'
 subst e'
 exact World.block_lt_of_cell? _ _ (hc 0 (List.length_pos_iff.2 hne))
theorem open_deeds6 {H : Type} {enc : TypeId × Value → H} {W : World} {base : Nat} {v : Value} {d : DataW H} {pl : List MemPlace}
 (hv : Value.okWide Tryz.prog W .any base 38 v) (h : DataW.Trod enc Tryz.prog W 0 (fun _ => true) true 38 v d pl) (hw : ∀ n ∈ d.weights Tryz.prog 38, n ≤ reachBytes) :
 ∃ (A : Option Addr) (l : List DeedK) (cap : Nat), v = .slice A l.length cap ∧ DeedsAt6 W A l ∧ l.length ≤ 140737488351232 := by
 obtain ⟨a0, len, cap, rfl⟩ := okWide_slice Tryz.underlying38 hv
 obtain ⟨fuel, hf⟩ := h
 rcases open_slice Tryz.underlying38 hf with ⟨hcs, hx⟩ | ⟨a, len, cap, m, n, D, Pl, hcs, _, hl, hm, hmm, hx, hi⟩
 · simp [Value.cells] at hcs
   obtain ⟨rfl, rfl, rfl⟩ := hcs
   exact ⟨none, [], 0, rfl, ⟨(fun p hp => by cases hp), (fun h => absurd rfl h)⟩, Nat.zero_le _⟩
 · simp [Value.cells] at hcs
   obtain ⟨rfl, rfl, rfl⟩ := hcs
   simp only [Prod.mk.injEq] at hx
   simp only [if_true] at hmm
   have hwlen : (len + (m - len)) * 104 ≤ reachBytes := by
    refine hw _ ?_
    rw [hx.1]
    simp only [DataW.weights, Tryz.underlying38, bytesDeed6, List.length_map, List.length_range]
    exact List.mem_cons_self
   have each : ∀ i, i < len → ∃ p : DeedK, (∀ j v, p.cells[j]? = some v → W.cell? ((a.add (i * 11)).add j) = some v) ∧ p.ok W := by
    intro i hil
    obtain ⟨cs', hcl, htr⟩ := hi i (by omega)
    rw [cellsDeed6] at hcl
    obtain ⟨_, hlen1, hcell⟩ := World.cells?_some hcl
    obtain ⟨p, rfl, hok⟩ := open_deed6 htr (fun q hq => hw q (by
     rw [hx.1]
     simp only [DataW.weights, Tryz.underlying38]
     refine List.mem_cons.2 (.inr (List.mem_append.2 (.inl (weights_elem ?_ q hq))))
     exact List.mem_map.2 ⟨i, List.mem_range.2 hil, rfl⟩))
    refine ⟨p, fun j v hj => ?_, hok⟩
    have hj6 : j < 11 := by
     have := (List.getElem?_eq_some_iff.1 hj).1
     rwa [hlen1] at this
    rw [hcell j hj6]; exact hj
   have hchoice : ∃ f : Nat → DeedK, ∀ i, i < len → (∀ j v, (f i).cells[j]? = some v → W.cell? ((a.add (i * 11)).add j) = some v) ∧ (f i).ok W :=
    ⟨fun i => if h : i < len then Classical.choose (each i h) else blankK, fun i h => by
     simp only [h, dif_pos]
     exact Classical.choose_spec (each i h)⟩
   obtain ⟨f, hfn⟩ := hchoice
   have hpl : ((List.range len).map f).length = len := by simp
   refine ⟨some a, (List.range len).map f, cap, by rw [hpl], ⟨fun p hp => ?_, fun hne => ?_⟩, by rw [hpl]; simp only [reachBytes] at hwlen; omega⟩
   · obtain ⟨i, hil, rfl⟩ := List.mem_map.1 hp
     exact (hfn i (List.mem_range.1 hil)).2
   · have hpos : 0 < len := by
      rcases Nat.eq_zero_or_pos len with h0 | h0
      · subst h0; exact absurd rfl hne
      · exact h0
     obtain ⟨b, off, spot⟩ := a
     have hspot : spot = none := by simpa [Addr.add] using World.cell?_spot ((hfn 0 hpos).1 0 _ rfl)
     subst hspot
     refine ⟨b, off, rfl, fun i p hp j v hj => ?_⟩
     rw [List.getElem?_map] at hp
     by_cases hil : i < len
     · rw [List.getElem?_range hil] at hp
       obtain rfl : f i = p := by simpa using hp
       have := (hfn i hil).1 j v hj
       rwa [addr_add2] at this
     · rw [List.getElem?_eq_none (by simpa using hil)] at hp; cases hp
end Go.Proofs.YtpaikolnampcfaaGreatDoor
