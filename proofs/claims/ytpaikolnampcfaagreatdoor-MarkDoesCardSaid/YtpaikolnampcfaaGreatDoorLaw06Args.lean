/- Marks, rows of numbers that come in, opened. -/
import Derived.Test.YtpaikolnampcfaaGreatDoorLaw06Facts
import Derived.Test.YtpaikolnampcfaaGreatDoorMarkV
import Derived.Test.YtpaikolnampcfaaGreatDoorKitInts
namespace Go.Proofs.YtpaikolnampcfaaGreatDoor
set_option maxRecDepth 100000
open Go.ChangeShapes Go.WideShapes Go.RowKit Go.Deep
theorem cellsIdent : Tryz.prog.cellsOf 24 = 3 := by kernel_rfl
theorem cellsMark : Tryz.prog.cellsOf 26 = 5 := by kernel_rfl
theorem cellsEKind : Tryz.prog.cellsOf 22 = 1 := by kernel_rfl
def MarkV.cells (m : MarkV) : List Value := [.int .i64 m.ver, .int .i64 m.idx, .int .i64 m.term, .int .i64 m.kind, .int .i64 m.void]
theorem open_ident_raw {H : Type} {enc : TypeId × Value → H} {W : World} {held : Bool} {fuel : Nat} {cs : List Value} {x : DataW H × List MemPlace}
 (h : DataW.trod enc Tryz.prog W 0 (fun _ => true) held fuel 24 cs = some x) : ∃ i t k : Int, cs = [.int .i64 i, .int .i64 t, .int .i64 k] := by
 obtain ⟨ys, n, _, hx, hl, hyl, hf⟩ := DataW.trod_struct Tryz.underlying24 h
 rw [cellsIdent] at hl
 have f0 : DataW.trod enc Tryz.prog W 0 (fun _ => true) held n 3 ((cs.drop 0).take (Tryz.prog.cellsOf 3)) = ys[0]? := hf 0 _ rfl
 rw [cellsInt] at f0
 have f1 : DataW.trod enc Tryz.prog W 0 (fun _ => true) held n 3 ((cs.drop 1).take (Tryz.prog.cellsOf 3)) = ys[1]? := hf 1 _ rfl
 rw [cellsInt] at f1
 have f2 : DataW.trod enc Tryz.prog W 0 (fun _ => true) held n 22 ((cs.drop 2).take (Tryz.prog.cellsOf 22)) = ys[2]? := hf 2 _ rfl
 rw [cellsEKind] at f2
 obtain ⟨y0, y1, y2, rfl⟩ := list3 ys hyl
 obtain ⟨v0, v1, v2, rfl⟩ := list3 cs hl
 simp only [List.getElem?_cons_zero, List.getElem?_cons_succ, List.drop_zero, List.drop_succ_cons, List.take_succ_cons, List.take_zero] at f0 f1 f2
 obtain ⟨n0, e0, _, _⟩ := DataW.trod_int Tryz.underlying3 f0
 obtain ⟨n1, e1, _, _⟩ := DataW.trod_int Tryz.underlying3 f1
 obtain ⟨n2, e2, _, _⟩ := DataW.trod_int Tryz.underlying22 f2
 simp only [List.cons.injEq, and_true] at e0 e1 e2
 subst e0 e1 e2
 exact ⟨n0, n1, n2, rfl⟩
theorem open_mark_raw {H : Type} {enc : TypeId × Value → H} {W : World} {held : Bool} {fuel : Nat} {cs : List Value} {x : DataW H × List MemPlace}
 (h : DataW.trod enc Tryz.prog W 0 (fun _ => true) held fuel 26 cs = some x) : ∃ m : MarkV, cs = m.cells := by
 obtain ⟨ys, n, _, hx, hl, hyl, hf⟩ := DataW.trod_struct Tryz.underlying26 h
 rw [cellsMark] at hl
 have f0 : DataW.trod enc Tryz.prog W 0 (fun _ => true) held n 3 ((cs.drop 0).take (Tryz.prog.cellsOf 3)) = ys[0]? := hf 0 _ rfl
 rw [cellsInt] at f0
 have f1 : DataW.trod enc Tryz.prog W 0 (fun _ => true) held n 24 ((cs.drop 1).take (Tryz.prog.cellsOf 24)) = ys[1]? := hf 1 _ rfl
 rw [cellsIdent] at f1
 have f2 : DataW.trod enc Tryz.prog W 0 (fun _ => true) held n 3 ((cs.drop 4).take (Tryz.prog.cellsOf 3)) = ys[2]? := hf 2 _ rfl
 rw [cellsInt] at f2
 obtain ⟨y0, y1, y2, rfl⟩ := list3 ys hyl
 obtain ⟨v0, v1, v2, v3, v4, rfl⟩ : ∃ a b c d e, cs = [a, b, c, d, e] := by
  match cs, hl with
  | [a, b, c, d, e], _ => exact ⟨a, b, c, d, e, rfl⟩
 simp only [List.getElem?_cons_zero, List.getElem?_cons_succ, List.drop_zero, List.drop_succ_cons, List.take_succ_cons, List.take_zero] at f0 f1 f2
 obtain ⟨n0, e0, _, _⟩ := DataW.trod_int Tryz.underlying3 f0
 obtain ⟨i, t, k, e1⟩ := open_ident_raw f1
 obtain ⟨n2, e2, _, _⟩ := DataW.trod_int Tryz.underlying3 f2
 simp only [List.cons.injEq, and_true] at e0 e1 e2
 obtain ⟨rfl, rfl, rfl⟩ := e1
 subst e0 e2
 exact ⟨⟨n0, i, t, k, n2⟩, rfl⟩
end Go.Proofs.YtpaikolnampcfaaGreatDoor
