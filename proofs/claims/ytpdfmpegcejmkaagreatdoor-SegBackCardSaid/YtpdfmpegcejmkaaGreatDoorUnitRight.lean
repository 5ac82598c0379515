/- Idents, entries that come in, opened. -/
/- When a block is one of a unit, part by part: plain mathematics. -/
/- Is a unit right, is it small; the parts of its body: the package's, and the page's own. -/
import Derived.Test.YtpdfmpegcejmkaaGreatDoorCodeRight
import Derived.Test.YtpdfmpegcejmkaaGreatDoorKitSame
import Derived.Test.YtpdfmpegcejmkaaGreatDoorUnitModel
import Derived.Test.YtpdfmpegcejmkaaGreatDoorKitChg
namespace Go.Proofs.YtpdfmpegcejmkaaGreatDoor
open Go.ChangeShapes Go.WideShapes Go.RowKit Go.Deep
theorem cellsIdent8 : Tryz.prog.cellsOf 26 = 3 := by kernel_rfl
theorem cellsEntry8 : Tryz.prog.cellsOf 50 = 4 := by kernel_rfl
theorem cellsEKind8 : Tryz.prog.cellsOf 24 = 1 := by kernel_rfl
theorem list4 {α : Type} (l : List α) (h : l.length = 4) : ∃ a b c d, l = [a, b, c, d] := by
  match l, h with
  | [a, b, c, d], _ => exact ⟨a, b, c, d, rfl⟩
set_option maxRecDepth 100000 in
/-- An ident that comes in. -/
theorem open_ident8 {H : Type} {enc : TypeId × Value → H} {W : World} {base : Nat} {v : Value} {d : DataW H} {pl : List MemPlace}
    (hv : Value.okWide Tryz.prog W .any base 26 v) (h : DataW.Trod enc Tryz.prog W 0 (fun _ => true) true 26 v d pl) : ∃ a : IdentI, v = a.val := by
  obtain ⟨cs0, rfl, hcs⟩ := okWide_struct Tryz.underlying26 hv
  rw [cellsIdent8] at hcs
  obtain ⟨fuel, hf⟩ := h
  obtain ⟨v0, v1, v2, hl3⟩ := list3 cs0.toList (by rw [Array.length_toList]; exact hcs)
  obtain rfl : cs0 = #[v0, v1, v2] := by apply Array.ext'; rw [hl3]
  obtain ⟨ys, n, _, hx, hl, hyl, hfd⟩ := DataW.trod_struct Tryz.underlying26 hf
  have f0 : DataW.trod enc Tryz.prog W 0 (fun _ => true) true n 3 (([v0, v1, v2].drop 0).take (Tryz.prog.cellsOf 3)) = ys[0]? := hfd 0 _ rfl
  rw [cellsInt] at f0
  have f1 : DataW.trod enc Tryz.prog W 0 (fun _ => true) true n 3 (([v0, v1, v2].drop 1).take (Tryz.prog.cellsOf 3)) = ys[1]? := hfd 1 _ rfl
  rw [cellsInt] at f1
  have f2 : DataW.trod enc Tryz.prog W 0 (fun _ => true) true n 24 (([v0, v1, v2].drop 2).take (Tryz.prog.cellsOf 24)) = ys[2]? := hfd 2 _ rfl
  rw [cellsEKind8] at f2
  obtain ⟨y0, y1, y2, rfl⟩ := list3 ys hyl
  simp only [List.getElem?_cons_zero, List.getElem?_cons_succ, List.drop_zero, List.drop_succ_cons, List.take_succ_cons, List.take_zero] at f0 f1 f2
  obtain ⟨n0, e0, _, _⟩ := DataW.trod_int Tryz.underlying3 f0
  obtain ⟨n1, e1, _, _⟩ := DataW.trod_int Tryz.underlying3 f1
  obtain ⟨n2, e2, _, _⟩ := DataW.trod_int Tryz.underlying24 f2
  simp only [List.cons.injEq, and_true] at e0 e1 e2
  subst e0 e1 e2
  exact ⟨⟨n0, n1, n2⟩, rfl⟩
set_option maxRecDepth 100000 in
/-- An entry that comes in. -/
theorem open_entry8 {H : Type} {enc : TypeId × Value → H} {W : World} {base : Nat} {v : Value} {d : DataW H} {pl : List MemPlace}
    (hv : Value.okWide Tryz.prog W .any base 50 v) (h : DataW.Trod enc Tryz.prog W 0 (fun _ => true) true 50 v d pl) (hw : ∀ n ∈ d.weights Tryz.prog 50, n ≤ reachBytes) :
    ∃ (e : Ent) (A : Option Addr) (c : Nat), v = entV e A c ∧ BytesAt W A e.body ∧ e.body.length ≤ c ∧ c ≤ 140737488351232 ∧ (A = none → c = 0) := by
  obtain ⟨cs0, rfl, hcs⟩ := okWide_struct Tryz.underlying50 hv
  rw [cellsEntry8] at hcs
  obtain ⟨fuel, hf⟩ := h
  obtain ⟨v0, v1, v2, v3, hl3⟩ := list4 cs0.toList (by rw [Array.length_toList]; exact hcs)
  obtain rfl : cs0 = #[v0, v1, v2, v3] := by apply Array.ext'; rw [hl3]
  obtain ⟨ys, n, _, hx, hl, hyl, hfd⟩ := DataW.trod_struct Tryz.underlying50 hf
  have f0 : DataW.trod enc Tryz.prog W 0 (fun _ => true) true n 3 (([v0, v1, v2, v3].drop 0).take (Tryz.prog.cellsOf 3)) = ys[0]? := hfd 0 _ rfl
  rw [cellsInt] at f0
  have f1 : DataW.trod enc Tryz.prog W 0 (fun _ => true) true n 3 (([v0, v1, v2, v3].drop 1).take (Tryz.prog.cellsOf 3)) = ys[1]? := hfd 1 _ rfl
  rw [cellsInt] at f1
  have f2 : DataW.trod enc Tryz.prog W 0 (fun _ => true) true n 24 (([v0, v1, v2, v3].drop 2).take (Tryz.prog.cellsOf 24)) = ys[2]? := hfd 2 _ rfl
  rw [cellsEKind8] at f2
  have f3 : DataW.trod enc Tryz.prog W 0 (fun _ => true) true n 27 (([v0, v1, v2, v3].drop 3).take (Tryz.prog.cellsOf 27)) = ys[3]? := hfd 3 _ rfl
  rw [cellsBytes] at f3
  obtain ⟨y0, y1, y2, y3, rfl⟩ := list4 ys hyl
  simp only [List.getElem?_cons_zero, List.getElem?_cons_succ, List.drop_zero, List.drop_succ_cons, List.take_succ_cons, List.take_zero] at f0 f1 f2 f3
  have hx1 : d = .agg [y0.1, y1.1, y2.1, y3.1] := congrArg Prod.fst hx
  have hwE : ∀ m ∈ y3.1.weights Tryz.prog 27, m ≤ reachBytes := fun m hm => by
    refine hw m ?_
    rw [hx1]
    simp only [DataW.weights, Tryz.underlying50]
    exact DataW.weights_mem_each (ts := [3, 3, 24, 27]) (ds := [y0.1, y1.1, y2.1, y3.1]) (j := 3) rfl rfl m hm
  obtain ⟨n0, e0, _, _⟩ := DataW.trod_int Tryz.underlying3 f0
  obtain ⟨n1, e1, _, _⟩ := DataW.trod_int Tryz.underlying3 f1
  obtain ⟨n2, e2, _, _⟩ := DataW.trod_int Tryz.underlying24 f2
  obtain ⟨A3, z3, c3, e3, k3, j3, l3, m3, o3⟩ := open_bytes_raw Tryz.underlying27 Tryz.underlying5 cellsByte bytesByte f3 hwE
  simp only [List.cons.injEq, and_true] at e0 e1 e2 e3
  subst e0 e1 e2 e3
  exact ⟨⟨n0, n1, n2, z3⟩, A3, c3, rfl, ⟨k3, j3⟩, l3, m3, o3⟩
end Go.Proofs.YtpdfmpegcejmkaaGreatDoor
namespace Go.Proofs.YtpdfmpegcejmkaaGreatDoor
open Mx
theorem take_get (l : List Int) (n i : Nat) : (l.take n).getD i 0 = if i < n then l.getD i 0 else 0 := by
  rw [List.getD_eq_getElem?_getD, List.getElem?_take]
  split
  · rw [List.getD_eq_getElem?_getD]
  · rfl
theorem none_get {l : List Int} {i : Nat} (h : l.length ≤ i) : l.getD i 0 = 0 := by rw [List.getD_eq_getElem?_getD, List.getElem?_eq_none h]; rfl
theorem app_get (l r : List Int) (i : Nat) : (l ++ r).getD i 0 = if i < l.length then l.getD i 0 else r.getD (i - l.length) 0 := by
  rw [List.getD_eq_getElem?_getD]
  split
  · next h => rw [List.getElem?_append_left h, List.getD_eq_getElem?_getD]
  · next h => rw [List.getElem?_append_right (by omega), List.getD_eq_getElem?_getD]
theorem zero_get (n i : Nat) : (List.replicate n (0 : Int)).getD i 0 = 0 := by
  rw [List.getD_eq_getElem?_getD, List.getElem?_replicate]; split <;> rfl
theorem pad_get (n : Nat) (bs : List Int) (i : Nat) : (padTo n bs).getD i 0 = bs.getD i 0 := by
  unfold padTo
  rw [app_get]
  split
  · rfl
  · next h => rw [zero_get, none_get (by omega)]
theorem ext_get {l r : List Int} (hl : l.length = r.length) (h : ∀ i, i < l.length → l.getD i 0 = r.getD i 0) : l = r := by
  apply List.ext_getElem hl
  intro i h1 h2
  have := h i h1
  rw [List.getD_eq_getElem?_getD, List.getD_eq_getElem?_getD, List.getElem?_eq_getElem h1, List.getElem?_eq_getElem h2] at this
  exact this
/-- Noughts, from one place up to ahead of another one. -/
def Noughts (b : List Int) (i j : Nat) : Prop := ∀ q, i ≤ q → q < j → b.getD q 0 = 0
theorem seal_parts {u : UnitV} {b : List Int} (h1 : u.front = b.take 28) (h2 : u.sumB = (b.drop 28).take 4) (h3 : [0, 0, 0, 0] = (b.drop 32).take 4) (h4 : u.rest = b.drop 36) : sealB u = b := by
  unfold sealB
  rw [h1, h2, h3, h4, show b.drop 36 = (b.drop 32).drop 4 by rw [List.drop_drop], List.take_append_drop, show b.drop 32 = (b.drop 28).drop 4 by rw [List.drop_drop], List.take_append_drop, List.take_append_drop]
section
variable {b : List Int}
theorem unitOf_len (hl : b.length = 256) : (unitOf b).body.length = min (b.getD 7 0).toNat 239 := by
  show (List.take _ _).length = _
  rw [List.length_take, List.length_append, List.length_take, List.length_drop, List.length_take, List.length_drop, hl]; omega
theorem unitOf_get (hl : b.length = 256) (i : Nat) : (unitOf b).body.getD i 0 = if i < (b.getD 7 0).toNat then (if i < 20 then b.getD (8 + i) 0 else if i < 239 then b.getD (16 + i) 0 else 0) else 0 := by
  show (List.take _ _).getD i 0 = _
  have h20 : ((b.drop 8).take 20).length = 20 := by rw [List.length_take, List.length_drop, hl]; rfl
  rw [take_get, app_get, h20, take_get, ← getD_of_drop]
  by_cases h : i < 20
  · rw [if_pos h, if_pos h, if_pos h]
  · rw [if_neg h, if_neg h, take_get, ← getD_of_drop, show 36 + (i - 20) = 16 + i by omega]
    by_cases h2 : i < 239
    · rw [if_pos h2, if_pos (show i - 20 < 219 by omega)]
    · rw [if_neg h2, if_neg (show ¬ i - 20 < 219 by omega)]
theorem front_get8 (u : UnitV) (i : Nat) (hi : i < 20) : u.front.getD (8 + i) 0 = u.body.getD i 0 := by
  have h : u.front = (u.kind :: (le 6 u.num ++ [(u.body.length : Int)])) ++ padTo 20 (u.body.take 20) := by unfold UnitV.front; simp
  have h8 : (u.kind :: (le 6 u.num ++ [(u.body.length : Int)])).length = 8 := by rw [List.length_cons, List.length_append, le_len]; rfl
  rw [h, app_get, h8, if_neg (by omega), show 8 + i - 8 = i by omega, pad_get, take_get, if_pos hi]
theorem rest_get (u : UnitV) (hu : u.body.length ≤ 239) (i : Nat) : u.rest.getD i 0 = if i < 219 then u.body.getD (20 + i) 0 else if i = 219 then (if 20 < u.body.length then 1 else 0) else 0 := by
  have hp : (padTo 219 (u.body.drop 20)).length = 219 := padTo_len (by rw [List.length_drop]; omega)
  unfold UnitV.rest
  rw [app_get, hp]
  by_cases h : i < 219
  · rw [if_pos h, if_pos h, pad_get, ← getD_of_drop]
  · rw [if_neg h, if_neg h]
    by_cases h2 : i = 219
    · rw [if_pos h2, h2]; rfl
    · rw [if_neg h2, none_get (by rw [List.length_singleton]; omega)]
/-- What the block must have besides: noughts, its end. -/
def lackOk (b : List Int) (many : Nat) : Prop := many ≤ 239 ∧ (many ≤ 20 → Noughts b (8 + many) 28) ∧ Noughts b 32 36 ∧ Noughts b (36 + (many - 20)) 255 ∧ b.getD 255 0 = if 20 < many then 1 else 0
theorem lack_of (hl : b.length = 256) (h : sealB (unitOf b) = b) : lackOk b (b.getD 7 0).toNat := by
  have hlen := unitOf_len hl
  have h7 := seal_len7 (unitOf b)
  rw [h] at h7
  have hm : (b.getD 7 0).toNat = (unitOf b).body.length := by omega
  rw [hm]
  rw [hm] at hlen
  generalize unitOf b = u at *
  have hu : u.body.length ≤ 239 := by omega
  have hr : ∀ i, b.getD (36 + i) 0 = u.rest.getD i 0 := fun i => by rw [getD_of_drop, ← h, seal_drop36]
  refine ⟨hu, fun h20 q h1 h2 => ?_, fun q h1 h2 => ?_, fun q h1 h2 => ?_, ?_⟩
  · obtain ⟨i, rfl⟩ : ∃ i, q = 8 + i := ⟨q - 8, by omega⟩
    have e : b.getD (8 + i) 0 = (b.take 28).getD (8 + i) 0 := by rw [take_get, if_pos h2]
    rw [e, ← h, seal_take28, front_get8 u i (by omega), none_get (by omega)]
  · have := seal_gap u
    rw [h] at this
    exact this q h1 h2
  · obtain ⟨i, rfl⟩ : ∃ i, q = 36 + i := ⟨q - 36, by omega⟩
    rw [hr, rest_get u hu, if_pos (by omega), none_get (by omega)]
  · rw [show (255 : Nat) = 36 + 219 from rfl, hr, rest_get u hu, if_neg (by omega), if_pos rfl]
theorem lack_seal (hl : b.length = 256) (hb : ∀ z ∈ b, 0 ≤ z ∧ z < 256) (h0 : 0 ≤ b.getD 7 0) (hf : fitsB b) (h : lackOk b (b.getD 7 0).toNat) : sealB (unitOf b) = b := by
  obtain ⟨hm, hs, hg, hr, he⟩ := h
  have hlen := unitOf_len hl
  rw [Nat.min_eq_left hm] at hlen
  have hget := unitOf_get hl
  have h1 : (unitOf b).front = b.take 28 := by
    refine ext_get (by rw [front_len, List.length_take, hl]; rfl) (fun i hi => ?_)
    rw [front_len] at hi
    rw [take_get, if_pos hi]
    by_cases h8 : i < 8
    · have h6 : ((b.drop 1).take 6).length = 6 := by rw [List.length_take, List.length_drop, hl]; rfl
      have hbd : ∀ z ∈ (b.drop 1).take 6, 0 ≤ z ∧ z < 256 := fun z hz => hb z (List.mem_of_mem_drop (List.mem_of_mem_take hz))
      have hle := le_unle _ hbd
      rw [h6] at hle
      have hfr : (unitOf b).front = b.getD 0 0 :: ((b.drop 1).take 6 ++ ((unitOf b).body.length : Int) :: padTo 20 ((unitOf b).body.take 20)) := by
        unfold UnitV.front
        show b.getD 0 0 :: (le 6 (unle ((b.drop 1).take 6)) ++ _) = _
        rw [hle]
      rw [hfr]
      match i with
      | 0 => rfl
      | i + 1 =>
        rw [List.getD_cons_succ, app_get, h6]
        by_cases hi6 : i < 6
        · rw [if_pos hi6, take_get, if_pos hi6, ← getD_of_drop, Nat.add_comm 1 i]
        · obtain rfl : i = 6 := by omega
          rw [if_neg hi6]
          show ((unitOf b).body.length : Int) = b.getD 7 0
          rw [hlen]; omega
    · obtain ⟨j, rfl⟩ : ∃ j, i = 8 + j := ⟨i - 8, by omega⟩
      rw [front_get8 _ j (by omega), hget]
      by_cases hj : j < (b.getD 7 0).toNat
      · rw [if_pos hj, if_pos (by omega)]
      · rw [if_neg hj, hs (by omega) (8 + j) (by omega) (by omega)]
  have h4 : (unitOf b).rest = b.drop 36 := by
    refine ext_get (by rw [rest_len (by omega), List.length_drop, hl]) (fun i hi => ?_)
    rw [rest_len (by omega)] at hi
    rw [rest_get _ (by omega), ← getD_of_drop]
    by_cases hi2 : i < 219
    · rw [if_pos hi2, hget]
      by_cases hj : 20 + i < (b.getD 7 0).toNat
      · rw [if_pos hj, if_neg (by omega), if_pos (by omega), show 16 + (20 + i) = 36 + i by omega]
      · rw [if_neg hj, hr (36 + i) (by omega) (by omega)]
    · obtain rfl : i = 219 := by omega
      rw [if_neg hi2, if_pos rfl, show 36 + 219 = 255 from rfl, he, hlen]
  have h3 : [0, 0, 0, 0] = (b.drop 32).take 4 := by
    refine ext_get (by rw [List.length_take, List.length_drop, hl]; rfl) (fun i hi => ?_)
    have hi : i < 4 := hi
    rw [take_get, if_pos hi, ← getD_of_drop, hg (32 + i) (by omega) (by omega)]
    exact zero_get 4 i
  refine seal_parts h1 ?_ h3 h4
  unfold UnitV.sumB
  unfold fitsB unitRow at hf
  rw [h1, h4, ← hf]
  have h4l : ((b.drop 28).take 4).length = 4 := by rw [List.length_take, List.length_drop, hl]; rfl
  have := le_unle ((b.drop 28).take 4) (fun z hz => hb z (List.mem_of_mem_drop (List.mem_of_mem_take hz)))
  rw [h4l] at this
  exact this
/-- The body of so many bytes. -/
theorem unitOf_body (hl : b.length = 256) (hm : (b.getD 7 0).toNat ≤ 239) : (unitOf b).body = ((b.drop 8).take (min (b.getD 7 0).toNat 20)) ++ ((b.drop 36).take ((b.getD 7 0).toNat - 20)) := by
  have hlen := unitOf_len hl
  refine ext_get (by rw [hlen, List.length_append, List.length_take, List.length_take, List.length_drop, List.length_drop, hl]; omega) (fun i hi => ?_)
  rw [hlen] at hi
  have h20 : ((b.drop 8).take (min (b.getD 7 0).toNat 20)).length = min (b.getD 7 0).toNat 20 := by rw [List.length_take, List.length_drop, hl]; omega
  rw [unitOf_get hl, if_pos (by omega), app_get, h20, take_get, take_get, ← getD_of_drop, ← getD_of_drop]
  by_cases h : i < 20
  · rw [if_pos h, if_pos (by omega), if_pos (by omega)]
  · rw [if_neg h, if_pos (by omega), if_neg (by omega), if_pos (by omega)]
    congr 1; omega
end
/-- What opening tells, part by part. -/
theorem openB_shape {b : List Int} (h : b.length ≠ 256 ∨ b.getD 0 0 < 1 ∨ 8 < b.getD 0 0) : openB b = (noUnit, 4) := by unfold openB; rw [if_pos h]
theorem openB_sum {b : List Int} (h : ¬ (b.length ≠ 256 ∨ b.getD 0 0 < 1 ∨ 8 < b.getD 0 0)) (hf : ¬ fitsB b) : openB b = (noUnit, 5) := by unfold openB; rw [if_neg h, if_pos hf]
theorem openB_num {b : List Int} (h : ¬ (b.length ≠ 256 ∨ b.getD 0 0 < 1 ∨ 8 < b.getD 0 0)) (hf : fitsB b) (hn : 1099511627776 < unle ((b.drop 1).take 6)) : openB b = (noUnit, 4) := by
  unfold openB
  rw [if_neg h, if_neg (fun hn => hn hf), if_neg]
  rintro ⟨h1, _⟩
  have : unle ((b.drop 1).take 6) ≤ 1099511627776 := h1.2.1.2
  omega
theorem openB_lack {b : List Int} (h : ¬ (b.length ≠ 256 ∨ b.getD 0 0 < 1 ∨ 8 < b.getD 0 0)) (hf : fitsB b) (hn : ¬ lackOk b (b.getD 7 0).toNat) : openB b = (noUnit, 4) := by
  unfold openB
  rw [if_neg h, if_neg (fun hn => hn hf), if_neg]
  rintro ⟨_, h2⟩
  exact hn (lack_of (by omega) h2)
theorem openB_yes {b : List Int} (h : ¬ (b.length ≠ 256 ∨ b.getD 0 0 < 1 ∨ 8 < b.getD 0 0)) (hb : ∀ z ∈ b, 0 ≤ z ∧ z < 256) (hf : fitsB b) (h7 : 0 ≤ b.getD 7 0) (hn : unle ((b.drop 1).take 6) ≤ 1099511627776) (hk : lackOk b (b.getD 7 0).toNat) : openB b = (unitOf b, 0) := by
  have hl : b.length = 256 := by omega
  unfold openB
  rw [if_neg h, if_neg (fun hn => hn hf), if_pos]
  refine ⟨⟨?_, ⟨?_, hn⟩, ?_⟩, lack_seal hl hb h7 hf hk⟩
  · show 1 ≤ b.getD 0 0 ∧ b.getD 0 0 ≤ 8
    omega
  · exact (unle_bd _ (fun z hz => hb z (List.mem_of_mem_drop (List.mem_of_mem_take hz)))).1
  · rw [unitOf_len hl]; omega
end Go.Proofs.YtpdfmpegcejmkaaGreatDoor
namespace Go.Proofs.YtpdfmpegcejmkaaGreatDoor
open Go.RowKit
/-- A unit as a value; its body lies at A. -/
abbrev UnitV.val (u : UnitV) (A : Option Addr) (c : Nat) : Value := .agg #[.int .i64 u.kind, .int .i64 u.num, .slice A u.body.length c]
set_option maxRecDepth 100000 in
set_option maxHeartbeats 1000000 in
theorem uright_any (w : World) (u : UnitV) (A : Option Addr) (c : Nat) :
    Calls Tryz.prog 28 #[u.val A c] w fun r w' => r = .returned (.bool (decide u.right)) ∧ Below w.heap.size w w' := by
  obtain ⟨k, n, body⟩ := u
  have hn := below_new w (.cells #[.int .i64 k, .int .i64 n, .slice A body.length c] 34)
  unfold UnitV.val
  simp only
  go_enter Tryz.func28, Tryz.ntmps28
  go_wp2
  all_goals
    go_ret
    refine ⟨ret_bool ?_, hn⟩
    first | exact (decide_eq_false (by unfold UnitV.right; simp only; omega)).symm | (refine decide_eq_decide.2 ?_; unfold UnitV.right; simp only; omega)
theorem parted_any (w : World) (n : Nat) (hn : n ≤ 140737488351232) :
    Calls Tryz.prog 133 #[.int .i64 (n : Int)] w fun e w' => e = .returned (.tuple #[.int .i64 ((min n 20 : Nat) : Int), .int .i64 ((n - 20 : Nat) : Int)]) ∧ w = w' := by
  by_cases h : n ≤ 20
  · have h1 : min n 20 = n := by omega
    have h2 : n - 20 = 0 := by omega
    rw [h1, h2]
    go_enter Tryz.func133, Tryz.ntmps133
    go_wp2_with fail
    all_goals
      go_ret2
      refine ⟨?_, rfl⟩
      congr 3 <;> first | omega | rfl
  · have h1 : min n 20 = 20 := by omega
    have h2 : ((n - 20 : Nat) : Int) = (n : Int) - 20 := by omega
    rw [h1, h2]
    go_enter Tryz.func133, Tryz.ntmps133
    go_wp2_with fail
    all_goals
      go_ret2
      refine ⟨?_, rfl⟩
      congr 3 <;> first | omega | rfl
end Go.Proofs.YtpdfmpegcejmkaaGreatDoor
