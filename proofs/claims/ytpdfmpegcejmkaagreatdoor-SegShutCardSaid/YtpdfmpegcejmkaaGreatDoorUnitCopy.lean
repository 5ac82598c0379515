/- limpetref08: a record, of anything. -/
/- How a unit's block is laid, piece by piece: plain mathematics. -/
/- copy onto a row of bytes that the call made: in a list of operations, and in a region that draws its order. -/
import Derived.Test.YtpdfmpegcejmkaaGreatDoorSegOpened
import Derived.Test.YtpdfmpegcejmkaaGreatDoorMixShift
import Derived.Laws.CopyOwn
import Derived.Test.YtpdfmpegcejmkaaGreatDoorKitInts
namespace Go.Proofs.YtpdfmpegcejmkaaGreatDoor
open Go.RowKit
/-- A result of nought is laid in its box. -/
theorem RecG.nil {W w : World} {a : IdentI} {e : Ent} {A : Option Addr} {c : Nat} (h : RecG W w a e A c) :
    (((w.setCell ⟨W.heap.size + 1 + 1, 0, none⟩ (.int .i64 0)).setCell ⟨W.heap.size + 1 + 1, 1, none⟩ (.int .i64 0)).setCell ⟨W.heap.size + 1 + 1, 2, none⟩ (.slice none 0 0)).cell? ⟨W.heap.size + 1 + 1, 0, none⟩ = some (.int .i64 0) ∧
    (((w.setCell ⟨W.heap.size + 1 + 1, 0, none⟩ (.int .i64 0)).setCell ⟨W.heap.size + 1 + 1, 1, none⟩ (.int .i64 0)).setCell ⟨W.heap.size + 1 + 1, 2, none⟩ (.slice none 0 0)).cell? ⟨W.heap.size + 1 + 1, 1, none⟩ = some (.int .i64 0) ∧
    (((w.setCell ⟨W.heap.size + 1 + 1, 0, none⟩ (.int .i64 0)).setCell ⟨W.heap.size + 1 + 1, 1, none⟩ (.int .i64 0)).setCell ⟨W.heap.size + 1 + 1, 2, none⟩ (.slice none 0 0)).cell? ⟨W.heap.size + 1 + 1, 2, none⟩ = some (.slice none 0 0) ∧
    Below W.heap.size W (((w.setCell ⟨W.heap.size + 1 + 1, 0, none⟩ (.int .i64 0)).setCell ⟨W.heap.size + 1 + 1, 1, none⟩ (.int .i64 0)).setCell ⟨W.heap.size + 1 + 1, 2, none⟩ (.slice none 0 0)) := by
  have hB := ((h.box3.set1 0 (.int .i64 0)).set1 1 (.int .i64 0)).set1 2 (.slice none 0 0)
  have hg := grown_at (grown_at (grown_at (World.grownBy.refl w (some (W.heap.size + 1 + 1))) 0 (.int .i64 0)) 1 (.int .i64 0)) 2 (.slice none 0 0)
  exact ⟨hB.cell 0, hB.cell 1, hB.cell 2, below_grown h.below hg h.below.size (by omega)⟩
set_option maxRecDepth 100000 in
set_option maxHeartbeats 1000000 in
theorem rrecord_wrong (W : World) (a : IdentI) (e : Ent) (A : Option Addr) (c : Nat) (hl : e.body.length ≤ 9223372036854775807) (hr : rightB e = false) :
    Calls Tryz.prog 57 #[a.val, .agg #[.int .i64 e.index, .int .i64 e.term, .int .i64 e.kind, .slice A e.body.length c]] W fun r w' => r = .returned (.tuple #[.agg #[.int .i64 0, .int .i64 0, .slice none 0 0], .int .i64 2]) ∧ Below W.heap.size W w' := by
  have HR := Lib.hid (fun w => refRight_any w e A c hl)
  rw [hr] at HR
  have hG := RecG.made W a e A c
  clear hr hl
  unfold IdentI.val
  go_enter Tryz.func57, Tryz.ntmps57
  obtain ⟨w0, hw0⟩ : ∃ w, (((W.alloc (.cells #[.int .i64 a.idx, .int .i64 a.term, .int .i64 a.kind] 26)).alloc (.cells #[.int .i64 e.index, .int .i64 e.term, .int .i64 e.kind, .slice A e.body.length c] 50)).alloc (.cells #[.int .i64 0, .int .i64 0, .slice none 0 0] 34)) = w := ⟨_, rfl⟩
  rw [hw0] at hG
  have Hw0 := Lib.hid hw0
  have G0 := Lib.hid hG
  obtain ⟨c0, c1, c2, c3, c4, c5, c6⟩ := hG.cells
  clear hG hw0
  rw [← Hw0.out] at c0 c1 c2 c3 c4 c5 c6
  go_wp2_with fail
  rw [Hw0.out]
  refine (HR.out _).mono ?_
  rintro _ w1 ⟨rfl, b1⟩
  have G1 := Lib.hid (G0.out.on (b1.mono G0.out.size))
  clear b1 c0 c1 c2 c3 c4 c5 c6
  obtain ⟨r0, r1, r2, f0, f1, f2⟩ := G1.out.res
  go_wp2_with fail
  obtain ⟨x1, x2, x3, x4⟩ := G1.out.nil
  exact bodyPost_ret (v := .tuple #[.agg #[.int .i64 0, .int .i64 0, .slice none 0 0], .int .i64 2]) (by simp [results, Tryz.results57, go_sem, x1, x2, x3]) rfl ⟨rfl, x4⟩
set_option maxRecDepth 100000 in
set_option maxHeartbeats 1000000 in
theorem rrecord_order (W : World) (a : IdentI) (e : Ent) (A : Option Addr) (c : Nat) (hr : rightB e = true) (ha : ¬ aheadI a e.index) :
    Calls Tryz.prog 57 #[a.val, .agg #[.int .i64 e.index, .int .i64 e.term, .int .i64 e.kind, .slice A e.body.length c]] W fun r w' => r = .returned (.tuple #[.agg #[.int .i64 0, .int .i64 0, .slice none 0 0], .int .i64 12]) ∧ Below W.heap.size W w' := by
  obtain ⟨h1, h2, h3, h4⟩ := ent_right hr
  have HR := Lib.hid (fun w => refRight_any w e A c (by omega))
  have HF := Lib.hid (fun w => rfits_any w a e.index (by omega) (by omega))
  rw [hr] at HR
  rw [decide_eq_false ha] at HF
  have hG := RecG.made W a e A c
  clear hr ha h1 h2 h3 h4
  unfold IdentI.val at HF ⊢
  go_enter Tryz.func57, Tryz.ntmps57
  obtain ⟨w0, hw0⟩ : ∃ w, (((W.alloc (.cells #[.int .i64 a.idx, .int .i64 a.term, .int .i64 a.kind] 26)).alloc (.cells #[.int .i64 e.index, .int .i64 e.term, .int .i64 e.kind, .slice A e.body.length c] 50)).alloc (.cells #[.int .i64 0, .int .i64 0, .slice none 0 0] 34)) = w := ⟨_, rfl⟩
  rw [hw0] at hG
  have Hw0 := Lib.hid hw0
  have G0 := Lib.hid hG
  obtain ⟨c0, c1, c2, c3, c4, c5, c6⟩ := hG.cells
  clear hG hw0
  rw [← Hw0.out] at c0 c1 c2 c3 c4 c5 c6
  go_wp2_with fail
  rw [Hw0.out]
  refine (HR.out _).mono ?_
  rintro _ w1 ⟨rfl, b1⟩
  have G1 := Lib.hid (G0.out.on (b1.mono G0.out.size))
  clear b1 c0 c1 c2 c3 c4 c5 c6
  obtain ⟨c0, c1, c2, c3, c4, c5, c6⟩ := G1.out.cells
  go_wp2_with fail
  refine (HF.out _).mono ?_
  rintro _ w2 ⟨rfl, b2⟩
  have G2 := Lib.hid (G1.out.on (b2.mono G1.out.size))
  clear b2 c0 c1 c2 c3 c4 c5 c6
  obtain ⟨r0, r1, r2, f0, f1, f2⟩ := G2.out.res
  go_wp2_with fail
  obtain ⟨x1, x2, x3, x4⟩ := G2.out.nil
  exact bodyPost_ret (v := .tuple #[.agg #[.int .i64 0, .int .i64 0, .slice none 0 0], .int .i64 12]) (by simp [results, Tryz.results57, go_sem, x1, x2, x3]) rfl ⟨rfl, x4⟩
/-- The page's record, of any ident and any entry. -/
theorem rrecord_any (W : World) (a : IdentI) (e : Ent) (A : Option Addr) (c : Nat) (hl : e.body.length ≤ 9223372036854775807) (hb : BytesAt W A e.body) (hA : A = none → c = 0) :
    Calls Tryz.prog 57 #[a.val, .agg #[.int .i64 e.index, .int .i64 e.term, .int .i64 e.kind, .slice A e.body.length c]] W fun r w' => ∃ v, r = .returned (.tuple #[.agg #[.int .i64 (recordR a e).1.kind, .int .i64 (recordR a e).1.num, v], .int .i64 (recordR a e).2]) ∧ w'.ownsRow W.heap.size 5 1 v (recordR a e).1.body.length (u8s (recordR a e).1.body) ∧ Below W.heap.size W w' := by
  unfold recordR
  by_cases hr : rightB e = false
  · rw [if_pos hr]
    refine (rrecord_wrong W a e A c hl hr).mono ?_
    rintro _ w' ⟨rfl, hb'⟩
    exact ⟨_, rfl, World.ownsRow_nil _ _ _ _, hb'⟩
  · rw [if_neg hr]
    have hr : rightB e = true := by simpa using hr
    by_cases ha : aheadI a e.index
    · rw [if_neg (fun h => h ha)]
      refine (rrecord_at W a e A c hr ha hb hA).mono ?_
      rintro _ w' ⟨v, rfl, ho, hb'⟩
      exact ⟨v, rfl, own_lift ho (fun b e' => by have := (ho.lt b e').1; omega), hb'⟩
    · rw [if_pos ha]
      refine (rrecord_order W a e A c hr ha).mono ?_
      rintro _ w' ⟨rfl, hb'⟩
      exact ⟨_, rfl, World.ownsRow_nil _ _ _ _, hb'⟩
end Go.Proofs.YtpdfmpegcejmkaaGreatDoor
namespace Go.Proofs.YtpdfmpegcejmkaaGreatDoor
open Mx
theorem splice_len {l ys : List Int} {off : Nat} (h : off + ys.length ≤ l.length) : (splice l off ys).length = l.length := by
  unfold splice
  rw [List.length_append, List.length_append, List.length_take, List.length_drop]; omega
theorem splice_get {l ys : List Int} {off : Nat} (h : off + ys.length ≤ l.length) (i : Nat) : (splice l off ys).getD i 0 = if off ≤ i ∧ i < off + ys.length then ys.getD (i - off) 0 else l.getD i 0 := by
  unfold splice
  have ht : (l.take off).length = off := by rw [List.length_take]; omega
  rw [app_get, ht]
  by_cases h1 : i < off
  · rw [if_pos h1, if_neg (by omega), take_get, if_pos h1]
  · rw [if_neg h1, app_get]
    by_cases h2 : i - off < ys.length
    · rw [if_pos h2, if_pos (by omega)]
    · rw [if_neg h2, if_neg (by omega), ← getD_of_drop]; congr 1; omega
theorem set_get (l : List Int) (k i : Nat) (z : Int) (h : k < l.length) : (l.set k z).getD i 0 = if i = k then z else l.getD i 0 := by
  by_cases e : i = k
  · subst e; rw [if_pos rfl, getD_set_eq l h]
  · rw [if_neg e, getD_set_ne l (fun e' => e e'.symm)]
/-- A head of eight bytes, a body, an end. -/
def layB (hd body : List Int) (e : Int) : List Int := hd ++ (padTo 20 (body.take 20) ++ ([0, 0, 0, 0, 0, 0, 0, 0] ++ (padTo 219 (body.drop 20) ++ [e])))
section
variable {hd body : List Int} {e : Int}
theorem pad20_len (body : List Int) : (padTo 20 (body.take 20)).length = 20 := padTo_len (by rw [List.length_take]; omega)
theorem pad219_len (h : body.length ≤ 239) : (padTo 219 (body.drop 20)).length = 219 := padTo_len (by rw [List.length_drop]; omega)
theorem lay_len (h8 : hd.length = 8) (h : body.length ≤ 239) : (layB hd body e).length = 256 := by
  unfold layB
  rw [List.length_append, List.length_append, List.length_append, List.length_append, pad20_len, pad219_len h, h8]; rfl
theorem lay_get (h8 : hd.length = 8) (h : body.length ≤ 239) (i : Nat) : (layB hd body e).getD i 0 = if i < 8 then hd.getD i 0 else if i < 28 then body.getD (i - 8) 0 else if i < 36 then 0 else if i < 255 then body.getD (i - 16) 0 else if i = 255 then e else 0 := by
  unfold layB
  rw [app_get, h8]
  by_cases h1 : i < 8
  · rw [if_pos h1, if_pos h1]
  · rw [if_neg h1, if_neg h1, app_get, pad20_len]
    by_cases h2 : i < 28
    · rw [if_pos (by omega), if_pos h2, pad_get, take_get, if_pos (by omega)]
    · rw [if_neg (by omega), if_neg h2, app_get, show [(0 : Int), 0, 0, 0, 0, 0, 0, 0].length = 8 from rfl]
      by_cases h3 : i < 36
      · rw [if_pos (by omega), if_pos h3]
        exact zero_get 8 _
      · rw [if_neg (by omega), if_neg h3, app_get, pad219_len h]
        by_cases h4 : i < 255
        · rw [if_pos (by omega), if_pos h4, pad_get, ← getD_of_drop]; congr 1; omega
        · rw [if_neg (by omega), if_neg h4]
          by_cases h5 : i = 255
          · subst h5; rfl
          · rw [if_neg h5, none_get (by rw [List.length_singleton]; omega)]
theorem lay_head (h8 : hd.length = 8) : splice (List.replicate 256 0) 0 hd = layB hd [] 0 := by
  have hs : 0 + hd.length ≤ (List.replicate 256 (0 : Int)).length := by rw [List.length_replicate]; omega
  refine ext_get (by rw [splice_len hs, lay_len h8 (by simp), List.length_replicate]) (fun i _ => ?_)
  rw [splice_get hs, lay_get h8 (by simp), zero_get, none_get (show ([] : List Int).length ≤ i - 8 from Nat.zero_le _), none_get (show ([] : List Int).length ≤ i - 16 from Nat.zero_le _)]
  by_cases h1 : i < 8
  · rw [if_pos (by omega), if_pos h1, Nat.sub_zero]
  · rw [if_neg (by omega), if_neg h1]
    repeat' split
    all_goals rfl
theorem lay_front (h8 : hd.length = 8) (h : body.length ≤ 239) : splice (layB hd [] 0) 8 (body.take 20) = layB hd (body.take 20) 0 := by
  have hl0 : (layB hd [] 0).length = 256 := lay_len h8 (by simp)
  have ht : (body.take 20).length ≤ 20 := by rw [List.length_take]; omega
  refine ext_get (by rw [splice_len (by omega), lay_len h8 (by simp), lay_len h8 (by omega)]) (fun i _ => ?_)
  rw [splice_get (by omega), lay_get h8 (by simp), lay_get h8 (by omega), none_get (show ([] : List Int).length ≤ i - 8 from Nat.zero_le _), none_get (show ([] : List Int).length ≤ i - 16 from Nat.zero_le _)]
  by_cases h1 : i < 8
  · rw [if_neg (by omega), if_pos h1, if_pos h1]
  · rw [if_neg h1, if_neg h1]
    by_cases h2 : i < 28
    · rw [if_pos h2, if_pos h2]
      split
      · rfl
      · rw [none_get (by omega)]
    · rw [if_neg h2, if_neg h2, if_neg (by omega)]
      by_cases h3 : i < 36
      · rw [if_pos h3, if_pos h3]
      · rw [if_neg h3, if_neg h3, none_get (show (body.take 20).length ≤ i - 16 by omega)]
theorem lay_back (h8 : hd.length = 8) (h : body.length ≤ 239) : splice (layB hd (body.take 20) 0) 36 (body.drop 20) = layB hd body 0 := by
  have ht : (body.take 20).length ≤ 20 := by rw [List.length_take]; omega
  have hl0 : (layB hd (body.take 20) 0).length = 256 := lay_len h8 (by omega)
  have hdl : (body.drop 20).length ≤ 219 := by rw [List.length_drop]; omega
  refine ext_get (by rw [splice_len (by omega), hl0, lay_len h8 h]) (fun i _ => ?_)
  rw [splice_get (by omega), lay_get h8 (by omega), lay_get h8 h]
  by_cases h1 : i < 8
  · rw [if_neg (by omega), if_pos h1, if_pos h1]
  · rw [if_neg h1, if_neg h1]
    by_cases h2 : i < 28
    · rw [if_neg (by omega), if_pos h2, if_pos h2, take_get, if_pos (by omega)]
    · rw [if_neg h2, if_neg h2]
      by_cases h3 : i < 36
      · rw [if_neg (by omega), if_pos h3, if_pos h3]
      · rw [if_neg h3, if_neg h3, none_get (show (body.take 20).length ≤ i - 16 by omega)]
        by_cases h4 : i < 255
        · rw [if_pos h4, if_pos h4]
          split
          · rw [← getD_of_drop]; congr 1; omega
          · next hn => rw [List.length_drop] at hn; rw [none_get (by omega)]
        · rw [if_neg h4, if_neg h4, if_neg (by omega)]
theorem lay_set (h8 : hd.length = 8) (h : body.length ≤ 239) (k : Nat) (hk : k < body.length) : (layB hd (body.take k) 0).set (if k < 20 then 8 + k else 16 + k) (body.getD k 0) = layB hd (body.take (k + 1)) 0 := by
  have ht : (body.take k).length = k := by rw [List.length_take]; omega
  have ht1 : (body.take (k + 1)).length = k + 1 := by rw [List.length_take]; omega
  have hl0 : (layB hd (body.take k) 0).length = 256 := lay_len h8 (by omega)
  refine ext_get (by rw [List.length_set, hl0, lay_len h8 (by omega)]) (fun i _ => ?_)
  rw [set_get _ _ _ _ (by rw [hl0]; split <;> omega), lay_get h8 (by omega), lay_get h8 (by omega), take_get, take_get, take_get, take_get]
  by_cases h1 : i < 8
  · rw [if_pos h1, if_pos h1, if_neg (by split <;> omega)]
  · rw [if_neg h1, if_neg h1]
    by_cases h2 : i < 28
    · rw [if_pos h2, if_pos h2]
      by_cases e : i - 8 = k
      · rw [if_pos (by split <;> omega), if_pos (by omega), e]
      · rw [if_neg (by split <;> omega)]
        by_cases h5 : i - 8 < k
        · rw [if_pos h5, if_pos (by omega)]
        · rw [if_neg h5, if_neg (by omega)]
    · rw [if_neg h2, if_neg h2]
      by_cases h3 : i < 36
      · rw [if_pos h3, if_pos h3, if_neg (by split <;> omega)]
      · rw [if_neg h3, if_neg h3]
        by_cases h4 : i < 255
        · rw [if_pos h4, if_pos h4]
          by_cases e : i - 16 = k
          · rw [if_pos (by split <;> omega), if_pos (by omega), e]
          · rw [if_neg (by split <;> omega)]
            by_cases h5 : i - 16 < k
            · rw [if_pos h5, if_pos (by omega)]
            · rw [if_neg h5, if_neg (by omega)]
        · rw [if_neg h4, if_neg h4, if_neg (by split <;> omega)]
theorem lay_end (h8 : hd.length = 8) (h : body.length ≤ 239) : (layB hd body 0).set 255 e = layB hd body e := by
  have hl0 : (layB hd body 0).length = 256 := lay_len h8 h
  refine ext_get (by rw [List.length_set, hl0, lay_len h8 h]) (fun i _ => ?_)
  rw [set_get _ _ _ _ (by omega), lay_get h8 h, lay_get h8 h]
  by_cases e1 : i = 255
  · subst e1; rfl
  · rw [if_neg e1, if_neg e1, if_neg e1]
end
/-- A unit's first eight bytes. -/
def UnitV.hd8 (u : UnitV) : List Int := u.kind :: (le 6 u.num ++ [(u.body.length : Int)])
theorem hd8_len (u : UnitV) : u.hd8.length = 8 := by unfold UnitV.hd8; rw [List.length_cons, List.length_append, le_len]; rfl
/-- A unit's block, its sum not yet laid. -/
def preB (u : UnitV) : List Int := layB u.hd8 u.body (if 20 < u.body.length then 1 else 0)
theorem pre_eq (u : UnitV) : preB u = u.front ++ ([0, 0, 0, 0] ++ ([0, 0, 0, 0] ++ u.rest)) := by
  unfold preB layB UnitV.hd8 UnitV.front UnitV.rest
  simp
theorem pre_len {u : UnitV} (h : u.body.length ≤ 239) : (preB u).length = 256 := lay_len (hd8_len u) h
theorem pre_row (u : UnitV) : unitRow (preB u) = u.rest ++ u.front := by
  have h28 : (preB u).drop 28 = [0, 0, 0, 0] ++ ([0, 0, 0, 0] ++ u.rest) := by
    rw [pre_eq, List.drop_append_of_le_length (by rw [front_len]; exact Nat.le_refl _), List.drop_eq_nil_of_le (by rw [front_len]; exact Nat.le_refl _), List.nil_append]
  unfold unitRow
  rw [show (36 : Nat) = 28 + 8 from rfl, ← List.drop_drop, h28, pre_eq, List.take_append_of_le_length (by rw [front_len]; exact Nat.le_refl _), List.take_of_length_le (by rw [front_len]; exact Nat.le_refl _)]
  rfl
theorem pre_sum (u : UnitV) : splice (preB u) 28 u.sumB = sealB u := by
  unfold splice sealB
  rw [sumB_len, pre_eq, List.take_append_of_le_length (by rw [front_len]; exact Nat.le_refl _), List.take_of_length_le (by rw [front_len]; exact Nat.le_refl _)]
  congr 2
  rw [show 28 + 4 = u.front.length + 4 by rw [front_len], ← List.drop_drop, List.drop_left]
  rfl
theorem pre_bd {u : UnitV} (h : u.right) (hb : ∀ z ∈ u.body, 0 ≤ z ∧ z < 256) : ∀ z ∈ preB u, 0 ≤ z ∧ z < 256 := by
  obtain ⟨hk, hn, hl⟩ := h
  intro z hz
  rw [pre_eq] at hz
  unfold UnitV.front UnitV.rest at hz
  simp only [List.mem_append, List.mem_cons, List.not_mem_nil, or_false] at hz
  have hif : (0 : Int) ≤ (if 20 < u.body.length then 1 else 0) ∧ (if 20 < u.body.length then (1 : Int) else 0) < 256 := by split <;> omega
  rcases hz with (rfl | hz | rfl | hz) | (rfl | rfl | rfl | rfl) | (rfl | rfl | rfl | rfl) | hz | rfl
  all_goals first | omega | exact le_bd _ _ z hz | exact padTo_bd (fun y hy => hb y (List.mem_of_mem_take hy)) z hz | exact padTo_bd (fun y hy => hb y (List.mem_of_mem_drop hy)) z hz | exact hif
end Go.Proofs.YtpdfmpegcejmkaaGreatDoor
namespace Go.Proofs.YtpdfmpegcejmkaaGreatDoor
open Go.RowKit
theorem u8s_splice (xs zs : List Int) (off : Nat) : Go.splice (u8s xs) off (u8s zs) = u8s (Go.splice xs off zs) := by
  unfold Go.splice
  rw [u8s_len]
  unfold u8s
  simp [List.map_take, List.map_drop]
theorem splice_nil (xs : List Int) (off : Nat) : Go.splice xs off [] = xs := by unfold Go.splice; simp
theorem copy_reads {w : World} {sp : Option Addr} {zs : List Int} (hz : BytesAt w sp zs) (hp : 0 < (u8s zs).length) : ∃ ad, sp = some ad ∧ ∀ j v, (u8s zs)[j]? = some v → w.cell? (ad.add j) = some v := by
  have hne : zs ≠ [] := by rintro rfl; exact absurd hp (by decide)
  obtain ⟨b, off, e, hc⟩ := hz.2 hne
  refine ⟨⟨b, off, none⟩, e, fun j v hj => ?_⟩
  unfold u8s at hj
  rw [List.getElem?_map] at hj
  cases hq : zs[j]? with
  | none => rw [hq] at hj; cases hj
  | some z =>
    rw [hq] at hj
    obtain rfl : Value.int .u8 z = v := by simpa using hj
    have hlt := (List.getElem?_eq_some_iff.1 hq).1
    rw [Addr.add_mid, hc j hlt, List.getD_eq_getElem?_getD, hq]; rfl
theorem step_copy_u8 {ops : Array Oper} {o : Oper} {a : Act} {w : World} {K : Act → World → Prop} {Q : Exit → Act → World → Prop} {E : Prop} (hgd : o.guard = none) (d s : Operand)
    (ho : o.op = .call { callee := .builtin .copy, args := #[d, s], argTypes := #[27, 27] })
    (g off dLen dCap sLen sCap : Nat) (sp : Option Addr) (hd : a.eval d = .slice (some ⟨g, off, none⟩) dLen dCap) (hs : a.eval s = .slice sp sLen sCap)
    (xs zs : List Int) (hg : BytesIs w g xs) (hz : BytesAt w sp zs) (hl : zs.length = sLen) (hfit : sLen ≤ dLen) (hoff : off + sLen ≤ xs.length)
    (h : ∀ w', BytesIs w' g (Go.splice xs off zs) → w.grownBy w' (some g) → w'.heap.size = w.heap.size → K (a.put o.dst (goInt (u8s zs).length)) w') :
    if Region.wanted o (yielded ops a.tmps) = true then Oper.wp Tryz.prog o a w K Q else E := by
  have hw : Region.wanted o (yielded ops a.tmps) = true := by simp [Region.wanted, hgd]
  rw [if_pos hw]
  have hn : (u8s zs).length = Nat.min sLen dLen := by rw [u8s_len, hl]; exact (Nat.min_eq_left hfit).symm
  have hsz : (Tryz.prog.info? 5).map (·.size) = some 1 := by kernel_rfl
  by_cases h0 : (u8s zs).length = 0
  · obtain rfl : zs = [] := List.eq_nil_of_length_eq_zero (by rw [← u8s_len]; exact h0)
    have hrun := run_copy_none (P := Tryz.prog) w 27 27 o.type 5 (some ⟨g, off, none⟩) sp dLen dCap sLen sCap Tryz.underlying27 hsz (by rw [← hn, h0])
    unfold Oper.wp
    simp [execOp, ho, resolve, invoke, builtin, hd, hs, hrun, Result.andThen]
    exact h w (by rw [splice_nil]; exact hg) (World.grownBy.refl _ _) rfl
  · obtain ⟨ad, rfl, hsrc⟩ := copy_reads hz (by omega)
    have hrun := run_copy_row (P := Tryz.prog) w 27 27 o.type 5 g off dLen dCap ad sLen sCap (u8s xs).toArray 5 (u8s zs) Tryz.underlying27 hsz hg hn hsrc (by rw [u8s_len, List.size_toArray, u8s_len]; omega) (u8s_one zs)
    unfold Oper.wp
    simp [execOp, ho, resolve, invoke, builtin, hd, hs, hrun, Result.andThen]
    have hset := setRow_heap w g _ ((u8s xs).take off ++ (u8s zs ++ (u8s xs).drop (off + (u8s zs).length))).toArray 5 (0, 0) hg
    have e : ((u8s xs).take off ++ (u8s zs ++ (u8s xs).drop (off + (u8s zs).length))) = u8s (Go.splice xs off zs) := u8s_splice xs zs off
    refine h _ ?_ ⟨rfl, rfl, rfl, by simp, fun k _ hk => setRow_other w g k _ (fun e => hk (by rw [e]))⟩ (by simp)
    show _ = _
    rw [← e]
    simpa using hset
theorem wpList_copy_u8 {ops : Array Oper} {rest : List Oper} {o : Oper} {a : Act} {w : World} {Q : Exit → Act → World → Prop} (hgd : o.guard = none) (d s : Operand)
    (ho : o.op = .call { callee := .builtin .copy, args := #[d, s], argTypes := #[27, 27] })
    (g off dLen dCap sLen sCap : Nat) (sp : Option Addr) (hd : a.eval d = .slice (some ⟨g, off, none⟩) dLen dCap) (hs : a.eval s = .slice sp sLen sCap)
    (xs zs : List Int) (hg : BytesIs w g xs) (hz : BytesAt w sp zs) (hl : zs.length = sLen) (hfit : sLen ≤ dLen) (hoff : off + sLen ≤ xs.length)
    (h : ∀ w', BytesIs w' g (Go.splice xs off zs) → w.grownBy w' (some g) → w'.heap.size = w.heap.size → wpList Tryz.prog ops Q rest (a.put o.dst (goInt (u8s zs).length)) w') : wpList Tryz.prog ops Q (o :: rest) a w := by
  have hn : (u8s zs).length = Nat.min sLen dLen := by rw [u8s_len, hl]; exact (Nat.min_eq_left hfit).symm
  have hsz : (Tryz.prog.info? 5).map (·.size) = some 1 := by kernel_rfl
  by_cases h0 : (u8s zs).length = 0
  · obtain rfl : zs = [] := List.eq_nil_of_length_eq_zero (by rw [← u8s_len]; exact h0)
    refine wpList_copy_nothing hgd d s _ _ ho 5 Tryz.underlying27 hsz (some ⟨g, off, none⟩) sp dLen dCap sLen sCap hd hs (by rw [← hn, h0]) ?_
    exact h w (by rw [splice_nil]; exact hg) (World.grownBy.refl _ _) rfl
  · obtain ⟨ad, rfl, hsrc⟩ := copy_reads hz (by omega)
    refine wpList_copy_own hgd d s _ _ ho 5 Tryz.underlying27 hsz g off dLen dCap ad sLen sCap hd hs (u8s xs).toArray 5 hg (u8s zs) hn hsrc (by rw [u8s_len, List.size_toArray, u8s_len]; omega) (u8s_one zs) ?_
    have hset := setRow_heap w g _ ((u8s xs).take off ++ (u8s zs ++ (u8s xs).drop (off + (u8s zs).length))).toArray 5 (0, 0) hg
    have e : ((u8s xs).take off ++ (u8s zs ++ (u8s xs).drop (off + (u8s zs).length))) = u8s (Go.splice xs off zs) := u8s_splice xs zs off
    refine h _ ?_ ⟨rfl, rfl, rfl, by simp, fun k _ hk => setRow_other w g k _ (fun e => hk (by rw [e]))⟩ (by simp)
    show _ = _
    rw [← e]
    simpa using hset
end Go.Proofs.YtpdfmpegcejmkaaGreatDoor
