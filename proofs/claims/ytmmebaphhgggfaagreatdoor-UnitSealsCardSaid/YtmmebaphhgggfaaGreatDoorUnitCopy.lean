/- copy onto a row of bytes that the call made: in a list of operations, and in a region that draws its order. -/
import Derived.Test.YtmmebaphhgggfaaGreatDoorCodeLay
import Derived.Laws.CopyOwn
namespace Go.Proofs.YtmmebaphhgggfaaGreatDoor
open Go.RowKit
theorem u8s_splice (xs zs : List Int) (off : Nat) : Go.splice (u8s xs) off (u8s zs) = u8s (Go.splice xs off zs) := by
  unfold Go.splice
  rw [u8s_len]
  unfold u8s
  simp [List.map_take, List.map_drop]
theorem splice_nil (xs : List Int) (off : Nat) : Go.splice xs off [] = xs := by unfold Go.splice; simp
theorem copy_reads {w : World} {sp : Option Addr} {zs : List Int} (hz : BytesAt w sp zs) (hp : 0 < (u8s zs).length) : ∃ ad, sp = some ad ∧ ∀ j v, (u8s zs)[j]? = some v → w.cell? (ad.add j) = some v := by
  have hne : zs ≠ [] := by rintro rfl; exact absurd hp (by decide)
  obtain ⟨b, off, e, hc⟩ := hz.2 hne
  refine ⟨⟨b, off, none⟩, e, fun j v hj => ?_⟩
  unfold u8s at hj
  rw [List.getElem?_map] at hj
  cases hq : zs[j]? with
  | none => rw [hq] at hj; cases hj
  | some z =>
    rw [hq] at hj
    obtain rfl : Value.int .u8 z = v := by simpa using hj
    have hlt := (List.getElem?_eq_some_iff.1 hq).1
    rw [Addr.add_mid, hc j hlt, List.getD_eq_getElem?_getD, hq]; rfl
theorem step_copy_u8 {ops : Array Oper} {o : Oper} {a : Act} {w : World} {K : Act → World → Prop} {Q : Exit → Act → World → Prop} {E : Prop} (hgd : o.guard = none) (d s : Operand)
    (ho : o.op = .call { callee := .builtin .copy, args := #[d, s], argTypes := #[23, 23] })
    (g off dLen dCap sLen sCap : Nat) (sp : Option Addr) (hd : a.eval d = .slice (some ⟨g, off, none⟩) dLen dCap) (hs : a.eval s = .slice sp sLen sCap)
    (xs zs : List Int) (hg : BytesIs w g xs) (hz : BytesAt w sp zs) (hl : zs.length = sLen) (hfit : sLen ≤ dLen) (hoff : off + sLen ≤ xs.length)
    (h : ∀ w', BytesIs w' g (Go.splice xs off zs) → w.grownBy w' (some g) → w'.heap.size = w.heap.size → K (a.put o.dst (goInt (u8s zs).length)) w') :
    if Region.wanted o (yielded ops a.tmps) = true then Oper.wp Tryz.prog o a w K Q else E := by
  have hw : Region.wanted o (yielded ops a.tmps) = true := by simp [Region.wanted, hgd]
  rw [if_pos hw]
  have hn : (u8s zs).length = Nat.min sLen dLen := by rw [u8s_len, hl]; exact (Nat.min_eq_left hfit).symm
  have hsz : (Tryz.prog.info? 5).map (·.size) = some 1 := by kernel_rfl
  by_cases h0 : (u8s zs).length = 0
  · obtain rfl : zs = [] := List.eq_nil_of_length_eq_zero (by rw [← u8s_len]; exact h0)
    have hrun := run_copy_none (P := Tryz.prog) w 23 23 o.type 5 (some ⟨g, off, none⟩) sp dLen dCap sLen sCap Tryz.underlying23 hsz (by rw [← hn, h0])
    unfold Oper.wp
    simp [execOp, ho, resolve, invoke, builtin, hd, hs, hrun, Result.andThen]
    exact h w (by rw [splice_nil]; exact hg) (World.grownBy.refl _ _) rfl
  · obtain ⟨ad, rfl, hsrc⟩ := copy_reads hz (by omega)
    have hrun := run_copy_row (P := Tryz.prog) w 23 23 o.type 5 g off dLen dCap ad sLen sCap (u8s xs).toArray 5 (u8s zs) Tryz.underlying23 hsz hg hn hsrc (by rw [u8s_len, List.size_toArray, u8s_len]; omega) (u8s_one zs)
    unfold Oper.wp
    simp [execOp, ho, resolve, invoke, builtin, hd, hs, hrun, Result.andThen]
    have hset := setRow_heap w g _ ((u8s xs).take off ++ (u8s zs ++ (u8s xs).drop (off + (u8s zs).length))).toArray 5 (0, 0) hg
    have e : ((u8s xs).take off ++ (u8s zs ++ (u8s xs).drop (off + (u8s zs).length))) = u8s (Go.splice xs off zs) := u8s_splice xs zs off
    refine h _ ?_ ⟨rfl, rfl, rfl, by simp, fun k _ hk => setRow_other w g k _ (fun e => hk (by rw [e]))⟩ (by simp)
    show _ = _
    rw [← e]
    simpa using hset
theorem wpList_copy_u8 {ops : Array Oper} {rest : List Oper} {o : Oper} {a : Act} {w : World} {Q : Exit → Act → World → Prop} (hgd : o.guard = none) (d s : Operand)
    (ho : o.op = .call { callee := .builtin .copy, args := #[d, s], argTypes := #[23, 23] })
    (g off dLen dCap sLen sCap : Nat) (sp : Option Addr) (hd : a.eval d = .slice (some ⟨g, off, none⟩) dLen dCap) (hs : a.eval s = .slice sp sLen sCap)
    (xs zs : List Int) (hg : BytesIs w g xs) (hz : BytesAt w sp zs) (hl : zs.length = sLen) (hfit : sLen ≤ dLen) (hoff : off + sLen ≤ xs.length)
    (h : ∀ w', BytesIs w' g (Go.splice xs off zs) → w.grownBy w' (some g) → w'.heap.size = w.heap.size → wpList Tryz.prog ops Q rest (a.put o.dst (goInt (u8s zs).length)) w') : wpList Tryz.prog ops Q (o :: rest) a w := by
  have hn : (u8s zs).length = Nat.min sLen dLen := by rw [u8s_len, hl]; exact (Nat.min_eq_left hfit).symm
  have hsz : (Tryz.prog.info? 5).map (·.size) = some 1 := by kernel_rfl
  by_cases h0 : (u8s zs).length = 0
  · obtain rfl : zs = [] := List.eq_nil_of_length_eq_zero (by rw [← u8s_len]; exact h0)
    refine wpList_copy_nothing hgd d s _ _ ho 5 Tryz.underlying23 hsz (some ⟨g, off, none⟩) sp dLen dCap sLen sCap hd hs (by rw [← hn, h0]) ?_
    exact h w (by rw [splice_nil]; exact hg) (World.grownBy.refl _ _) rfl
  · obtain ⟨ad, rfl, hsrc⟩ := copy_reads hz (by omega)
    refine wpList_copy_own hgd d s _ _ ho 5 Tryz.underlying23 hsz g off dLen dCap ad sLen sCap hd hs (u8s xs).toArray 5 hg (u8s zs) hn hsrc (by rw [u8s_len, List.size_toArray, u8s_len]; omega) (u8s_one zs) ?_
    have hset := setRow_heap w g _ ((u8s xs).take off ++ (u8s zs ++ (u8s xs).drop (off + (u8s zs).length))).toArray 5 (0, 0) hg
    have e : ((u8s xs).take off ++ (u8s zs ++ (u8s xs).drop (off + (u8s zs).length))) = u8s (Go.splice xs off zs) := u8s_splice xs zs off
    refine h _ ?_ ⟨rfl, rfl, rfl, by simp, fun k _ hk => setRow_other w g k _ (fun e => hk (by rw [e]))⟩ (by simp)
    show _ = _
    rw [← e]
    simpa using hset
end Go.Proofs.YtmmebaphhgggfaaGreatDoor
