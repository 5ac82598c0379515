/- Fields, one behind the other, as bytes. -/
/- copy onto a row of bytes that the call made: in a list of operations, and in a region that draws its order. -/
import Derived.Test.YtpaikolnampcfaaGreatDoorCodeBytes
import Derived.Test.YtpaikolnampcfaaGreatDoorCodeClone
import Derived.Test.YtpaikolnampcfaaGreatDoorMarkV
import Derived.Test.YtpaikolnampcfaaGreatDoorCodeLay
import Derived.Laws.CopyOwn
namespace Go.Proofs.YtpaikolnampcfaaGreatDoor
open Go.RowKit
/-- Fields in memory: how wide each is, its number. -/
def FieldsAt (w : World) (b off : Nat) (fs : List (Int × Int)) : Prop := ∀ k f, fs[k]? = some f → w.cell? ⟨b, off + k * 2, none⟩ = some (.int .i64 f.1) ∧ w.cell? ⟨b, off + k * 2 + 1, none⟩ = some (.int .i64 f.2)
theorem FieldsAt.below {w w' : World} {b off : Nat} {fs : List (Int × Int)} (h : FieldsAt w b off fs) (hb : Below w.heap.size w w') : FieldsAt w' b off fs := fun k f hk => ⟨cell_below (h k f hk).1 hb, cell_below (h k f hk).2 hb⟩
def fieldBytes (fs : List (Int × Int)) : List Int := fs.flatMap fun f => le f.1.toNat f.2
theorem fieldBytes_snoc (fs : List (Int × Int)) (k : Nat) (f : Int × Int) (h : fs[k]? = some f) : fieldBytes (fs.take (k + 1)) = fieldBytes (fs.take k) ++ le f.1.toNat f.2 := by
  unfold fieldBytes
  rw [List.take_add_one, h]; simp
set_option maxRecDepth 100000 in
set_option maxHeartbeats 2000000 in
theorem laid_any (w : World) (b off : Nat) (fs : List (Int × Int)) (c : Nat) (hA : FieldsAt w b off fs) (hok : ∀ f ∈ fs, 0 ≤ top f.1 ∧ 0 ≤ f.2 ∧ f.2 ≤ top f.1) (hl : fs.length ≤ 1000) (hlen : (fieldBytes fs).length ≤ 1000000) :
    Calls Tryz.prog 165 #[.slice (some ⟨b, off, none⟩) fs.length c] w fun e w' => ∃ v, e = .returned v ∧ w'.ownsRow w.heap.size 5 1 v (fieldBytes fs).length (u8s (fieldBytes fs)) ∧ Below w.heap.size w w' := by
  have hbn := below_new w (.cells #[.pointer none, .bool false] 197)
  have hB := BlockIs.made w 197 #[.pointer none, .bool false]
  have H0 := Lib.hid (And.intro hbn hB)
  have HA := Lib.hid hA
  have Hok := Lib.hid hok
  clear hbn hB hA hok
  go_enter Tryz.func165, Tryz.ntmps165
  go_wp2_with fail
  go_loopg [5, 10] fs.length (fun gk _ i wx => ∃ k : Nat, gk = fs.length - k ∧ k ≤ fs.length ∧ i = .int .i64 (k : Int) ∧ Hid (∃ S, WrAt wx S w.heap.size (some (fieldBytes (fs.take k))) ∧ Below w.heap.size w wx))
  case atStart => exact ⟨0, rfl, Nat.zero_le _, rfl, Lib.hid ⟨fun _ => False, ⟨fun _ h => h.elim, ⟨none, [], H0.out.2, rfl, rfl⟩⟩, H0.out.1⟩⟩
  case round =>
    obtain ⟨k, hgk, hk, rfl, hK⟩ := hrel
    have Hgk := Lib.hid hgk
    clear hgk
    obtain ⟨S, hW, hbe⟩ := hK.out
    have HW := Lib.hid (And.intro hW hbe)
    clear hK hW hbe
    by_cases hlt : k < fs.length
    · have hq : fs[k]? = some fs[k] := List.getElem?_eq_getElem hlt
      have hm : fs[k] ∈ fs := List.getElem_mem hlt
      obtain ⟨c0, c1⟩ := HA.out.below HW.out.2 k _ hq
      have Hs := Lib.hid (fieldBytes_snoc fs k _ hq)
      have Hf := Lib.hid (Hok.out _ hm)
      clear hq hm
      generalize fs[k] = f at *
      obtain ⟨wd, n⟩ := f
      simp only at c0 c1
      have hb1 := below_new wr (.cells #[.int .i64 wd, .int .i64 n] 249)
      have hb2 := hb1.alloc hb1.size (.cells #[.int .i64 n] 3)
      have hn : ∀ z ∈ [n], -9223372036854775808 ≤ z ∧ z ≤ 9223372036854775807 := fun z hz => by
        obtain rfl := List.mem_singleton.1 hz
        have h1 := Hf.out.2.1
        have h2 := Hf.out.2.2
        simp only at h1 h2
        rcases top_cases wd with ⟨_, t⟩ | ⟨_, t⟩ | ⟨_, t⟩ | ⟨_, t⟩ | ⟨_, _, _, _, t⟩ <;> omega
      have HF : Hid (Calls Tryz.prog 131 #[.pointer (some ⟨w.heap.size, 0, none⟩), .int .i64 wd, .slice (some ⟨wr.heap.size + 1, 0, none⟩) 1 1] ((wr.alloc (.cells #[.int .i64 wd, .int .i64 n] 249)).alloc (.cells #[.int .i64 n] 3)) fun e w' => e = .returned (.tuple #[]) ∧
          Put ((wr.alloc (.cells #[.int .i64 wd, .int .i64 n] 249)).alloc (.cells #[.int .i64 n] 3)) S w.heap.size (some (fieldBytes (fs.take k) ++ le wd.toNat n)) w') := by
        have h := field_any _ S w.heap.size _ (HW.out.1.below hb2) wd _ 1 [n] (intsAt_lit (wr.alloc (.cells #[.int .i64 wd, .int .i64 n] 249)) [n] hn) (by simp)
        rw [fieldsB_one wd n Hf.out.1 Hf.out.2.1 Hf.out.2.2] at h
        simp only [World.size_alloc] at h
        exact Lib.hid h
      have Hb2 := Lib.hid hb2
      clear hb1 hb2 hn
      go_wp2_with fail
      refine HF.out.mono ?_
      rintro e w3 ⟨rfl, hP⟩
      go_wp2_with fail
      go_roundg (fs.length - (k + 1))
      case measure => rw [Hgk.out]; omega
      case rel =>
        refine ⟨k + 1, rfl, by omega, by go_num, Lib.hid ⟨_, by rw [Hs.out]; exact hP.wr, ?_⟩⟩
        have hbe := HW.out.2.trans (Hb2.out.mono HW.out.2.size)
        exact below_grown hbe hP.fr hbe.size (Nat.le_refl _)
    · obtain rfl : k = fs.length := by omega
      rw [List.take_length] at HW
      have HB := Lib.hid (wbytes_some _ S w.heap.size _ HW.out.1 hlen)
      go_wp2_with fail
      refine HB.out.mono ?_
      rintro e w3 ⟨v, rfl, ho, hb3⟩
      have Ho := Lib.hid ho
      clear ho
      go_wp2_with fail
      go_ret
      exact ⟨v, rfl, own_mono Ho.out HW.out.2.size, HW.out.2.trans (hb3.mono HW.out.2.size)⟩
end Go.Proofs.YtpaikolnampcfaaGreatDoor
namespace Go.Proofs.YtpaikolnampcfaaGreatDoor
open Go.RowKit
theorem u8s_splice (xs zs : List Int) (off : Nat) : Go.splice (u8s xs) off (u8s zs) = u8s (Go.splice xs off zs) := by
  unfold Go.splice
  rw [u8s_len]
  unfold u8s
  simp [List.map_take, List.map_drop]
theorem splice_nil (xs : List Int) (off : Nat) : Go.splice xs off [] = xs := by unfold Go.splice; simp
theorem copy_reads {w : World} {sp : Option Addr} {zs : List Int} (hz : BytesAt w sp zs) (hp : 0 < (u8s zs).length) : ∃ ad, sp = some ad ∧ ∀ j v, (u8s zs)[j]? = some v → w.cell? (ad.add j) = some v := by
  have hne : zs ≠ [] := by rintro rfl; exact absurd hp (by decide)
  obtain ⟨b, off, e, hc⟩ := hz.2 hne
  refine ⟨⟨b, off, none⟩, e, fun j v hj => ?_⟩
  unfold u8s at hj
  rw [List.getElem?_map] at hj
  cases hq : zs[j]? with
  | none => rw [hq] at hj; cases hj
  | some z =>
    rw [hq] at hj
    obtain rfl : Value.int .u8 z = v := by simpa using hj
    have hlt := (List.getElem?_eq_some_iff.1 hq).1
    rw [Addr.add_mid, hc j hlt, List.getD_eq_getElem?_getD, hq]; rfl
theorem step_copy_u8 {ops : Array Oper} {o : Oper} {a : Act} {w : World} {K : Act → World → Prop} {Q : Exit → Act → World → Prop} {E : Prop} (hgd : o.guard = none) (d s : Operand)
    (ho : o.op = .call { callee := .builtin .copy, args := #[d, s], argTypes := #[28, 28] })
    (g off dLen dCap sLen sCap : Nat) (sp : Option Addr) (hd : a.eval d = .slice (some ⟨g, off, none⟩) dLen dCap) (hs : a.eval s = .slice sp sLen sCap)
    (xs zs : List Int) (hg : BytesIs w g xs) (hz : BytesAt w sp zs) (hl : zs.length = sLen) (hfit : sLen ≤ dLen) (hoff : off + sLen ≤ xs.length)
    (h : ∀ w', BytesIs w' g (Go.splice xs off zs) → w.grownBy w' (some g) → w'.heap.size = w.heap.size → K (a.put o.dst (goInt (u8s zs).length)) w') :
    if Region.wanted o (yielded ops a.tmps) = true then Oper.wp Tryz.prog o a w K Q else E := by
  have hw : Region.wanted o (yielded ops a.tmps) = true := by simp [Region.wanted, hgd]
  rw [if_pos hw]
  have hn : (u8s zs).length = Nat.min sLen dLen := by rw [u8s_len, hl]; exact (Nat.min_eq_left hfit).symm
  have hsz : (Tryz.prog.info? 5).map (·.size) = some 1 := by kernel_rfl
  by_cases h0 : (u8s zs).length = 0
  · obtain rfl : zs = [] := List.eq_nil_of_length_eq_zero (by rw [← u8s_len]; exact h0)
    have hrun := run_copy_none (P := Tryz.prog) w 28 28 o.type 5 (some ⟨g, off, none⟩) sp dLen dCap sLen sCap Tryz.underlying28 hsz (by rw [← hn, h0])
    unfold Oper.wp
    simp [execOp, ho, resolve, invoke, builtin, hd, hs, hrun, Result.andThen]
    exact h w (by rw [splice_nil]; exact hg) (World.grownBy.refl _ _) rfl
  · obtain ⟨ad, rfl, hsrc⟩ := copy_reads hz (by omega)
    have hrun := run_copy_row (P := Tryz.prog) w 28 28 o.type 5 g off dLen dCap ad sLen sCap (u8s xs).toArray 5 (u8s zs) Tryz.underlying28 hsz hg hn hsrc (by rw [u8s_len, List.size_toArray, u8s_len]; omega) (u8s_one zs)
    unfold Oper.wp
    simp [execOp, ho, resolve, invoke, builtin, hd, hs, hrun, Result.andThen]
    have hset := setRow_heap w g _ ((u8s xs).take off ++ (u8s zs ++ (u8s xs).drop (off + (u8s zs).length))).toArray 5 (0, 0) hg
    have e : ((u8s xs).take off ++ (u8s zs ++ (u8s xs).drop (off + (u8s zs).length))) = u8s (Go.splice xs off zs) := u8s_splice xs zs off
    refine h _ ?_ ⟨rfl, rfl, rfl, by simp, fun k _ hk => setRow_other w g k _ (fun e => hk (by rw [e]))⟩ (by simp)
    show _ = _
    rw [← e]
    simpa using hset
theorem wpList_copy_u8 {ops : Array Oper} {rest : List Oper} {o : Oper} {a : Act} {w : World} {Q : Exit → Act → World → Prop} (hgd : o.guard = none) (d s : Operand)
    (ho : o.op = .call { callee := .builtin .copy, args := #[d, s], argTypes := #[28, 28] })
    (g off dLen dCap sLen sCap : Nat) (sp : Option Addr) (hd : a.eval d = .slice (some ⟨g, off, none⟩) dLen dCap) (hs : a.eval s = .slice sp sLen sCap)
    (xs zs : List Int) (hg : BytesIs w g xs) (hz : BytesAt w sp zs) (hl : zs.length = sLen) (hfit : sLen ≤ dLen) (hoff : off + sLen ≤ xs.length)
    (h : ∀ w', BytesIs w' g (Go.splice xs off zs) → w.grownBy w' (some g) → w'.heap.size = w.heap.size → wpList Tryz.prog ops Q rest (a.put o.dst (goInt (u8s zs).length)) w') : wpList Tryz.prog ops Q (o :: rest) a w := by
  have hn : (u8s zs).length = Nat.min sLen dLen := by rw [u8s_len, hl]; exact (Nat.min_eq_left hfit).symm
  have hsz : (Tryz.prog.info? 5).map (·.size) = some 1 := by kernel_rfl
  by_cases h0 : (u8s zs).length = 0
  · obtain rfl : zs = [] := List.eq_nil_of_length_eq_zero (by rw [← u8s_len]; exact h0)
    refine wpList_copy_nothing hgd d s _ _ ho 5 Tryz.underlying28 hsz (some ⟨g, off, none⟩) sp dLen dCap sLen sCap hd hs (by rw [← hn, h0]) ?_
    exact h w (by rw [splice_nil]; exact hg) (World.grownBy.refl _ _) rfl
  · obtain ⟨ad, rfl, hsrc⟩ := copy_reads hz (by omega)
    refine wpList_copy_own hgd d s _ _ ho 5 Tryz.underlying28 hsz g off dLen dCap ad sLen sCap hd hs (u8s xs).toArray 5 hg (u8s zs) hn hsrc (by rw [u8s_len, List.size_toArray, u8s_len]; omega) (u8s_one zs) ?_
    have hset := setRow_heap w g _ ((u8s xs).take off ++ (u8s zs ++ (u8s xs).drop (off + (u8s zs).length))).toArray 5 (0, 0) hg
    have e : ((u8s xs).take off ++ (u8s zs ++ (u8s xs).drop (off + (u8s zs).length))) = u8s (Go.splice xs off zs) := u8s_splice xs zs off
    refine h _ ?_ ⟨rfl, rfl, rfl, by simp, fun k _ hk => setRow_other w g k _ (fun e => hk (by rw [e]))⟩ (by simp)
    show _ = _
    rw [← e]
    simpa using hset
end Go.Proofs.YtpaikolnampcfaaGreatDoor
