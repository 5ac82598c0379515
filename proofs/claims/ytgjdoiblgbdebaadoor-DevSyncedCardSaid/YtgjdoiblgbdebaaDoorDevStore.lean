/- Writes are stored: some sectors of one; all that wait. -/
import Derived.Test.YtgjdoiblgbdebaaDoorDevSmall
import Derived.BigQuiet
import Derived.Deep.RegionLaw
import Derived.IntWalk
namespace Go.Proofs.YtgjdoiblgbdebaaDoor
open Go.RowKit
section
variable {w : World} {T : Nat → Prop} {h C : Nat} {wv : Value} {hu tu cr : Nat} {M : List MCell} {ws : List (Nat × List Int)} {left : Int} {dn : Bool}
def MCell.store (m : MCell) (b : List Int) (s : Nat) : MCell := ⟨b.take (32 * s) ++ m.bs.drop (32 * s), if s = 8 then false else m.hurt, m.last⟩
theorem flat_set {α : Type} (f : α → List Value) (W : Nat) {l : List α} (h : ∀ x ∈ l, (f x).length = W) {n : Nat} (hn : n < l.length) {o : Nat} (ho : o < W) {v : Value} {y : α} (hy : f y = (f l[n]).set o v) : (l.flatMap f).set (n * W + o) v = (l.set n y).flatMap f := by
  have hl := flat_len f W l h
  have hlt : n * W + o < (l.flatMap f).length := by
    rw [hl]
    have : (n + 1) * W ≤ l.length * W := Nat.mul_le_mul_right W hn
    rw [Nat.add_mul, Nat.one_mul] at this; omega
  rw [← splice_one _ _ _ hlt]
  refine flat_splice f W h hn (by rw [List.length_singleton]; exact ho) ?_
  rw [hy, splice_one _ _ _ (by rw [h _ (List.getElem_mem hn)]; exact ho)]
theorem getD_at {M : List MCell} {n : Nat} (hn : n < M.length) : M.getD n default = M[n] := by rw [List.getD_eq_getElem?_getD, List.getElem?_eq_getElem hn]; rfl
/-- The blocks' row is another one. -/
theorem DevR.row (k : DevR w T h C wv hu tu cr M ws left dn) {w' : World} {M' : List MCell} (hs : w.heap.size ≤ w'.heap.size) (ho : ∀ b, T b → b ≠ C → w'.heap[b]? = w.heap[b]?) (hl : M'.length = M.length) (hm : ∀ m ∈ M', BlkOk m.bs)
    (hb : BlockIs w' C 86 (M'.flatMap cellV).toArray) : DevR w' T h C wv hu tu cr M' ws left dn :=
  ⟨fun j hj => Nat.lt_of_lt_of_le (k.foot j hj) hs, k.self, k.tc, k.ne, by rw [hl]; exact k.blk.keep (ho _ k.self k.ne.symm), hb, own_keep k.own (fun b hb => ho b (k.mem b hb) (fun e => k.offC (e ▸ hb))), k.off, k.offC, k.mem, hm, by rw [hl]; exact k.many, by rw [hl]; exact k.wb⟩
theorem mem_set_ok {M : List MCell} {n : Nat} {y : MCell} (hM : ∀ m ∈ M, BlkOk m.bs) (hy : BlkOk y.bs) : ∀ m ∈ M.set n y, BlkOk m.bs := fun m hm => by
  rcases List.mem_or_eq_of_mem_set hm with h | rfl
  · exact hM m h
  · exact hy
theorem DevR.setHurt (k : DevR w T h C wv hu tu cr M ws left dn) {n : Nat} (hn : n < M.length) (x : Bool) : DevR (w.setCell ⟨C, n * 258 + 256, none⟩ (.bool x)) T h C wv hu tu cr (M.set n { M.getD n default with hurt := x }) ws left dn := by
  rw [getD_at hn]
  have hmb := k.mb _ (List.getElem_mem hn)
  refine k.row (Nat.le_of_eq (set_size _ _ _).symm) (fun b _ hb => set_other _ _ _ _ _ hb) (List.length_set ..) (mem_set_ok k.mb hmb) ?_
  have := k.cells.set1 (n * 258 + 256) (.bool x)
  rw [List.setIfInBounds_toArray, flat_set cellV 258 k.wid hn (by decide) (y := { M[n] with hurt := x }) (cellV_set_hurt hmb x).symm] at this
  exact this
theorem DevR.setLast (k : DevR w T h C wv hu tu cr M ws left dn) {n : Nat} (hn : n < M.length) (x : Nat) : DevR (w.setCell ⟨C, n * 258 + 257, none⟩ (.int .i64 (x : Int))) T h C wv hu tu cr (M.set n { M.getD n default with last := x }) ws left dn := by
  rw [getD_at hn]
  have hmb := k.mb _ (List.getElem_mem hn)
  refine k.row (Nat.le_of_eq (set_size _ _ _).symm) (fun b _ hb => set_other _ _ _ _ _ hb) (List.length_set ..) (mem_set_ok k.mb hmb) ?_
  have := k.cells.set1 (n * 258 + 257) (.int .i64 (x : Int))
  rw [List.setIfInBounds_toArray, flat_set cellV 258 k.wid hn (by decide) (y := { M[n] with last := x }) (cellV_set_last hmb x).symm] at this
  exact this
/-- Some bytes of a block are others. -/
theorem DevR.splice (k : DevR w T h C wv hu tu cr M ws left dn) {w' : World} {n : Nat} (hn : n < M.length) {ys : List Int} (hy : ys.length ≤ 256) (hyb : ∀ z ∈ ys, 0 ≤ z ∧ z < 256) (hs : w.heap.size ≤ w'.heap.size) (ho : ∀ b, T b → b ≠ C → w'.heap[b]? = w.heap[b]?)
    (hb : BlockIs w' C 86 (Go.splice (M.flatMap cellV) (n * 258) (u8s ys)).toArray) : DevR w' T h C wv hu tu cr (M.set n { M.getD n default with bs := ys ++ (M.getD n default).bs.drop ys.length }) ws left dn := by
  rw [getD_at hn]
  have hmb := k.mb _ (List.getElem_mem hn)
  have hl : (ys ++ M[n].bs.drop ys.length).length = 256 := by rw [List.length_append, List.length_drop, hmb.1]; omega
  refine k.row hs ho (List.length_set ..) (mem_set_ok k.mb ⟨hl, fun z hz => ?_⟩) ?_
  · rcases List.mem_append.1 hz with hz | hz
    · exact hyb z hz
    · exact hmb.2 z (List.mem_of_mem_drop hz)
  have := flat_splice cellV 258 k.wid hn (o := 0) (vs := u8s ys) (by rw [u8s_len]; omega) (y := { M[n] with bs := ys ++ M[n].bs.drop ys.length }) (cellV_splice hmb hy).symm
  rw [Nat.add_zero] at this
  rw [this] at hb
  exact hb
/-- copy, as one step of a region that draws its order: the row is spliced, all else stays. -/
theorem step_copy_only {P : Program} {ops : Array Oper} {o : Oper} {a : Act} {w : World} {K : Act → World → Prop} {Q : Exit → Act → World → Prop} {E : Prop} (hgd : o.guard = none) (d s : Operand) (dT sT : TypeId)
    (ho : o.op = .call { callee := .builtin .copy, args := #[d, s], argTypes := #[dT, sT] }) (elem : TypeId) (hu : P.underlying dT = some (.slice elem)) (hsz : (P.info? elem).map (·.size) = some 1)
    (dp sp : Option Addr) (dLen dCap sLen sCap : Nat) (hd : a.eval d = .slice dp dLen dCap) (hs : a.eval s = .slice sp sLen sCap)
    (g off : Nat) (cur : List Value) (t : TypeId) (hg : BlockIs w g t cur.toArray) (cs : List Value) (hn : cs.length = Nat.min sLen dLen)
    (hpos : 0 < cs.length → dp = some ⟨g, off, none⟩ ∧ ∃ ad, sp = some ad ∧ ∀ j v, cs[j]? = some v → w.cell? (ad.add j) = some v)
    (hfit : off + cs.length ≤ cur.length) (h1 : ∀ v ∈ cs, v.oneCell' = true)
    (h : ∀ w', BlockIs w' g t (Go.splice cur off cs).toArray → w.grownBy w' (some g) → w'.heap.size = w.heap.size → K (a.put o.dst (goInt cs.length)) w') :
    if Region.wanted o (yielded ops a.tmps) = true then Oper.wp P o a w K Q else E := by
  have hw : Region.wanted o (yielded ops a.tmps) = true := by simp [Region.wanted, hgd]
  rw [if_pos hw]
  by_cases h0 : cs.length = 0
  · obtain rfl : cs = [] := List.eq_nil_of_length_eq_zero h0
    have hrun := run_copy_none (P := P) w dT sT o.type elem dp sp dLen dCap sLen sCap hu hsz (by simpa using hn.symm)
    unfold Oper.wp
    simp [execOp, ho, resolve, invoke, builtin, hd, hs, hrun, Result.andThen]
    exact h w (show _ = _ by simpa [Go.splice, BlockIs] using hg) (World.grownBy.refl _ _) rfl
  · obtain ⟨rfl, ad, rfl, hsrc⟩ := hpos (by omega)
    have hrun := run_copy_row (P := P) w dT sT o.type elem g off dLen dCap ad sLen sCap cur.toArray t cs hu hsz hg hn hsrc (by simpa using hfit) h1
    unfold Oper.wp
    simp [execOp, ho, resolve, invoke, builtin, hd, hs, hrun, Result.andThen]
    refine h _ ?_ ⟨rfl, rfl, rfl, by simp, fun k _ hk => setRow_other w g k _ (fun e => hk (by rw [e]))⟩ (by simp)
    show _ = _
    simpa [Go.splice] using setRow_heap w g _ (cur.take off ++ (cs ++ cur.drop (off + cs.length))).toArray t (0, 0) hg
/-- The blocks, and how many are hurt, behind a write of which s sectors are stored. -/
def storedM (M : List MCell) (p : Nat × List Int) (s : Nat) : List MCell := M.set p.1 ((M.getD p.1 default).store p.2 s)
def storedHu (M : List MCell) (n s hu : Nat) : Nat := if s = 8 ∧ (M.getD n default).hurt then hu - 1 else hu
theorem set_self {M : List MCell} {n : Nat} (hn : n < M.length) : M.set n (M.getD n default) = M := by rw [getD_at hn]; exact List.set_getElem_self hn
theorem store_done {w7 w4 : World} {n : Nat} {x : Bool} {b : List Int} {s : Nat} (k : DevR w7 T h C wv hu tu cr (M.set n { M.getD n default with hurt := x }) ws left dn) (hn : n < M.length) (hf : ∀ j, T j → j < w.heap.size) (fr : Chg T w w7) (hb : BlkOk b) (hs : s ≤ 8)
    (hb4 : BlockIs w4 C 86 (Go.splice ((M.set n { M.getD n default with hurt := x }).flatMap cellV) (n * 258) (u8s (b.take (32 * s)))).toArray) (hg0 : w7.drew.grownBy w4 (some C)) (hx : x = if s = 8 then false else (M.getD n default).hurt) :
    DevR w4 (grow T w w4) h C wv hu tu cr (M.set n ((M.getD n default).store b s)) ws left dn ∧ Chg T w w4 := by
  have hg : w7.grownBy w4 (some C) := ⟨hg0.os, hg0.tape, hg0.output, hg0.size, hg0.block⟩
  have hl : (b.take (32 * s)).length = 32 * s := by rw [List.length_take, hb.1]; omega
  have h1 := k.splice (n := n) (by rw [List.length_set]; exact hn) (ys := b.take (32 * s)) (by omega) (fun z hz => hb.2 z (List.mem_of_mem_take hz)) hg.size (fun j hj hne => hg.block j (k.foot j hj) (fun e => hne (by injection e))) hb4
  have hn' : n < (M.set n { M.getD n default with hurt := x }).length := by rw [List.length_set]; exact hn
  rw [getD_at hn', List.getElem_set_self, List.set_set, hl] at h1
  have hfr : Chg T w w4 := fr.trans (Chg.of_grown hg (fun b e => .inl (by injection e with e; exact e ▸ k.tc)))
  refine ⟨?_, hfr⟩
  have h2 := h1.mono (T' := grow T w w4) (fun _ hj => .inl hj) (grow_lt hf hfr.size)
  unfold MCell.store
  rw [← hx]
  exact h2
theorem copy_len (b : List Int) (hb : BlkOk b) {s : Nat} (hs : s ≤ 8) : (u8s (b.take (32 * s))).length = Nat.min 256 (32 * s) := by
  rw [u8s_len, List.length_take, hb.1]
  show min (32 * s) 256 = min 256 (32 * s)
  omega
theorem copy_src {w7 : World} {g n : Nat} {b : List Int} {s : Nat} (hB : BlockIs w7 g 101 (writeV (n, b)).toArray) : ∀ j v, (u8s (b.take (32 * s)))[j]? = some v → w7.cell? ((⟨g, 1, none⟩ : Addr).add j) = some v := by
  intro j v hj
  rw [Addr.add_mid, hB.cell, List.getElem?_toArray]
  unfold writeV
  rw [show 1 + j = j + 1 by omega, List.getElem?_cons_succ]
  unfold u8s at hj ⊢
  rw [List.getElem?_map] at hj ⊢
  cases hq : (b.take (32 * s))[j]? with
  | none => rw [hq] at hj; cases hj
  | some z =>
    rw [List.getElem?_take] at hq
    split at hq
    · next hlt => rw [List.getElem?_take_of_lt hlt, hq] at hj; rw [hq]; exact hj
    · cases hq
theorem copy_fit {M : List MCell} (hM : ∀ m ∈ M, BlkOk m.bs) {n : Nat} (hn : n < M.length) {b : List Int} {s : Nat} (hs : s ≤ 8) : n * 258 + (u8s (b.take (32 * s))).length ≤ (M.flatMap cellV).length := by
  rw [flat_len cellV 258 M (fun m hm => cellV_len (hM m hm)), u8s_len]
  have h1 : (b.take (32 * s)).length ≤ 256 := by rw [List.length_take]; omega
  have : (n + 1) * 258 ≤ M.length * 258 := Nat.mul_le_mul_right 258 hn
  rw [Nat.add_mul] at this; omega
theorem slice_run (a : Addr) (w : World) : ∀ s : Nat, s ≤ 8 → (Instr.sliceAt 84 (.pointer (some a)) none (some (.int .i64 (IntKind.i64.wrap ((s : Int) * 32)))) none).run Tryd.prog w = .ok (.slice (some a) (32 * s) 256) w
  | 0, _ => by kernel_rfl
  | 1, _ => by kernel_rfl
  | 2, _ => by kernel_rfl
  | 3, _ => by kernel_rfl
  | 4, _ => by kernel_rfl
  | 5, _ => by kernel_rfl
  | 6, _ => by kernel_rfl
  | 7, _ => by kernel_rfl
  | 8, _ => by kernel_rfl
  | _ + 9, h => by omega
theorem slice_run8 (a : Addr) (w : World) : (Instr.sliceAt 84 (.pointer (some a)) none (some (.int .i64 (IntKind.i64.wrap 256))) none).run Tryd.prog w = .ok (.slice (some a) 256 256) w := by kernel_rfl
set_option maxRecDepth 100000 in
theorem store_any (k : DevR w T h C wv hu tu cr M ws left dn) (p : Nat × List Int) (hp : p.1 < M.length) (hb : BlkOk p.2) (s : Nat) (hs : s ≤ 8) (hu1 : hu ≤ 4096) (hu0 : (M.getD p.1 default).hurt = true → 0 < hu) :
    Calls Tryd.prog 69 #[.pointer (some ⟨h, 0, none⟩), .agg (writeV p).toArray, .int .i64 (s : Int)] w fun e w' => e = .returned (.tuple #[]) ∧
      DevR w' (grow T w w') h C wv (storedHu M p.1 s hu) tu cr (storedM M p s) ws left dn ∧ Chg T w w' := by
  obtain ⟨n, b⟩ := p
  have hbn := below_new w (.cells (writeV (n, b)).toArray 101)
  have k1 := k.below hbn
  have c4 := k1.cell8.2.2.2.2.1
  have hM := k.many
  have hB := BlockIs.made w 101 (writeV (n, b)).toArray
  have b0 : (w.alloc (.cells (writeV (n, b)).toArray 101)).cell? ⟨w.heap.size, 0, none⟩ = some (.int .i64 (n : Int)) := hB.cell 0
  have hsz : (w.alloc (.cells (writeV (n, b)).toArray 101)).heap.size = w.heap.size + 1 := by simp
  have Hk := Lib.hid (And.intro k1 (And.intro hB (And.intro hbn hsz)))
  have Hf := Lib.hid k.foot
  have hp' : n < M.length := hp
  have Hb := Lib.hid hb
  clear k k1 hB hbn hsz hp hb
  go_enter Tryd.func69, Tryd.ntmps69
  go_wp2_with fail
  go_quiet (fail)
  generalize (w.alloc (.cells (writeV (n, b)).toArray 101)) = w0 at *
  clear c4 b0
  have H1 : Hid (DevR (w0.drewN nq) T h C wv hu tu cr M ws left dn ∧ BlockIs (w0.drewN nq) w.heap.size 101 (writeV (n, b)).toArray ∧ Below w.heap.size w (w0.drewN nq) ∧ (w0.drewN nq).heap.size = w.heap.size + 1) := ⟨Hk.out.1.drewN nq, Hk.out.2.1, drewN_below Hk.out.2.2.1 nq, Hk.out.2.2.2⟩
  clear Hk
  generalize w0.drewN nq = w1 at *
  have cH : w1.cell? ⟨C, n * 258 + 256, none⟩ = some (.bool (M.getD n default).hurt) := by
    rw [H1.out.1.at_ hp' (by decide), getD_at hp']; exact cellV_hurt (H1.out.1.mb _ (List.getElem_mem hp'))
  have fH := H1.out.1.cells.free (n * 258 + 256)
  have c0 := H1.out.1.cell8.1
  have f0 := H1.out.1.blk.free 0
  have hfr1 : Chg T w w1 := Chg.of_below H1.out.2.2.1
  by_cases h8 : s = 8
  · subst h8
    have hsl := fun w' => slice_run8 ⟨C, n * 258, none⟩ w'
    cases hh : (M.getD n default).hurt with
    | true =>
      have hpos := hu0 hh
      rw [hh] at cH
      have hw : wrap64 ((hu : Int) - 1) = (hu : Int) - 1 := by unfold wrap64; omega
      have H7 : Hid (DevR ((w1.setCell ⟨C, n * 258 + 256, none⟩ (.bool false)).setCell ⟨h, 0, none⟩ (.int .i64 ((hu : Int) - 1))) T h C wv (hu - 1) tu cr (M.set n { M.getD n default with hurt := false }) ws left dn ∧
          BlockIs ((w1.setCell ⟨C, n * 258 + 256, none⟩ (.bool false)).setCell ⟨h, 0, none⟩ (.int .i64 ((hu : Int) - 1))) w.heap.size 101 (writeV (n, b)).toArray ∧ Chg T w ((w1.setCell ⟨C, n * 258 + 256, none⟩ (.bool false)).setCell ⟨h, 0, none⟩ (.int .i64 ((hu : Int) - 1)))) := by
        rw [show (hu : Int) - 1 = ((hu - 1 : Nat) : Int) by omega]
        have h1 := H1.out.1.setHurt hp' false
        have h2 := h1.blk.set1 0 (.int .i64 ((hu - 1 : Nat) : Int))
        have hC : w.heap.size ≠ C := fun e => by have := Hf.out C H1.out.1.tc; omega
        have hH : w.heap.size ≠ h := fun e => by have := Hf.out h H1.out.1.self; omega
        exact ⟨h1.own8 (set_size _ _ _) (fun j hj => set_other _ _ _ _ _ hj) h2, (H1.out.2.1.keep ((set_other _ _ _ _ _ hH).trans (set_other _ _ _ _ _ hC))), (hfr1.set (.inl H1.out.1.tc) _).set (.inl H1.out.1.self) _⟩
      clear hpos
      have G1 := Lib.hid (copy_len b Hb.out hs)
      have G2 := Lib.hid (copy_fit H7.out.1.mb (show n < (M.set n { M.getD n default with hurt := false }).length by rw [List.length_set]; exact hp') (b := b) hs)
      have G3 := Lib.hid (copy_src (s := 8) H7.out.2.1)
      have G4 := Lib.hid (u8s_one (b.take (32 * 8)))
      have G5 := Lib.hid H7.out.1.cells
      go_wp2_with fail
      clear cH fH c0 f0 hw
      generalize ((w1.setCell ⟨C, n * 258 + 256, none⟩ (.bool false)).setCell ⟨h, 0, none⟩ (.int .i64 ((hu : Int) - 1))) = w7 at *
      go_region_law (refine step_copy_only rfl (.tmp 38) (.tmp 40) 33 33 rfl 5 Tryd.underlying33 (by kernel_rfl) (some ⟨C, n * 258, none⟩) (some ⟨w.heap.size, 1, none⟩) (32 * 8) 256 256 256 (by simp [Act.eval, Act.put]) (by simp [Act.eval, Act.put]) C (n * 258) ((M.set n { M.getD n default with hurt := false }).flatMap cellV) 86 G5.out (u8s (b.take (32 * 8))) G1.out (fun _ => ⟨rfl, ⟨w.heap.size, 1, none⟩, rfl, G3.out⟩) G2.out G4.out ?_; intro w4 hb4 hg4 hs4)
      have hd := store_done (w := w) (s := 8) H7.out.1 hp' Hf.out (H7.out.2.2) Hb.out hs hb4 hg4 rfl
      clear hb4 hg4 hs4 G1 G2 G3 G4 G5
      have HD := Lib.hid hd
      clear hd
      go_wp2_with fail
      go_end0
      exact ⟨rfl, by unfold storedHu; rw [if_pos ⟨rfl, hh⟩]; exact HD.out⟩
    | false =>
      rw [hh] at cH
      have H7 : Hid (DevR w1 T h C wv hu tu cr (M.set n { M.getD n default with hurt := false }) ws left dn ∧ BlockIs w1 w.heap.size 101 (writeV (n, b)).toArray ∧ Chg T w w1) :=
        ⟨by rw [show ({ M.getD n default with hurt := false } : MCell) = M.getD n default by rw [← hh], set_self hp']; exact H1.out.1, H1.out.2.1, hfr1⟩
      have G1 := Lib.hid (copy_len b Hb.out hs)
      have G2 := Lib.hid (copy_fit H7.out.1.mb (show n < (M.set n { M.getD n default with hurt := false }).length by rw [List.length_set]; exact hp') (b := b) hs)
      have G3 := Lib.hid (copy_src (s := 8) H7.out.2.1)
      have G4 := Lib.hid (u8s_one (b.take (32 * 8)))
      have G5 := Lib.hid H7.out.1.cells
      go_wp2_with fail
      clear cH fH c0 f0
      go_region_law (refine step_copy_only rfl (.tmp 38) (.tmp 40) 33 33 rfl 5 Tryd.underlying33 (by kernel_rfl) (some ⟨C, n * 258, none⟩) (some ⟨w.heap.size, 1, none⟩) (32 * 8) 256 256 256 (by simp [Act.eval, Act.put]) (by simp [Act.eval, Act.put]) C (n * 258) ((M.set n { M.getD n default with hurt := false }).flatMap cellV) 86 G5.out (u8s (b.take (32 * 8))) G1.out (fun _ => ⟨rfl, ⟨w.heap.size, 1, none⟩, rfl, G3.out⟩) G2.out G4.out ?_; intro w4 hb4 hg4 hs4)
      have hd := store_done (w := w) (s := 8) H7.out.1 hp' Hf.out (H7.out.2.2) Hb.out hs hb4 hg4 rfl
      clear hb4 hg4 hs4 G1 G2 G3 G4 G5
      have HD := Lib.hid hd
      clear hd
      go_wp2_with fail
      go_end0
      exact ⟨rfl, by unfold storedHu; rw [if_neg (fun e => by rw [hh] at e; exact Bool.noConfusion e.2)]; exact HD.out⟩
  · have h8' : ¬ (s : Int) = 8 := by omega
    have hsl := fun w' => slice_run ⟨C, n * 258, none⟩ w' s hs
    have H7 : Hid (DevR w1 T h C wv hu tu cr (M.set n { M.getD n default with hurt := (M.getD n default).hurt }) ws left dn ∧ BlockIs w1 w.heap.size 101 (writeV (n, b)).toArray ∧ Chg T w w1) :=
      ⟨by rw [show ({ M.getD n default with hurt := (M.getD n default).hurt } : MCell) = M.getD n default from rfl, set_self hp']; exact H1.out.1, H1.out.2.1, hfr1⟩
    clear cH fH c0 f0
    have G1 := Lib.hid (copy_len b Hb.out hs)
    have G2 := Lib.hid (copy_fit H7.out.1.mb (show n < (M.set n { M.getD n default with hurt := (M.getD n default).hurt }).length by rw [List.length_set]; exact hp') (b := b) hs)
    have G3 := Lib.hid (copy_src (s := s) H7.out.2.1)
    have G4 := Lib.hid (u8s_one (b.take (32 * s)))
    have G5 := Lib.hid H7.out.1.cells
    go_wp2_with fail
    go_region_law (refine step_copy_only rfl (.tmp 38) (.tmp 40) 33 33 rfl 5 Tryd.underlying33 (by kernel_rfl) (some ⟨C, n * 258, none⟩) (some ⟨w.heap.size, 1, none⟩) (32 * s) 256 256 256 (by simp [Act.eval, Act.put]) (by simp [Act.eval, Act.put]) C (n * 258) ((M.set n { M.getD n default with hurt := (M.getD n default).hurt }).flatMap cellV) 86 G5.out (u8s (b.take (32 * s))) G1.out (fun _ => ⟨rfl, ⟨w.heap.size, 1, none⟩, rfl, G3.out⟩) G2.out G4.out ?_; intro w4 hb4 hg4 hs4)
    have hd := store_done (w := w) (s := s) H7.out.1 hp' Hf.out (H7.out.2.2) Hb.out hs hb4 hg4 (if_neg h8).symm
    clear hb4 hg4 hs4 G1 G2 G3 G4 G5
    have HD := Lib.hid hd
    clear hd
    go_wp2_with fail
    go_end0
    exact ⟨rfl, by unfold storedHu; rw [if_neg (fun e => h8 e.1)]; exact HD.out⟩
end
end Go.Proofs.YtgjdoiblgbdebaaDoor
