/- A disk's small functions: is it one, has it such a block, is it up. -/
import Derived.Test.YtgjdoiblgbdebaaDoorDevMem
import Derived.LaidEqlPtr
namespace Go.Proofs.YtgjdoiblgbdebaaDoor
open Go.RowKit
/-- No disk: nil, or one that New did not tell. -/
def NoDev (w : World) (v : Value) : Prop := v = .pointer none ∨ ∃ h, v = .pointer (some ⟨h, 0, none⟩) ∧ w.cell? ⟨h, 3, none⟩ = some (.pointer none)
theorem infoDisk : ∃ j, Tryd.prog.info? 62 = some j := Option.isSome_iff_exists.1 (by kernel_rfl)
theorem eqPtr (a : Addr) (w : World) : (binOp .eql 25 (.pointer (some a)) (.pointer (some a))).run Tryd.prog w = .ok (.bool true) w := by
  obtain ⟨j, hj⟩ := infoDisk
  exact run_eql_ptr_same w a Tryd.underlying25 hj
theorem eqNonePtr (a : Addr) (w : World) : (binOp .eql 25 (.pointer none) (.pointer (some a))).run Tryd.prog w = .ok (.bool false) w := by
  have h : ∀ d : Nat, (Op.equalIn (d + 1) 25 (.pointer none) (.pointer (some a))).run Tryd.prog w = .ok false w := fun d => by
    simp [Op.equalIn, run_underlying Tryd.underlying25]
  simp only [binOp]
  simp [Op.equal, Op.maxDepth, h 9999]
set_option maxRecDepth 100000 in
theorem told_any (w : World) (h : Nat) (c3 : w.cell? ⟨h, 3, none⟩ = some (.pointer (some ⟨h, 0, none⟩))) :
    Calls Tryd.prog 52 #[.pointer (some ⟨h, 0, none⟩)] w fun e w' => e = .returned (.bool true) ∧ w = w' := by
  have hq := eqPtr
  go_enter Tryd.func52, Tryd.ntmps52
  go_wp2
  go_ret
  exact ⟨rfl, rfl⟩
set_option maxRecDepth 100000 in
theorem told_no (w : World) (v : Value) (hv : NoDev w v) :
    Calls Tryd.prog 52 #[v] w fun e w' => e = .returned (.bool false) ∧ w = w' := by
  rcases hv with rfl | ⟨h, rfl, c3⟩
  · go_enter Tryd.func52, Tryd.ntmps52
    go_wp2
    go_ret
    exact ⟨rfl, rfl⟩
  · have hq := eqNonePtr
    go_enter Tryd.func52, Tryd.ntmps52
    go_wp2
    go_ret
    exact ⟨rfl, rfl⟩
section
variable {w : World} {T : Nat → Prop} {h C : Nat} {wv : Value} {hu tu cr : Nat} {M : List MCell} {ws : List (Nat × List Int)} {left : Int} {dn : Bool}
def hasB (M : List MCell) (n : Int) : Bool := decide (0 ≤ n ∧ n < M.length)
set_option maxRecDepth 100000 in
theorem has_any (k : DevR w T h C wv hu tu cr M ws left dn) (n : Int) :
    Calls Tryd.prog 53 #[.pointer (some ⟨h, 0, none⟩), .int .i64 n] w fun e w' => e = .returned (.bool (hasB M n)) ∧ w = w' := by
  obtain ⟨c0, c1, c2, c3, c4, c5, c6, c7⟩ := k.cell8
  have Hm := Lib.hid k.many
  clear k c0 c1 c2 c5 c6 c7
  have hE := Lib.hid (show hasB M n = decide (0 ≤ n ∧ n < (M.length : Int)) from rfl)
  by_cases h0 : 0 ≤ n
  · by_cases h1 : n < (M.length : Int)
    · go_enter Tryd.func53, Tryd.ntmps53
      go_wp2_with fail
      refine (told_any _ h c3).mono ?_
      rintro e w' ⟨rfl, rfl⟩
      go_wp2_with fail
      go_ret
      exact ⟨ret_bool (by rw [hE.out]; exact (decide_eq_true ⟨by omega, by omega⟩).symm), rfl⟩
    · go_enter Tryd.func53, Tryd.ntmps53
      go_wp2_with fail
      refine (told_any _ h c3).mono ?_
      rintro e w' ⟨rfl, rfl⟩
      go_wp2_with fail
      go_ret
      exact ⟨ret_bool (by rw [hE.out]; simp only [decide_eq_decide]; omega), rfl⟩
  · go_enter Tryd.func53, Tryd.ntmps53
    go_wp2_with fail
    refine (told_any _ h c3).mono ?_
    rintro e w' ⟨rfl, rfl⟩
    go_wp2_with fail
    go_ret
    exact ⟨ret_bool (by rw [hE.out]; exact (decide_eq_false (by omega)).symm), rfl⟩
set_option maxRecDepth 100000 in
theorem has_no (v : Value) (hv : NoDev w v) (n : Int) :
    Calls Tryd.prog 53 #[v, .int .i64 n] w fun e w' => e = .returned (.bool false) ∧ w = w' := by
  have HT := Lib.hid (told_no w v hv)
  go_enter Tryd.func53, Tryd.ntmps53
  go_wp2_with fail
  refine HT.out.mono ?_
  rintro e w' ⟨rfl, rfl⟩
  go_wp2_with fail
  go_ret
  exact ⟨rfl, rfl⟩
def upE (dn : Bool) : DErr := if dn then .dn else .ok
set_option maxRecDepth 100000 in
theorem up_any (σ : SenD) (hG : GlD σ w) (k : DevR w T h C wv hu tu cr M ws left dn) :
    Calls Tryd.prog 48 #[.pointer (some ⟨h, 0, none⟩)] w fun e w' => e = .returned ((upE dn).val σ) ∧ w = w' := by
  obtain ⟨c0, c1, c2, c3, c4, c5, c6, c7⟩ := k.cell8
  have g1 := hG.dn
  unfold errK at g1
  clear k c0 c1 c2 c4 c5 c6
  cases dn
  all_goals
    go_enter Tryd.func48, Tryd.ntmps48
    go_wp2_with fail
    refine (told_any _ h c3).mono ?_
    rintro e w' ⟨rfl, rfl⟩
    go_wp2_with fail
    go_ret
    exact ⟨rfl, rfl⟩
set_option maxRecDepth 100000 in
theorem up_no (σ : SenD) (hG : GlD σ w) (v : Value) (hv : NoDev w v) :
    Calls Tryd.prog 48 #[v] w fun e w' => e = .returned (DErr.ni.val σ) ∧ w = w' := by
  have HT := Lib.hid (told_no w v hv)
  have g1 := hG.ni
  unfold errK at g1
  go_enter Tryd.func48, Tryd.ntmps48
  go_wp2_with fail
  refine HT.out.mono ?_
  rintro e w' ⟨rfl, rfl⟩
  go_wp2_with fail
  go_ret
  exact ⟨rfl, rfl⟩
def reachE (dn : Bool) (M : List MCell) (n : Int) : DErr := if dn then .dn else if hasB M n then .ok else .bk
set_option maxRecDepth 100000 in
theorem reaches_any (σ : SenD) (hG : GlD σ w) (k : DevR w T h C wv hu tu cr M ws left dn) (n : Int) :
    Calls Tryd.prog 57 #[.pointer (some ⟨h, 0, none⟩), .int .i64 n] w fun e w' => e = .returned ((reachE dn M n).val σ) ∧ w = w' := by
  have HU := Lib.hid (up_any σ hG k)
  have HH := Lib.hid (has_any k n)
  have g1 := hG.bk
  unfold errK at g1
  clear k
  cases dn with
  | true =>
    go_enter Tryd.func57, Tryd.ntmps57
    go_wp2_with fail
    refine HU.out.mono ?_
    rintro e w' ⟨rfl, rfl⟩
    unfold upE DErr.val errK
    go_wp2_with fail
    go_ret
    exact ⟨rfl, rfl⟩
  | false =>
    unfold reachE
    cases hq : hasB M n
    all_goals
      rw [hq] at HH
      go_enter Tryd.func57, Tryd.ntmps57
      go_wp2_with fail
      refine HU.out.mono ?_
      rintro e w' ⟨rfl, rfl⟩
      unfold upE DErr.val errK
      go_wp2_with fail
      refine HH.out.mono ?_
      rintro e w' ⟨rfl, rfl⟩
      go_wp2_with fail
      go_ret
      exact ⟨rfl, rfl⟩
set_option maxRecDepth 100000 in
theorem reaches_no (σ : SenD) (hG : GlD σ w) (v : Value) (hv : NoDev w v) (n : Int) :
    Calls Tryd.prog 57 #[v, .int .i64 n] w fun e w' => e = .returned (DErr.ni.val σ) ∧ w = w' := by
  have HU := Lib.hid (up_no σ hG v hv)
  go_enter Tryd.func57, Tryd.ntmps57
  go_wp2_with fail
  refine HU.out.mono ?_
  rintro e w' ⟨rfl, rfl⟩
  unfold DErr.val errK
  go_wp2_with fail
  go_ret
  exact ⟨rfl, rfl⟩
def takesE (dn : Bool) (M : List MCell) (n : Int) (l : Nat) : DErr := if dn then .dn else if hasB M n then (if 256 < l then .lo else .ok) else .bk
set_option maxRecDepth 100000 in
theorem takes_any (σ : SenD) (hG : GlD σ w) (k : DevR w T h C wv hu tu cr M ws left dn) (n : Int) (A : Option Addr) (l c : Nat) (hl : l ≤ 140737488351232) :
    Calls Tryd.prog 43 #[.pointer (some ⟨h, 0, none⟩), .int .i64 n, .slice A l c] w fun e w' => e = .returned ((takesE dn M n l).val σ) ∧ w = w' := by
  have HU := Lib.hid (reaches_any σ hG k n)
  have g1 := hG.lo
  unfold errK at g1
  clear k
  unfold takesE
  unfold reachE at HU
  cases dn with
  | true =>
    go_enter Tryd.func43, Tryd.ntmps43
    go_wp2_with fail
    refine HU.out.mono ?_
    rintro e w' ⟨rfl, rfl⟩
    simp only [if_true]
    unfold DErr.val errK
    go_wp2_with fail
    go_ret
    exact ⟨rfl, rfl⟩
  | false =>
    cases hq : hasB M n with
    | false =>
      rw [hq] at HU
      go_enter Tryd.func43, Tryd.ntmps43
      go_wp2_with fail
      refine HU.out.mono ?_
      rintro e w' ⟨rfl, rfl⟩
      simp only [Bool.false_eq_true, if_false]
      unfold DErr.val errK
      go_wp2_with fail
      go_ret
      exact ⟨rfl, rfl⟩
    | true =>
      rw [hq] at HU
      by_cases h1 : 256 < l
      · rw [if_neg (by decide), if_pos rfl, if_pos h1]
        have h2 : (256 : Int) < (l : Int) := by omega
        go_enter Tryd.func43, Tryd.ntmps43
        go_wp2_with fail
        refine HU.out.mono ?_
        rintro e w' ⟨rfl, rfl⟩
        simp only [Bool.false_eq_true, if_false, if_true]
        unfold DErr.val errK
        go_wp2_with fail
        go_ret
        exact ⟨rfl, rfl⟩
      · rw [if_neg (by decide), if_pos rfl, if_neg h1]
        have h2 : ¬ (256 : Int) < (l : Int) := by omega
        go_enter Tryd.func43, Tryd.ntmps43
        go_wp2_with fail
        refine HU.out.mono ?_
        rintro e w' ⟨rfl, rfl⟩
        simp only [Bool.false_eq_true, if_false, if_true]
        unfold DErr.val
        go_wp2_with fail
        go_ret
        exact ⟨rfl, rfl⟩
set_option maxRecDepth 100000 in
theorem takes_no (σ : SenD) (hG : GlD σ w) (v : Value) (hv : NoDev w v) (n : Int) (b : Value) :
    Calls Tryd.prog 43 #[v, .int .i64 n, b] w fun e w' => e = .returned (DErr.ni.val σ) ∧ w = w' := by
  have HU := Lib.hid (reaches_no σ hG v hv n)
  go_enter Tryd.func43, Tryd.ntmps43
  go_wp2_with fail
  refine HU.out.mono ?_
  rintro e w' ⟨rfl, rfl⟩
  unfold DErr.val errK
  go_wp2_with fail
  go_ret
  exact ⟨rfl, rfl⟩
/-- Of what a disk has only its own cells turned. -/
theorem DevR.own8 (k : DevR w T h C wv hu tu cr M ws left dn) {w' : World} {hu' tu' cr' : Nat} {left' : Int} {dn' : Bool} (hs : w'.heap.size = w.heap.size) (ho : ∀ b, b ≠ h → w'.heap[b]? = w.heap[b]?)
    (hb : BlockIs w' h 62 #[.int .i64 (hu' : Int), .int .i64 (tu' : Int), .int .i64 (cr' : Int), .pointer (some ⟨h, 0, none⟩), .slice (some ⟨C, 0, none⟩) M.length M.length, wv, .int .i64 left', .bool dn']) : DevR w' T h C wv hu' tu' cr' M ws left' dn' :=
  ⟨fun j hj => by rw [hs]; exact k.foot j hj, k.self, k.tc, k.ne, hb, k.cells.keep (ho _ k.ne), own_keep k.own (fun b hb => ho b (fun e => k.off (e ▸ hb))), k.off, k.offC, k.mem, k.mb, k.many, k.wb⟩
theorem set_size (w : World) (a : Addr) (v : Value) : (w.setCell a v).heap.size = w.heap.size := by simp [World.setCell]
theorem set_other (w : World) (b i : Nat) (v : Value) (j : Nat) (hj : j ≠ b) : (w.setCell ⟨b, i, none⟩ v).heap[j]? = w.heap[j]? := Below.heap_setCell w ⟨b, i, none⟩ v j hj
/-- A disk goes down. -/
theorem DevR.falls (k : DevR w T h C wv hu tu cr M ws left dn) : DevR ((w.setCell ⟨h, 7, none⟩ (.bool true)).setCell ⟨h, 2, none⟩ (.int .i64 ((cr + 1 : Nat) : Int))) T h C wv hu tu (cr + 1) M ws left true :=
  k.own8 (by rw [set_size, set_size]) (fun b hb => by rw [set_other _ _ _ _ _ hb, set_other _ _ _ _ _ hb]) ((k.blk.set1 7 (.bool true)).set1 2 (.int .i64 ((cr + 1 : Nat) : Int)))
set_option maxRecDepth 100000 in
theorem fall_any (k : DevR w T h C wv hu tu cr M ws left dn) (hc : cr ≤ 1000000000) :
    Calls Tryd.prog 54 #[.pointer (some ⟨h, 0, none⟩)] w fun e w' => e = .returned (.tuple #[]) ∧ w' = (w.setCell ⟨h, 7, none⟩ (.bool true)).setCell ⟨h, 2, none⟩ (.int .i64 ((cr + 1 : Nat) : Int)) := by
  obtain ⟨c0, c1, c2, c3, c4, c5, c6, c7⟩ := k.cell8
  have f2 := k.blk.free 2
  have f7 := k.blk.free 7
  clear k c0 c1 c3 c4 c5 c6
  go_enter Tryd.func54, Tryd.ntmps54
  go_wp2_with fail
  go_end0
  exact ⟨rfl, rfl⟩
end
end Go.Proofs.YtgjdoiblgbdebaaDoor
