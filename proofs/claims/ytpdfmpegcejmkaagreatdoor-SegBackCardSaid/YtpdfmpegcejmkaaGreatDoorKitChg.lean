/- The statements' own helpers: a number brought into a range; are two rows of bytes the same. -/
/- Blocks that are known whole; what grows. -/
/- errors.Is, its look-ups at errors of errors.New's make: one of them, and another one. -/
/- errors.Is at a flaw of a block, whose cause is the one asked for, or another one. -/
/- What may turn: a set of blocks, which grows by what is new. -/
import Derived.Test.YtpdfmpegcejmkaaGreatDoorKitBase
import Derived.Maps.AppendAt
import Derived.Test.YtpdfmpegcejmkaaGreatDoorChecked
import Derived.LaidEql
import Derived.Stop.Asserts
import Derived.RowKitTokens
namespace Go.Proofs.YtpdfmpegcejmkaaGreatDoor
open Go.RowKit
theorem ret_bool {a b : Bool} (h : a = b) : Ending.returned (.bool a) = .returned (.bool b) := by rw [h]
theorem pick_neg (x n : Int) (hn : 0 < n) (h : x.tmod n < 0) : x.tmod n + n = x % n := by
  have h1 := Int.tmod_eq_emod (a := x) (b := n)
  have h2 := Int.emod_nonneg x (show n ≠ 0 by omega)
  have h3 := Int.emod_lt_of_pos x hn
  by_cases hc : 0 ≤ x ∨ n ∣ x
  · rw [if_pos hc] at h1; omega
  · rw [if_neg hc] at h1; omega
theorem pick_pos (x n : Int) (hn : 0 < n) (h : ¬ x.tmod n < 0) : x.tmod n = x % n := by
  have h1 := Int.tmod_eq_emod (a := x) (b := n)
  have h2 := Int.emod_nonneg x (show n ≠ 0 by omega)
  have h3 := Int.emod_lt_of_pos x hn
  by_cases hc : 0 ≤ x ∨ n ∣ x
  · rw [if_pos hc] at h1; omega
  · rw [if_neg hc] at h1; omega
theorem tmod_bd (x n : Int) (hn : 0 < n) : -n < x.tmod n ∧ x.tmod n < n := by
  have h1 := Int.tmod_eq_emod (a := x) (b := n)
  have h2 := Int.emod_nonneg x (show n ≠ 0 by omega)
  have h3 := Int.emod_lt_of_pos x hn
  by_cases hc : 0 ≤ x ∨ n ∣ x
  · rw [if_pos hc] at h1; omega
  · rw [if_neg hc] at h1
    by_cases h0 : x % n = 0
    · exact absurd (.inr (Int.dvd_of_emod_eq_zero h0)) hc
    · omega
def sameB (xs ys : List Int) : Bool := decide (xs = ys)
theorem same_len (xs ys : List Int) (h : xs.length ≠ ys.length) : sameB xs ys = false := by unfold sameB; exact decide_eq_false (fun e => h (by rw [e]))
theorem same_all (xs ys : List Int) (k : Nat) (h : xs.take k = ys.take k) (hx : k = xs.length) (hy : xs.length = ys.length) : sameB xs ys = true := by
  unfold sameB; rw [hx, List.take_length, hy, List.take_length] at h; exact decide_eq_true h
theorem same_not (xs ys : List Int) (k : Nat) (_ : k < xs.length) (_ : k < ys.length) (h : (xs.getD k 0 != ys.getD k 0) = true) : sameB xs ys = false := by
  unfold sameB; refine decide_eq_false (fun e => ?_); subst e; simp at h
theorem same_next (xs ys : List Int) (k : Nat) (hx : k < xs.length) (hy : k < ys.length) (hp : xs.take k = ys.take k) (h : (xs.getD k 0 != ys.getD k 0) = false) : xs.take (k + 1) = ys.take (k + 1) := by
  rw [List.take_add_one, List.take_add_one, hp, List.getElem?_eq_getElem hx, List.getElem?_eq_getElem hy]
  simp only [List.getD_eq_getElem?_getD, List.getElem?_eq_getElem hx, List.getElem?_eq_getElem hy, Option.getD_some] at h
  have : xs[k] = ys[k] := by simpa using h
  rw [this]
set_option maxRecDepth 100000 in
set_option maxHeartbeats 1000000 in
theorem sameBytes_any (xs ys : List Int) (A B : Option Addr) (ca cb : Nat) (w : World) (ha : BytesAt w A xs) (hb : BytesAt w B ys) (_hx : xs.length ≤ 9223372036854775807) :
    Calls Tryz.prog 36 #[.slice A xs.length ca, .slice B ys.length cb] w fun e w' => e = .returned (.bool (sameB xs ys)) ∧ ∃ n, w' = w.drewN n := by
  by_cases hl : xs.length = ys.length
  · have hne : ((xs.length : Int) != (ys.length : Int)) = false := by rw [hl]; simp
    have Hl := Lib.hid hl; clear hl
    go_enter Tryz.func36, Tryz.ntmps36
    go_wp2_with fail
    go_loopg [5] xs.length (fun g i wx => (∃ nq, wx = w.drewN nq) ∧ ∃ k : Nat, k ≤ xs.length ∧ g = xs.length - k ∧ i = .int .i64 (k : Int) ∧ Hid (xs.take k = ys.take k))
    case atStart => exact ⟨⟨0, rfl⟩, 0, by omega, rfl, rfl, Lib.hid rfl⟩
    case round =>
      obtain ⟨⟨nq, rfl⟩, k, hk, hg, rfl, hp⟩ := hrel
      have Hg := Lib.hid hg; clear hg
      by_cases hlt : k < xs.length
      · have hly : k < ys.length := by have := Hl.out; omega
        obtain ⟨b1, o1, rfl⟩ := ha.some_ (by intro e; simp [e] at hlt)
        obtain ⟨b2, o2, rfl⟩ := hb.some_ (by intro e; simp [e] at hly)
        have c1 := ha.one k hlt
        have c2 := hb.one k hly
        have Hs : ∀ x y, xs.getD k 0 = x → ys.getD k 0 = y → Hid (((x != y) = true → sameB xs ys = false) ∧ ((x != y) = false → xs.take (k + 1) = ys.take (k + 1))) := fun x y h1 h2 =>
          Lib.hid ⟨fun h => same_not xs ys k hlt hly (by rw [h1, h2]; exact h), fun h => same_next xs ys k hlt hly hp.out (by rw [h1, h2]; exact h)⟩
        generalize xs.getD k 0 = x at c1 Hs
        generalize ys.getD k 0 = y at c2 Hs
        have Hs := Hs x y rfl rfl
        go_wp2_with fail
        go_quiet (fail)
        go_wp2_with fail
        · go_ret
          exact ⟨ret_bool (Hs.out.1 (by assumption)).symm, _, World.drewN_drewN _ _ _⟩
        · go_roundg (xs.length - (k + 1))
          case measure => rw [Hg.out]; omega
          case rel => exact ⟨⟨_, rfl⟩, k + 1, by omega, rfl, by go_num, Lib.hid (Hs.out.2 (by assumption))⟩
      · have hkk : k = xs.length := by omega
        have Hk := Lib.hid hkk; clear hkk
        go_wp2_with fail
        go_ret
        exact ⟨ret_bool (same_all xs ys k hp.out Hk.out Hl.out).symm, _, rfl⟩
  · have hne : ((xs.length : Int) != (ys.length : Int)) = true := by simp; omega
    have Hl := Lib.hid hl; clear hl
    go_enter Tryz.func36, Tryz.ntmps36
    go_wp2_with fail
    go_ret
    exact ⟨ret_bool (same_len xs ys Hl.out).symm, 0, rfl⟩
end Go.Proofs.YtpdfmpegcejmkaaGreatDoor
namespace Go.Proofs.YtpdfmpegcejmkaaGreatDoor
open Go.RowKit
/-- Block g is just these cells, none frozen. -/
def BlockIs (w : World) (g : Nat) (t : TypeId) (cs : Array Value) : Prop := w.heap[g]? = some (.cells cs t (0, 0))
section
variable {w w' : World} {g : Nat} {t : TypeId} {cs : Array Value}
theorem BlockIs.lt (h : BlockIs w g t cs) : g < w.heap.size := (Array.getElem?_eq_some_iff.1 h).1
theorem BlockIs.cell (h : BlockIs w g t cs) (i : Nat) : w.cell? ⟨g, i, none⟩ = cs[i]? := cell_of_row w g i cs t (0, 0) h
theorem BlockIs.free (h : BlockIs w g t cs) (i : Nat) : w.frozen? ⟨g, i, none⟩ = false := by
  unfold BlockIs at h
  simp [World.frozen?, h]
theorem BlockIs.made (w : World) (t : TypeId) (cs : Array Value) : BlockIs (w.alloc (.cells cs t)) w.heap.size t cs := heap_alloc_new w _
theorem BlockIs.kept (h : BlockIs w g t cs) {row : Option Nat} (hg : w.grownBy w' row) (hne : some g ≠ row) : BlockIs w' g t cs := (hg.block g h.lt hne).trans h
theorem BlockIs.below {B : Nat} (h : BlockIs w g t cs) (hb : Below B w w') (hg : g < B) : BlockIs w' g t cs := (hb.block g hg).trans h
theorem BlockIs.set1 (h : BlockIs w g t cs) (i : Nat) (u : Value) : BlockIs (w.setCell ⟨g, i, none⟩ u) g t (cs.setIfInBounds i u) := by
  unfold BlockIs at h ⊢
  simp [World.setCell, Array.getElem?_modify, h]
end
theorem grown_drewN {w w' : World} {row : Option Nat} (h : w.grownBy w' row) (n : Nat) : w.grownBy (w'.drewN n) row := ⟨h.os, h.tape, h.output, h.size, h.block⟩
theorem grown_set {w w' : World} {g : Nat} (h : w.grownBy w' (some g)) {a : Addr} (ha : a.block = g ∨ w.heap.size ≤ a.block) (u : Value) : w.grownBy (w'.setCell a u) (some g) :=
  ⟨h.os, h.tape, h.output, by simpa [World.setCell] using h.size, fun k hk hne => (Below.heap_setCell w' a u k (by
    rintro rfl
    rcases ha with rfl | ha
    · exact hne rfl
    · omega)).trans (h.block k hk hne)⟩
theorem grown_at {w w' : World} {g : Nat} (h : w.grownBy w' (some g)) (i : Nat) (u : Value) : w.grownBy (w'.setCell ⟨g, i, none⟩ u) (some g) := grown_set h (a := ⟨g, i, none⟩) (.inl rfl) u
theorem grown_alloc {w w' : World} {row : Option Nat} (h : w.grownBy w' row) (o : Obj) : w.grownBy (w'.alloc o) row :=
  ⟨h.os, h.tape, h.output, Nat.le_trans h.size (by simp), fun k hk hne => (Below.heap_alloc w' o k (Nat.lt_of_lt_of_le hk h.size)).trans (h.block k hk hne)⟩
theorem grown_below {w w' : World} (h : Below w.heap.size w w') (row : Option Nat) : w.grownBy w' row := ⟨h.os, h.tape, h.output, h.size, fun k hk _ => h.block k hk⟩
/-- Only block g, and what is new since, has turned: all below a block ahead of both stays. -/
theorem below_grown {B : Nat} {a w w' : World} {g : Nat} (h : Below B a w) (hg : w.grownBy w' (some g)) (hB : B ≤ w.heap.size) (hBg : B ≤ g) : Below B a w' :=
  h.grown hg hB (fun k e => by cases e; exact hBg)
theorem BytesAt.far {w w' : World} {A : Option Addr} {zs : List Int} {row : Option Nat} (h : BytesAt w A zs) (hg : w.grownBy w' row) (hne : ∀ a, A = some a → some a.block ≠ row) : BytesAt w' A zs :=
  ⟨h.1, fun hz => by
    obtain ⟨b, off, e, hc⟩ := h.2 hz
    exact ⟨b, off, e, fun i hi => hg.cell (hc i hi) (hne ⟨b, off, none⟩ e)⟩⟩
end Go.Proofs.YtpdfmpegcejmkaaGreatDoor
namespace Go.Proofs.YtpdfmpegcejmkaaGreatDoor
open Go.RowKit Go.Extern.Stop Go.Stop Go.Extern
/-- An error of errors.New's make, at this address. -/
abbrev errK (a : Addr) : Value := .iface 288 (.pointer (some a))
theorem isTypeOf (v : Value) (w : World) : (Extern.ReflectliteType.typeOf #[.iface 288 v]).run Tryz.prog w = .ok (.iface 256 (.agg #[.pointer (some ⟨20, 288, none⟩)])) w := by kernel_rfl
theorem callTypeOf (v : Value) (w : World) : (callFunc 139 #[.iface 288 v]).run Tryz.prog w = .ok (.value (.iface 256 (.agg #[.pointer (some ⟨20, 288, none⟩)]))) w := by
  rw [@run_callFunc_extern Tryz.prog 139 _ Extern.ReflectliteType.typeOf Tryz.func139 (by kernel_rfl) (by kernel_rfl) (by kernel_rfl) (by kernel_rfl), isTypeOf]; rfl
theorem isComparable (w : World) : ((Extern.ReflectliteType.method fun t => do Rtype.noPackHeld "Comparable" t; pure (.bool (← typeInfo t).comparable)) #[.agg #[.pointer (some ⟨20, 288, none⟩)]]).run Tryz.prog w = .ok (.bool true) w := by kernel_rfl
theorem callComparable (w : World) : (callFunc 207 #[.agg #[.pointer (some ⟨20, 288, none⟩)]]).run Tryz.prog w = .ok (.value (.bool true)) w := by
  rw [@run_callFunc_extern Tryz.prog 207 _ (Extern.ReflectliteType.method fun t => do Rtype.noPackHeld "Comparable" t; pure (.bool (← typeInfo t).comparable)) Tryz.func207 (by kernel_rfl) (by kernel_rfl) (by kernel_rfl) (by kernel_rfl), isComparable]; rfl
theorem isMethodComparable (v : Value) (w : World) : (Go.method 420 256 v "Comparable").run Tryz.prog w = .ok (207, v) w := by kernel_rfl
theorem isComp : (Tryz.prog.info? 288).map (·.comparable) = some true := by kernel_rfl
theorem isSize : (Tryz.prog.info? 308).map (·.size) = some 1 := by kernel_rfl
theorem noIsE (v : Value) (xT : TypeId) (w : World) : (Instr.typeAssert (.iface 288 v) xT 267 true).run Tryz.prog w = .ok (.tuple #[.nilIface, .bool false]) w := run_typeAssert_lacksB Tryz.underlying267 (by kernel_rfl) (by kernel_rfl) v xT w
theorem noUnwrapE (v : Value) (xT : TypeId) (w : World) : (Instr.typeAssert (.iface 288 v) xT 263 true).run Tryz.prog w = .ok (.tuple #[.nilIface, .bool false]) w := run_typeAssert_lacksB Tryz.underlying263 (by kernel_rfl) (by kernel_rfl) v xT w
theorem noUnwrapsE (v : Value) (xT : TypeId) (w : World) : (Instr.typeAssert (.iface 288 v) xT 264 true).run Tryz.prog w = .ok (.tuple #[.nilIface, .bool false]) w := run_typeAssert_lacksB Tryz.underlying264 (by kernel_rfl) (by kernel_rfl) v xT w
def There (w : World) (a : Addr) : Prop := ∃ c t, w.heap[a.block]? = some (.cells c t (0, 0))
set_option maxRecDepth 100000 in
set_option maxHeartbeats 1000000 in
theorem is_ptr_same (b : Addr) (w : World) :
    Calls Tryz.prog 98 #[errK b, errK b] w fun e w' => e = .returned (.bool true) ∧ w = w' := by
  obtain ⟨i, hi, hcmp⟩ := Option.map_eq_some_iff.1 isComp
  obtain ⟨j, hj, hjs⟩ := Option.map_eq_some_iff.1 isSize
  have tT := callTypeOf
  have cT := callComparable
  have mR := isMethodComparable
  have heq := fun w => run_eql_iface_ptr_same (P := Tryz.prog) w b Tryz.underlying106 Tryz.underlying288 hi hcmp hj
  unfold errK
  go_enter Tryz.func98, Tryz.ntmps98
  go_wp2
  refine wp_loop_rounds 2 ?_
  rw [rounds_succ]
  go_wp2
  go_ret
  exact ⟨rfl, rfl⟩
set_option maxRecDepth 100000 in
set_option maxHeartbeats 1000000 in
theorem is_ptr_other (a b : Addr) (w : World) (hne : a ≠ b) (ha : There w a) (hb : There w b) :
    Calls Tryz.prog 98 #[errK a, errK b] w fun e w' => e = .returned (.bool false) ∧ w = w' := by
  obtain ⟨i, hi, hcmp⟩ := Option.map_eq_some_iff.1 isComp
  obtain ⟨j, hj, hjs⟩ := Option.map_eq_some_iff.1 isSize
  obtain ⟨ca, ta, ha⟩ := ha
  obtain ⟨cb, tb, hb⟩ := hb
  have tT := callTypeOf
  have cT := callComparable
  have mR := isMethodComparable
  have nE := noIsE
  have nU := noUnwrapE
  have nUs := noUnwrapsE
  have heq := run_eql_iface_ptr_other (P := Tryz.prog) w Tryz.underlying106 Tryz.underlying288 hi hcmp hj (by rw [hjs]; decide) hne ha hb
  clear ha hb
  unfold errK
  go_enter Tryz.func98, Tryz.ntmps98
  go_wp2
  refine wp_loop_rounds 2 ?_
  rw [rounds_succ]
  go_wp2
  go_ret
  exact ⟨rfl, rfl⟩
theorem There.lt {w : World} {a : Addr} (h : There w a) : a.block < w.heap.size := by
  obtain ⟨c, t, h⟩ := h
  exact (Array.getElem?_eq_some_iff.1 h).1
theorem There.keep {w w' : World} {a : Addr} (h : There w a) (hk : w'.heap[a.block]? = w.heap[a.block]?) : There w' a := by
  obtain ⟨c, t, h⟩ := h
  exact ⟨c, t, hk.trans h⟩
theorem There.below {w w' : World} {a : Addr} (h : There w a) (hb : Below w.heap.size w w') : There w' a := h.keep (hb.block _ h.lt)
end Go.Proofs.YtpdfmpegcejmkaaGreatDoor
namespace Go.Proofs.YtpdfmpegcejmkaaGreatDoor
open Go.RowKit Go.Extern.Stop Go.Stop Go.Extern
theorem noIsUF (v : Value) (xT : TypeId) (w : World) : (Instr.typeAssert (.iface 277 v) xT 267 true).run Tryz.prog w = .ok (.tuple #[.nilIface, .bool false]) w := run_typeAssert_lacksB Tryz.underlying267 (by kernel_rfl) (by kernel_rfl) v xT w
theorem hasUnwrapUF (v : Value) (xT : TypeId) (w : World) : (Instr.typeAssert (.iface 277 v) xT 263 true).run Tryz.prog w = .ok (.tuple #[.iface 277 v, .bool true]) w := run_typeAssert_hasB Tryz.underlying263 (by kernel_rfl) v xT w
theorem methodUnwrapUF (v : Value) (w : World) : (Go.method 420 277 v "Unwrap").run Tryz.prog w = .ok (217, v) w := by kernel_rfl
set_option maxRecDepth 100000 in
set_option maxHeartbeats 1000000 in
theorem uis_same (pos : Int) (b : Addr) (w : World) :
    Calls Tryz.prog 98 #[.iface 277 (.agg #[.int .i64 pos, .iface 288 (.pointer (some b))]), .iface 288 (.pointer (some b))] w fun e w' => e = .returned (.bool true) ∧ Below w.heap.size w w' := by
  obtain ⟨i, hi, hcmp⟩ := Option.map_eq_some_iff.1 isComp
  obtain ⟨j, hj, hjs⟩ := Option.map_eq_some_iff.1 isSize
  have tT := callTypeOf
  have cT := callComparable
  have mR := isMethodComparable
  have nW := noIsUF
  have uW := hasUnwrapUF
  have mU := methodUnwrapUF
  have heq := fun w => run_eql_iface_ptr_same (P := Tryz.prog) w b Tryz.underlying106 Tryz.underlying288 hi hcmp hj
  have hty := fun (w : World) => run_eql_iface_types (P := Tryz.prog) 277 288 (.agg #[.int .i64 pos, .iface 288 (.pointer (some b))]) (.pointer (some b)) Tryz.underlying106 (by decide) w
  go_enter Tryz.func98, Tryz.ntmps98
  go_wp2
  refine wp_loop_rounds 2 ?_
  rw [rounds_succ]
  go_wp2
  rw [rounds_succ]
  go_wp2
  go_ret
  exact ⟨rfl, (Below.refl _ _).alloc (Nat.le_refl _) _⟩
set_option maxRecDepth 100000 in
set_option maxHeartbeats 1000000 in
theorem uis_other (pos : Int) (a b : Addr) (w : World) (hne : a ≠ b) (ha : ∃ c t, w.heap[a.block]? = some (.cells c t (0, 0))) (hb : ∃ c t, w.heap[b.block]? = some (.cells c t (0, 0))) :
    Calls Tryz.prog 98 #[.iface 277 (.agg #[.int .i64 pos, .iface 288 (.pointer (some a))]), .iface 288 (.pointer (some b))] w fun e w' => e = .returned (.bool false) ∧ Below w.heap.size w w' := by
  obtain ⟨i, hi, hcmp⟩ := Option.map_eq_some_iff.1 isComp
  obtain ⟨j, hj, hjs⟩ := Option.map_eq_some_iff.1 isSize
  obtain ⟨ca, ta, ha⟩ := ha
  obtain ⟨cb, tb, hb⟩ := hb
  have tT := callTypeOf
  have cT := callComparable
  have mR := isMethodComparable
  have nW := noIsUF
  have nE := noIsE
  have nU := noUnwrapE
  have nUs := noUnwrapsE
  have uW := hasUnwrapUF
  have mU := methodUnwrapUF
  have hbn := below_new w (.cells #[.int .i64 pos, .iface 288 (.pointer (some a))] 277)
  have heq := run_eql_iface_ptr_other (P := Tryz.prog) (w.alloc (.cells #[.int .i64 pos, .iface 288 (.pointer (some a))] 277)) Tryz.underlying106 Tryz.underlying288 hi hcmp hj (by rw [hjs]; decide) hne ((hbn.block _ (Array.getElem?_eq_some_iff.1 ha).1).trans ha) ((hbn.block _ (Array.getElem?_eq_some_iff.1 hb).1).trans hb)
  have hty := fun (w : World) => run_eql_iface_types (P := Tryz.prog) 277 288 (.agg #[.int .i64 pos, .iface 288 (.pointer (some a))]) (.pointer (some b)) Tryz.underlying106 (by decide) w
  clear ha hb
  go_enter Tryz.func98, Tryz.ntmps98
  go_wp2
  refine wp_loop_rounds 2 ?_
  rw [rounds_succ]
  go_wp2
  rw [rounds_succ]
  go_wp2
  go_ret
  exact ⟨rfl, hbn⟩
end Go.Proofs.YtpdfmpegcejmkaaGreatDoor
namespace Go.Proofs.YtpdfmpegcejmkaaGreatDoor
open Go.RowKit
/-- S, and what is new. -/
def grow (S : Nat → Prop) (w w' : World) : Nat → Prop := fun k => S k ∨ (w.heap.size ≤ k ∧ k < w'.heap.size)
theorem grow_trans {S : Nat → Prop} {w w1 w2 : World} (h1 : w.heap.size ≤ w1.heap.size) (h2 : w1.heap.size ≤ w2.heap.size) : ∀ k, grow (grow S w w1) w1 w2 k → grow S w w2 k := by
  rintro k ((h | h) | h)
  · exact .inl h
  · exact .inr ⟨h.1, by omega⟩
  · exact .inr ⟨by omega, h.2⟩
/-- Only blocks of T, and new ones, have turned. -/
structure Chg (T : Nat → Prop) (w w' : World) : Prop where
  os : w'.os = w.os
  tape : w'.tape = w.tape
  output : w'.output = w.output
  size : w.heap.size ≤ w'.heap.size
  block : ∀ k, k < w.heap.size → ¬ T k → w'.heap[k]? = w.heap[k]?
theorem Chg.refl (T : Nat → Prop) (w : World) : Chg T w w := ⟨rfl, rfl, rfl, Nat.le_refl _, fun _ _ _ => rfl⟩
theorem Chg.trans {T : Nat → Prop} {w w1 w2 : World} (h : Chg T w w1) (k : Chg (grow T w w1) w1 w2) : Chg T w w2 :=
  ⟨k.os.trans h.os, k.tape.trans h.tape, k.output.trans h.output, Nat.le_trans h.size k.size, fun j hj hT => (k.block j (Nat.lt_of_lt_of_le hj h.size) (by
    rintro (h1 | h1)
    · exact hT h1
    · omega)).trans (h.block j hj hT)⟩
theorem Chg.of_grown {T : Nat → Prop} {w w' : World} {row : Option Nat} (h : w.grownBy w' row) (hT : ∀ b, row = some b → T b) : Chg T w w' :=
  ⟨h.os, h.tape, h.output, h.size, fun j hj hn => h.block j hj (fun e => hn (hT j e.symm))⟩
theorem Chg.of_below {T : Nat → Prop} {w w' : World} (h : Below w.heap.size w w') : Chg T w w' := ⟨h.os, h.tape, h.output, h.size, fun j hj _ => h.block j hj⟩
theorem Chg.drewN {T : Nat → Prop} {w w' : World} (h : Chg T w w') (n : Nat) : Chg T w (w'.drewN n) := ⟨h.os, h.tape, h.output, h.size, h.block⟩
theorem Chg.below {T : Nat → Prop} {B : Nat} {a w w' : World} (h : Chg T w w') (hb : Below B a w) (hT : ∀ k, T k → B ≤ k) (hB : B ≤ w.heap.size) : Below B a w' :=
  ⟨h.os.trans hb.os, h.tape.trans hb.tape, h.output.trans hb.output, Nat.le_trans hb.size h.size, fun k hk => (h.block k (by omega) (fun e => by have := hT k e; omega)).trans (hb.block k hk)⟩
theorem Chg.set {T : Nat → Prop} {w w' : World} (h : Chg T w w') {b i : Nat} (hb : T b ∨ w.heap.size ≤ b) (v : Value) : Chg T w (w'.setCell ⟨b, i, none⟩ v) :=
  ⟨h.os, h.tape, h.output, by simpa [World.setCell] using h.size, fun k hk hT => (Below.heap_setCell w' ⟨b, i, none⟩ v k (by
    intro e
    have e : k = b := e
    rcases hb with hb | hb
    · exact hT (e ▸ hb)
    · omega)).trans (h.block k hk hT)⟩
theorem Chg.alloc {T : Nat → Prop} {w w' : World} (h : Chg T w w') (o : Obj) : Chg T w (w'.alloc o) :=
  ⟨h.os, h.tape, h.output, Nat.le_trans h.size (by simp), fun k hk hT => (Below.heap_alloc w' o k (Nat.lt_of_lt_of_le hk h.size)).trans (h.block k hk hT)⟩
theorem Chg.drew {T : Nat → Prop} {w w' : World} (h : Chg T w w') : Chg T w w'.drew := ⟨h.os, h.tape, h.output, h.size, h.block⟩
theorem Chg.mono {S T : Nat → Prop} {w w' : World} (h : Chg S w w') (hS : ∀ k, S k → T k) : Chg T w w' := ⟨h.os, h.tape, h.output, h.size, fun k hk hT => h.block k hk (fun e => hT (hS k e))⟩
theorem Chg.on {T : Nat → Prop} {w w1 w2 : World} (h : Chg T w w1) (hb : Below w1.heap.size w1 w2) : Chg T w w2 := h.trans (Chg.of_below hb)
theorem grow_old {S : Nat → Prop} {w w' : World} {k : Nat} (hk : k < w.heap.size) (h : grow S w w' k) : S k := by
  rcases h with h | h
  · exact h
  · omega
theorem grow_lt {S : Nat → Prop} {w w' : World} (hS : ∀ k, S k → k < w.heap.size) (hs : w.heap.size ≤ w'.heap.size) : ∀ k, grow S w w' k → k < w'.heap.size := by
  rintro k (h | h)
  · exact Nat.lt_of_lt_of_le (hS k h) hs
  · exact h.2
/-- Two steps: T grows twice. -/
theorem Chg.chain {T : Nat → Prop} {w w1 w2 : World} (h : Chg T w w1) (k : Chg (grow T w w1) w1 w2) : Chg T w w2 := h.trans k
/-- What is owned stays, where its block stays. -/
theorem own_keep {w w' : World} {B : Nat} {e : TypeId} {size n : Nat} {v : Value} {xs : List Value} (h : w.ownsRow B e size v n xs) (hk : ∀ b, v.ownBlock = some b → w'.heap[b]? = w.heap[b]?) : w'.ownsRow B e size v n xs := by
  refine ⟨h.1, ?_⟩
  rcases h.2 with h | ⟨g, cap, cur, h1, h2, h3, h4⟩
  · exact .inl h
  · exact .inr ⟨g, cap, cur, h1, h2, (hk g (by rw [h1]; rfl)).trans h3, h4⟩
theorem own_lt {w : World} {B : Nat} {e : TypeId} {size n : Nat} {v : Value} {xs : List Value} (h : w.ownsRow B e size v n xs) {b : Nat} (hb : v.ownBlock = some b) : b < w.heap.size := (h.lt b hb).2
theorem BlockIs.keep {w w' : World} {g : Nat} {t : TypeId} {cs : Array Value} (h : BlockIs w g t cs) (hk : w'.heap[g]? = w.heap[g]?) : BlockIs w' g t cs := hk.trans h
theorem BytesAt.hold {w w' : World} {A : Option Addr} {zs : List Int} (h : BytesAt w A zs) (hk : ∀ a, A = some a → w'.heap[a.block]? = w.heap[a.block]?) : BytesAt w' A zs :=
  ⟨h.1, fun hz => by
    obtain ⟨b, off, e, hc⟩ := h.2 hz
    exact ⟨b, off, e, fun i hi => (World.cell?_of_block (a := ⟨b, off + i, none⟩) (hk ⟨b, off, none⟩ e)).trans (hc i hi)⟩⟩
end Go.Proofs.YtpdfmpegcejmkaaGreatDoor
