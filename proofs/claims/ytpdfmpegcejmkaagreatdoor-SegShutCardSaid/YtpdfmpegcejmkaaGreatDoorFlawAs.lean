/- seg: whether an ident is one ahead; how there can be no such record; an entry's ident. -/
/- errors.Is at a flaw of a block, whose cause is the one asked for, or another one. -/
/- errors.As at a flaw of a block. -/
import Derived.Test.YtpdfmpegcejmkaaGreatDoorCodeRight
import Derived.Test.YtpdfmpegcejmkaaGreatDoorRef8Rec
import Derived.Test.YtpdfmpegcejmkaaGreatDoorSegIs
import Derived.LaidEql
import Derived.Stop.Asserts
import Derived.RowKitTokens
import Derived.Test.YtpdfmpegcejmkaaGreatDoorReadAs
namespace Go.Proofs.YtpdfmpegcejmkaaGreatDoor
open Go.RowKit
set_option maxRecDepth 100000 in
set_option maxHeartbeats 1000000 in
theorem gahead_any (w : World) (i : IdentI) (n : Int) (h0 : 0 ≤ n) (h1 : n ≤ 1099511627776 * 64) :
    Calls Tryz.prog 74 #[i.val, .int .i64 n] w fun e w' => e = .returned (.bool (decide (aheadI i n))) ∧ Below w.heap.size w w' := by
  obtain ⟨x, t, k⟩ := i
  have HK := Lib.hid (fun W => known_any W x t k)
  unfold identV at HK
  have HB := Lib.hid (And.intro (below_new w (.cells #[.int .i64 x, .int .i64 t, .int .i64 k] 26)) (BlockIs.made w 26 #[.int .i64 x, .int .i64 t, .int .i64 k]))
  by_cases hx : x = n - 1
  · have hE : decide (aheadI ⟨x, t, k⟩ n) = decide (knownI x t k) := by
      unfold aheadI
      simp only [hx, and_true]
    unfold IdentI.val
    simp only
    rw [hE]
    have hx1 : (x == n - 1) = true := by simp [hx]
    clear hx hE
    go_enter Tryz.func74, Tryz.ntmps74
    go_wp2_with (go_at_call 26; refine (HK.out _).mono ?_; rintro e w1 ⟨rfl, hb1⟩; have Hb := Lib.hid (HB.out.1.trans (hb1.mono HB.out.1.size)); clear hb1)
    go_ret
    exact ⟨rfl, Hb.out⟩
  · have hE : decide (aheadI ⟨x, t, k⟩ n) = false := decide_eq_false (fun h => hx h.2)
    unfold IdentI.val
    simp only
    rw [hE]
    have hx1 : (x == n - 1) = false := by simp [hx]
    clear hx hE
    go_enter Tryz.func74, Tryz.ntmps74
    go_wp2_with fail
    go_ret
    exact ⟨rfl, HB.out.1⟩
/-- Three cells are stored. -/
theorem BlockIs.put3 {w : World} {g : Nat} {t : TypeId} {a b c : Value} (h : BlockIs w g t #[a, b, c]) (x y z : Value) :
    BlockIs (((w.setCell ⟨g, 0, none⟩ x).setCell ⟨g, 1, none⟩ y).setCell ⟨g, 2, none⟩ z) g t #[x, y, z] ∧ w.grownBy (((w.setCell ⟨g, 0, none⟩ x).setCell ⟨g, 1, none⟩ y).setCell ⟨g, 2, none⟩ z) (some g) :=
  ⟨((h.set1 0 x).set1 1 y).set1 2 z, grown_at (grown_at (grown_at (World.grownBy.refl w (some g)) 0 x) 1 y) 2 z⟩
theorem BlockIs.three {w : World} {g : Nat} {t : TypeId} {a b c : Value} (h : BlockIs w g t #[a, b, c]) : w.cell? ⟨g, 0, none⟩ = some a ∧ w.cell? ⟨g, 1, none⟩ = some b ∧ w.cell? ⟨g, 2, none⟩ = some c ∧ w.frozen? ⟨g, 0, none⟩ = false ∧ w.frozen? ⟨g, 1, none⟩ = false ∧ w.frozen? ⟨g, 2, none⟩ = false :=
  ⟨h.cell 0, h.cell 1, h.cell 2, h.free 0, h.free 1, h.free 2⟩
/-- A record: an entry, and the ident ahead of it. -/
def recV (e : Ent) (A : Option Addr) (c : Nat) (a : IdentI) : Value := .agg #[.int .i64 e.index, .int .i64 e.term, .int .i64 e.kind, .slice A e.body.length c, .int .i64 a.idx, .int .i64 a.term, .int .i64 a.kind]
def SenQ.lack (σ : SenQ) (e : Ent) (a : IdentI) : Value := if rightB e = false then errK σ.en else if aheadI a e.index then .nilIface else errK σ.od
set_option maxRecDepth 100000 in
set_option maxHeartbeats 1000000 in
theorem rident_any (w : World) (e : Ent) (A : Option Addr) (c : Nat) (a : IdentI) :
    Calls Tryz.prog 68 #[recV e A c a] w fun r w' => r = .returned e.ident.val ∧ Below w.heap.size w w' := by
  have hb1 := below_new w (.cells #[.int .i64 e.index, .int .i64 e.term, .int .i64 e.kind, .slice A e.body.length c, .int .i64 a.idx, .int .i64 a.term, .int .i64 a.kind] 95)
  have hb2 := hb1.alloc hb1.size (.cells #[.int .i64 e.index, .int .i64 e.term, .int .i64 e.kind] 26)
  unfold recV IdentI.val Ent.ident
  go_enter Tryz.func68, Tryz.ntmps68
  go_wp2_with fail
  exact bodyPost_ret (v := .agg #[.int .i64 e.index, .int .i64 e.term, .int .i64 e.kind]) (by simp [results, Tryz.results68, go_sem]) rfl ⟨rfl, hb2⟩
set_option maxRecDepth 100000 in
set_option maxHeartbeats 1000000 in
theorem segIdent_any (w : World) (e : Ent) (A : Option Addr) (c : Nat) :
    Calls Tryz.prog 34 #[.agg #[.int .i64 e.index, .int .i64 e.term, .int .i64 e.kind, .slice A e.body.length c]] w fun r w' => r = .returned e.ident.val ∧ Below w.heap.size w w' := by
  have hb1 := below_new w (.cells #[.int .i64 e.index, .int .i64 e.term, .int .i64 e.kind, .slice A e.body.length c] 50)
  have hb2 := hb1.alloc hb1.size (.cells #[.int .i64 0, .int .i64 0, .int .i64 0] 26)
  have hB := BlockIs.made (w.alloc (.cells #[.int .i64 e.index, .int .i64 e.term, .int .i64 e.kind, .slice A e.body.length c] 50)) 26 #[.int .i64 0, .int .i64 0, .int .i64 0]
  have HR := Lib.hid (fun W => rident_any W e A c ⟨0, 0, 0⟩)
  unfold recV IdentI.val Ent.ident at HR
  unfold IdentI.val Ent.ident
  rw [World.size_alloc] at hB
  have HB := Lib.hid (And.intro hb2 hB)
  have Hw := Lib.hid (show ((w.alloc (.cells #[.int .i64 e.index, .int .i64 e.term, .int .i64 e.kind, .slice A e.body.length c] 50)).alloc (.cells #[.int .i64 0, .int .i64 0, .int .i64 0] 26)).heap.size = w.heap.size + 2 by simp)
  clear hb1 hb2 hB
  go_enter Tryz.func34, Tryz.ntmps34
  go_wp2_with fail
  refine (HR.out _).mono ?_
  rintro r w2 ⟨rfl, b2⟩
  have B2 := HB.out.2.below b2 (by have := Hw.out; omega)
  have Z := Lib.hid (B2.put3 (.int .i64 e.index) (.int .i64 e.term) (.int .i64 e.kind))
  have G2 := Lib.hid (HB.out.1.trans (b2.mono HB.out.1.size))
  obtain ⟨c0, c1, c2, f0, f1, f2⟩ := B2.three
  clear b2 B2 HR
  go_wp2_with fail
  clear c0 c1 c2 f0 f1 f2
  obtain ⟨z0, z1, z2, _⟩ := Z.out.1.three
  exact bodyPost_ret (v := .agg #[.int .i64 e.index, .int .i64 e.term, .int .i64 e.kind]) (by simp [results, Tryz.results34, go_sem, z0, z1, z2]) rfl ⟨rfl, below_grown G2.out Z.out.2 G2.out.size (by omega)⟩
set_option maxRecDepth 100000 in
set_option maxHeartbeats 1000000 in
theorem rlack_any (σ : SenQ) (w : World) (hG : GlQ σ w) (e : Ent) (A : Option Addr) (c : Nat) (hl : e.body.length ≤ 9223372036854775807) (a : IdentI) :
    Calls Tryz.prog 94 #[recV e A c a] w fun r w' => r = .returned (σ.lack e a) ∧ Below w.heap.size w w' := by
  have hb1 := below_new w (.cells #[.int .i64 e.index, .int .i64 e.term, .int .i64 e.kind, .slice A e.body.length c, .int .i64 a.idx, .int .i64 a.term, .int .i64 a.kind] 95)
  have HB := Lib.hid (And.intro hb1 (BlockIs.made w 95 #[.int .i64 e.index, .int .i64 e.term, .int .i64 e.kind, .slice A e.body.length c, .int .i64 a.idx, .int .i64 a.term, .int .i64 a.kind]))
  have HG := Lib.hid (hG.below hb1)
  have HR := Lib.hid (fun W => right_any W e A c hl)
  clear hb1 hG
  unfold recV
  by_cases hr : rightB e = false
  · rw [show σ.lack e a = errK σ.en by unfold SenQ.lack; rw [if_pos hr]]
    rw [hr] at HR
    clear hr
    unfold errK
    go_enter Tryz.func94, Tryz.ntmps94
    go_wp2_with fail
    refine (HR.out _).mono ?_
    rintro r w2 ⟨rfl, b2⟩
    have g0 := (HG.out.below b2).en
    have B2 := Lib.hid (HB.out.1.trans (b2.mono HB.out.1.size))
    unfold errK at g0
    clear b2 HR
    go_wp2_with fail
    go_ret
    exact ⟨rfl, B2.out⟩
  · have hr' : rightB e = true := by simpa using hr
    obtain ⟨⟨_, _⟩, ⟨i0, i1⟩, _⟩ := ent_right hr'
    have HA := Lib.hid (fun W => gahead_any W a e.index (by omega) (by omega))
    rw [hr'] at HR
    unfold IdentI.val at HA
    by_cases ha : aheadI a e.index
    · rw [show σ.lack e a = .nilIface by unfold SenQ.lack; rw [if_neg hr, if_pos ha]]
      rw [decide_eq_true ha] at HA
      clear hr hr' i0 i1 ha
      go_enter Tryz.func94, Tryz.ntmps94
      go_wp2_with fail
      refine (HR.out _).mono ?_
      rintro r w2 ⟨rfl, b2⟩
      have R2 := HB.out.2.below b2 HB.out.2.lt
      have c0 := R2.cell 0
      have c4 := R2.cell 4
      have c5 := R2.cell 5
      have c6 := R2.cell 6
      have B2 := Lib.hid (HB.out.1.trans (b2.mono HB.out.1.size))
      clear b2 HR R2
      go_wp2_with fail
      refine (HA.out _).mono ?_
      rintro r w3 ⟨rfl, b3⟩
      have B3 := Lib.hid (B2.out.trans (b3.mono B2.out.size))
      clear c0 c4 c5 c6 HA b3
      go_wp2_with fail
      go_ret
      exact ⟨rfl, B3.out⟩
    · rw [show σ.lack e a = errK σ.od by unfold SenQ.lack; rw [if_neg hr, if_neg ha]]
      rw [decide_eq_false ha] at HA
      clear hr hr' i0 i1 ha
      unfold errK
      go_enter Tryz.func94, Tryz.ntmps94
      go_wp2_with fail
      refine (HR.out _).mono ?_
      rintro r w2 ⟨rfl, b2⟩
      have R2 := HB.out.2.below b2 HB.out.2.lt
      have c0 := R2.cell 0
      have c4 := R2.cell 4
      have c5 := R2.cell 5
      have c6 := R2.cell 6
      have B2 := Lib.hid (HB.out.1.trans (b2.mono HB.out.1.size))
      have HG2 := Lib.hid (HG.out.below b2)
      clear b2 HR R2
      go_wp2_with fail
      refine (HA.out _).mono ?_
      rintro r w3 ⟨rfl, b3⟩
      have g0 := (HG2.out.below b3).od
      unfold errK at g0
      have B3 := Lib.hid (B2.out.trans (b3.mono B2.out.size))
      clear c0 c4 c5 c6 HA b3
      go_wp2_with fail
      go_ret
      exact ⟨rfl, B3.out⟩
end Go.Proofs.YtpdfmpegcejmkaaGreatDoor
namespace Go.Proofs.YtpdfmpegcejmkaaGreatDoor
open Go.RowKit Go.Extern.Stop Go.Stop Go.Extern
theorem noIsUF (v : Value) (xT : TypeId) (w : World) : (Instr.typeAssert (.iface 277 v) xT 267 true).run Tryz.prog w = .ok (.tuple #[.nilIface, .bool false]) w := run_typeAssert_lacksB Tryz.underlying267 (by kernel_rfl) (by kernel_rfl) v xT w
theorem hasUnwrapUF (v : Value) (xT : TypeId) (w : World) : (Instr.typeAssert (.iface 277 v) xT 263 true).run Tryz.prog w = .ok (.tuple #[.iface 277 v, .bool true]) w := run_typeAssert_hasB Tryz.underlying263 (by kernel_rfl) v xT w
theorem methodUnwrapUF (v : Value) (w : World) : (Go.method 420 277 v "Unwrap").run Tryz.prog w = .ok (217, v) w := by kernel_rfl
set_option maxRecDepth 100000 in
set_option maxHeartbeats 1000000 in
theorem uis_same (pos : Int) (b : Addr) (w : World) :
    Calls Tryz.prog 98 #[.iface 277 (.agg #[.int .i64 pos, .iface 288 (.pointer (some b))]), .iface 288 (.pointer (some b))] w fun e w' => e = .returned (.bool true) ∧ Below w.heap.size w w' := by
  obtain ⟨i, hi, hcmp⟩ := Option.map_eq_some_iff.1 isComp
  obtain ⟨j, hj, hjs⟩ := Option.map_eq_some_iff.1 isSize
  have tT := callTypeOf
  have cT := callComparable
  have mR := isMethodComparable
  have nW := noIsUF
  have uW := hasUnwrapUF
  have mU := methodUnwrapUF
  have heq := fun w => run_eql_iface_ptr_same (P := Tryz.prog) w b Tryz.underlying106 Tryz.underlying288 hi hcmp hj
  have hty := fun (w : World) => run_eql_iface_types (P := Tryz.prog) 277 288 (.agg #[.int .i64 pos, .iface 288 (.pointer (some b))]) (.pointer (some b)) Tryz.underlying106 (by decide) w
  go_enter Tryz.func98, Tryz.ntmps98
  go_wp2
  refine wp_loop_rounds 2 ?_
  rw [rounds_succ]
  go_wp2
  rw [rounds_succ]
  go_wp2
  go_ret
  exact ⟨rfl, (Below.refl _ _).alloc (Nat.le_refl _) _⟩
set_option maxRecDepth 100000 in
set_option maxHeartbeats 1000000 in
theorem uis_other (pos : Int) (a b : Addr) (w : World) (hne : a ≠ b) (ha : ∃ c t, w.heap[a.block]? = some (.cells c t (0, 0))) (hb : ∃ c t, w.heap[b.block]? = some (.cells c t (0, 0))) :
    Calls Tryz.prog 98 #[.iface 277 (.agg #[.int .i64 pos, .iface 288 (.pointer (some a))]), .iface 288 (.pointer (some b))] w fun e w' => e = .returned (.bool false) ∧ Below w.heap.size w w' := by
  obtain ⟨i, hi, hcmp⟩ := Option.map_eq_some_iff.1 isComp
  obtain ⟨j, hj, hjs⟩ := Option.map_eq_some_iff.1 isSize
  obtain ⟨ca, ta, ha⟩ := ha
  obtain ⟨cb, tb, hb⟩ := hb
  have tT := callTypeOf
  have cT := callComparable
  have mR := isMethodComparable
  have nW := noIsUF
  have nE := noIsE
  have nU := noUnwrapE
  have nUs := noUnwrapsE
  have uW := hasUnwrapUF
  have mU := methodUnwrapUF
  have hbn := below_new w (.cells #[.int .i64 pos, .iface 288 (.pointer (some a))] 277)
  have heq := run_eql_iface_ptr_other (P := Tryz.prog) (w.alloc (.cells #[.int .i64 pos, .iface 288 (.pointer (some a))] 277)) Tryz.underlying106 Tryz.underlying288 hi hcmp hj (by rw [hjs]; decide) hne ((hbn.block _ (Array.getElem?_eq_some_iff.1 ha).1).trans ha) ((hbn.block _ (Array.getElem?_eq_some_iff.1 hb).1).trans hb)
  have hty := fun (w : World) => run_eql_iface_types (P := Tryz.prog) 277 288 (.agg #[.int .i64 pos, .iface 288 (.pointer (some a))]) (.pointer (some b)) Tryz.underlying106 (by decide) w
  clear ha hb
  go_enter Tryz.func98, Tryz.ntmps98
  go_wp2
  refine wp_loop_rounds 2 ?_
  rw [rounds_succ]
  go_wp2
  rw [rounds_succ]
  go_wp2
  go_ret
  exact ⟨rfl, hbn⟩
end Go.Proofs.YtpdfmpegcejmkaaGreatDoor
namespace Go.Proofs.YtpdfmpegcejmkaaGreatDoor
open Go.RowKit Go.Extern.Stop Go.Stop Go.Extern
/-! closed facts on the model's entries for reflectlite, at this program's types -/
abbrev tyPU : Value := .pointer (some ⟨20, 278, none⟩)
abbrev tyFU : Value := .pointer (some ⟨20, 277, none⟩)
theorem asValueOfPU (t : Addr) (w : World) : (ReflectliteValue.unpack (.iface 278 (.pointer (some t)))).run Tryz.prog w
    = .ok (.agg #[tyPU, .pointer (some ⟨w.heap.size, 0, none⟩), .int .u64 150]) (w.alloc (.cells #[.pointer (some t)] 278)) := by kernel_rfl
theorem asTypePU (a : Addr) (w : World) : (ReflectliteValue.methodAny (ReflectliteValue.valueError "reflectlite.Value.Type" 0) (fun t _ _ _ => ReflectliteType.toType t) #[.agg #[tyPU, .pointer (some a), .int .u64 150]]).run Tryz.prog w
    = .ok (.iface 256 (.agg #[tyPU])) w := by kernel_rfl
theorem asKindPU (w : World) : ((ReflectliteType.abiMethod fun t => (fun a : Nat => Value.int IntKind.u8 (a : Int)) <$> Rtype.kind t) #[tyPU]).run Tryz.prog w = .ok (.int .u8 22) w := by kernel_rfl
theorem asKindFU (w : World) : ((ReflectliteType.abiMethod fun t => (fun a : Nat => Value.int IntKind.u8 (a : Int)) <$> Rtype.kind t) #[tyFU]).run Tryz.prog w = .ok (.int .u8 25) w := by kernel_rfl
theorem asValueOfFU (pos : Int) (a : Addr) (w : World) : (ReflectliteValue.unpack (.iface 277 (.agg #[.int .i64 pos, .iface 288 (.pointer (some a))]))).run Tryz.prog w
    = .ok (.agg #[tyFU, .pointer (some ⟨w.heap.size, 0, none⟩), .int .u64 153]) (w.alloc (.cells #[.int .i64 pos, .iface 288 (.pointer (some a))] 277)) := by kernel_rfl
theorem asPartsPU (a : Addr) (w : World) : (ReflectliteValue.parts (.agg #[tyPU, .pointer (some a), .int .u64 150])).run Tryz.prog w = .ok (some (278, a, 150)) w := by kernel_rfl
theorem asIsNilU (a p : Addr) (W : World) (ha : W.cell? a = some (.pointer (some p))) :
    (ReflectliteValue.method (ReflectliteValue.valueError "reflectlite.Value.IsNil" 0) ReflectliteValue.isNil #[.agg #[tyPU, .pointer (some a), .int .u64 150]]).run Tryz.prog W = .ok (.bool false) W := by
  rw [asRlm]
  simp only [Sem.run_bind, asPartsPU, Result.andThen]
  simp [ReflectliteValue.isNil, loadVar, isAgg, underlying, Tryz.underlying278, ha, Result.andThen]
theorem asElemPU (w : World) : (ReflectliteType.method ReflectliteType.elem #[.agg #[tyPU]]).run Tryz.prog w = .ok (.iface 256 (.agg #[tyFU])) w := by kernel_rfl
theorem asImplementsFU (w : World) : (ReflectliteType.relation "Implements" ReflectliteType.implements_ #[.agg #[tyFU], .iface 256 (.agg #[tyE])]).run Tryz.prog w = .ok (.bool true) w := by kernel_rfl
theorem asTypeOfFU (v : Value) (w : World) : (ReflectliteType.typeOf #[.iface 277 v]).run Tryz.prog w = .ok (.iface 256 (.agg #[tyFU])) w := by kernel_rfl
theorem asAssignableFU (w : World) : (ReflectliteType.relation "AssignableTo" ReflectliteType.assignableTo #[.agg #[tyFU], .iface 256 (.agg #[tyFU])]).run Tryz.prog w = .ok (.bool true) w := by kernel_rfl
theorem asElemOfPU (w : World) : (Rtype.elem? 278).run Tryz.prog w = .ok (some 277) w := by kernel_rfl
theorem asMkFU (p : Addr) (w : World) : (ReflectliteValue.mk 277 p ReflectliteValue.flagAddr).run Tryz.prog w = .ok (.agg #[tyFU, .pointer (some p), .int .u64 409]) w := by kernel_rfl
theorem asElemVU (a p : Addr) (W : World) (ha : W.cell? a = some (.pointer (some p))) :
    (ReflectliteValue.method (ReflectliteValue.valueError "reflectlite.Value.Elem" 0) ReflectliteValue.elem #[.agg #[tyPU, .pointer (some a), .int .u64 150]]).run Tryz.prog W
      = .ok (.agg #[tyFU, .pointer (some p), .int .u64 409]) W := by
  rw [asRlm]
  simp only [Sem.run_bind, asPartsPU, Result.andThen]
  simp [ReflectliteValue.elem, loadVar, isAgg, underlying, Tryz.underlying278, ha, Result.andThen, asElemOfPU, asMkFU]
theorem asPartsFaU (a : Addr) (w : World) : (ReflectliteValue.parts (.agg #[tyFU, .pointer (some a), .int .u64 409])).run Tryz.prog w = .ok (some (277, a, 409)) w := by kernel_rfl
theorem asPartsFU (a : Addr) (w : World) : (ReflectliteValue.parts (.agg #[tyFU, .pointer (some a), .int .u64 153])).run Tryz.prog w = .ok (some (277, a, 153)) w := by kernel_rfl
theorem asDirectFU (w : World) : (Rtype.directlyAssignable 277 277).run Tryz.prog w = .ok true w := by kernel_rfl
/-- (Value).Set at a fault's variable in block q: it gets what the Value's own variable in block b holds. -/
theorem asSetFU (q b : Nat) (x y o0 o1 : Value) (W : World) (hb : BlockIs W b 277 #[x, y]) (hq : BlockIs W q 277 #[o0, o1]) (hx : x.oneCell' = true) (hy : y.oneCell' = true) :
    (ReflectliteValue.set #[.agg #[tyFU, .pointer (some ⟨q, 0, none⟩), .int .u64 409], .agg #[tyFU, .pointer (some ⟨b, 0, none⟩), .int .u64 153]]).run Tryz.prog W
      = .ok (.tuple #[]) ((W.setCell ⟨q, 0, none⟩ x).setCell ⟨q, 1, none⟩ y) := by
  have b0 : W.cell? ⟨b, 0, none⟩ = some x := hb.cell 0
  have b1 : W.cell? ⟨b, 1, none⟩ = some y := hb.cell 1
  have q0 : W.cell? ⟨q, 0, none⟩ = some o0 := hq.cell 0
  have q1 : W.cell? ⟨q, 1, none⟩ = some o1 := hq.cell 1
  have f0 := hq.free 0
  have f1 := hq.free 1
  have hl : (loadCells ⟨b, 0, none⟩ 2).run Tryz.prog W = .ok #[x, y] W := run_loadCells_list (P := Tryz.prog) W ⟨b, 0, none⟩ [x, y] (fun j v hj => by
    match j, hj with
    | 0, hj => obtain rfl : x = v := by simpa using hj
               exact b0
    | 1, hj => obtain rfl : y = v := by simpa using hj
               exact b1
    | j + 2, hj => simp at hj)
  rw [asRls]
  simp only [Sem.run_bind, asPartsFaU, asPartsFU, Result.andThen]
  simp [ReflectliteValue.flagAddr, loadVar, isAgg, underlying, Tryz.underlying277, hl, Result.andThen, asDirectFU, storeVar, Value.cells, storeCells, Addr.add]
  rw [run_store Tryz.prog W _ _ _ hx]
  simp [q0, f0]
  rw [run_store Tryz.prog _ _ _ _ hy]
  have q1' : (W.setCell ⟨q, 0, none⟩ x).cell? ⟨q, 1, none⟩ = some o1 := (hq.set1 0 x).cell 1
  have f1' := (hq.set1 0 x).free 1
  simp [q1', f1']
set_option maxRecDepth 100000 in
set_option maxHeartbeats 4000000 in
theorem uas_hit (pos : Int) (a : Addr) (q : Nat) (o0 o1 : Value) (w : World) (hg : w.cell? ⟨10, 0, none⟩ = some (.iface 256 (.agg #[tyE]))) (hq : BlockIs w q 277 #[o0, o1]) :
    Calls Tryz.prog 97 #[.iface 277 (.agg #[.int .i64 pos, .iface 288 (.pointer (some a))]), .iface 278 (.pointer (some ⟨q, 0, none⟩))] w fun ev w' => ev = .returned (.bool true) ∧ BlockIs w' q 277 #[.int .i64 pos, .iface 288 (.pointer (some a))] ∧ w.grownBy w' (some q) := by
  have hlt : q < w.heap.size := hq.lt
  have hgl : 10 < w.heap.size := World.block_lt_of_cell? _ _ hg
  have h1 := @run_callFunc_extern Tryz.prog 135 _ (fun args => ReflectliteValue.unpack (args.getD 0 (.tuple #[]))) Tryz.func135 (by kernel_rfl) (by kernel_rfl) (by kernel_rfl) (by kernel_rfl)
  have h2 := @run_callFunc_extern Tryz.prog 136 _ (ReflectliteValue.methodAny (ReflectliteValue.valueError "reflectlite.Value.Type" 0) (fun t _ _ _ => ReflectliteType.toType t)) Tryz.func136 (by kernel_rfl) (by kernel_rfl) (by kernel_rfl) (by kernel_rfl)
  have h3 := @run_callFunc_extern Tryz.prog 137 _ (ReflectliteValue.method (ReflectliteValue.valueError "reflectlite.Value.IsNil" 0) ReflectliteValue.isNil) Tryz.func137 (by kernel_rfl) (by kernel_rfl) (by kernel_rfl) (by kernel_rfl)
  have h4 := @run_callFunc_extern Tryz.prog 194 _ (ReflectliteType.abiMethod fun t => do pure (.int .u8 (← Rtype.kind t))) Tryz.func194 (by kernel_rfl) (by kernel_rfl) (by kernel_rfl) (by kernel_rfl)
  have h5 := @run_callFunc_extern Tryz.prog 208 _ (ReflectliteType.method ReflectliteType.elem) Tryz.func208 (by kernel_rfl) (by kernel_rfl) (by kernel_rfl) (by kernel_rfl)
  have h6 := @run_callFunc_extern Tryz.prog 209 _ (ReflectliteType.relation "Implements" ReflectliteType.implements_) Tryz.func209 (by kernel_rfl) (by kernel_rfl) (by kernel_rfl) (by kernel_rfl)
  have h7 := @run_callFunc_extern Tryz.prog 139 _ ReflectliteType.typeOf Tryz.func139 (by kernel_rfl) (by kernel_rfl) (by kernel_rfl) (by kernel_rfl)
  have h8 := @run_callFunc_extern Tryz.prog 206 _ (ReflectliteType.relation "AssignableTo" ReflectliteType.assignableTo) Tryz.func206 (by kernel_rfl) (by kernel_rfl) (by kernel_rfl) (by kernel_rfl)
  have h9 := @run_callFunc_extern Tryz.prog 161 _ (ReflectliteValue.method (ReflectliteValue.valueError "reflectlite.Value.Elem" 0) ReflectliteValue.elem) Tryz.func161 (by kernel_rfl) (by kernel_rfl) (by kernel_rfl) (by kernel_rfl)
  have h10 := @run_callFunc_extern Tryz.prog 162 _ ReflectliteValue.set Tryz.func162 (by kernel_rfl) (by kernel_rfl) (by kernel_rfl) (by kernel_rfl)
  have tO := asTypeOfFU
  have mA := asMethodAssignableTo
  have aF := asAssignableFU
  have vF := asValueOfFU
  have vP := asValueOfPU
  have tP := asTypePU
  have mK := asMethodKind
  have mE := asMethodElem
  have mI := asMethodImplements
  have kP := asKindPU
  have kF := asKindFU
  have eP := asElemPU
  have iF := asImplementsFU
  have n8 := asIsNilU ⟨w.heap.size, 0, none⟩ ⟨q, 0, none⟩ ((w.alloc (.cells #[.pointer (some ⟨q, 0, none⟩)] 278)).alloc (.cells #[tyPU, .pointer (some ⟨w.heap.size, 0, none⟩), .int .u64 150] 194)) (by simp)
  have hg2 : ((w.alloc (.cells #[.pointer (some ⟨q, 0, none⟩)] 278)).alloc (.cells #[tyPU, .pointer (some ⟨w.heap.size, 0, none⟩), .int .u64 150] 194)).cell? ⟨10, 0, none⟩ = some (.iface 256 (.agg #[tyE])) := by
    rw [World.cell?_alloc_lt _ _ ⟨10, 0, none⟩ (by simp; omega), World.cell?_alloc_lt _ _ ⟨10, 0, none⟩ hgl]; exact hg
  have el := asElemVU ⟨w.heap.size, 0, none⟩ ⟨q, 0, none⟩ (((w.alloc (.cells #[.pointer (some ⟨q, 0, none⟩)] 278)).alloc (.cells #[tyPU, .pointer (some ⟨w.heap.size, 0, none⟩), .int .u64 150] 194)).alloc (.cells #[tyPU, .pointer (some ⟨w.heap.size, 0, none⟩), .int .u64 150] 194)) (by rw [World.cell?_alloc_lt _ _ ⟨w.heap.size, 0, none⟩ (by simp; omega)]; simp)
  have hb1 := below_new w (.cells #[.pointer (some ⟨q, 0, none⟩)] 278)
  have hb2 := hb1.alloc (by simp) (.cells #[tyPU, .pointer (some ⟨w.heap.size, 0, none⟩), .int .u64 150] 194)
  have hb3 := hb2.alloc (by simp; omega) (.cells #[tyPU, .pointer (some ⟨w.heap.size, 0, none⟩), .int .u64 150] 194)
  have hb4 := hb3.alloc (by simp; omega) (.cells #[.int .i64 pos, .iface 288 (.pointer (some a))] 277)
  have hq4 := hq.below hb4 hlt
  have hv4 := BlockIs.made (((w.alloc (.cells #[.pointer (some ⟨q, 0, none⟩)] 278)).alloc (.cells #[tyPU, .pointer (some ⟨w.heap.size, 0, none⟩), .int .u64 150] 194)).alloc (.cells #[tyPU, .pointer (some ⟨w.heap.size, 0, none⟩), .int .u64 150] 194)) 277 #[.int .i64 pos, .iface 288 (.pointer (some a))]
  simp only [World.size_alloc] at hv4
  have st := asSetFU q (w.heap.size + 1 + 1 + 1) _ _ o0 o1 _ hv4 hq4 rfl rfl
  have hB5 := (hq4.set1 0 (.int .i64 pos)).set1 1 (.iface 288 (.pointer (some a)))
  have hG5 := grown_at (grown_at (grown_below hb4 (some q)) 0 (.int .i64 pos)) 1 (.iface 288 (.pointer (some a)))
  have HF := Lib.hid (And.intro hB5 hG5)
  clear hb1 hb2 hb3 hb4 hq4 hv4 hB5 hG5 hq hg
  unfold tyPU tyFU tyE at *
  go_enter Tryz.func97, Tryz.ntmps97
  go_wp2
  refine wp_loop_rounds 1 ?_
  rw [rounds_succ]
  go_wp2
  go_ret
  exact ⟨rfl, HF.out.1, HF.out.2⟩
end Go.Proofs.YtpdfmpegcejmkaaGreatDoor
