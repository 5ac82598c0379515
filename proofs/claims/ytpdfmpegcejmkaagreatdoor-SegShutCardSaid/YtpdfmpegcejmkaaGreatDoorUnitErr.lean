/- errors.Is at a fault, whose cause is the one asked for, or another one. -/
/- The code of a reader's error. -/
/- A reader's error. -/
/- The package unit's own errors, as they are laid, and their numbers. -/
import Derived.Test.YtpdfmpegcejmkaaGreatDoorReadAs
import Derived.Test.YtpdfmpegcejmkaaGreatDoorSegIs
import Derived.LaidEql
import Derived.Stop.Asserts
import Derived.RowKitTokens
import Derived.Test.YtpdfmpegcejmkaaGreatDoorCodeAdd
import Derived.Deep.RegionHeld3
import Derived.Test.YtpdfmpegcejmkaaGreatDoorFlawAs
namespace Go.Proofs.YtpdfmpegcejmkaaGreatDoor
open Go.RowKit Go.Extern.Stop Go.Stop Go.Extern
theorem noIsCF (v : Value) (xT : TypeId) (w : World) : (Instr.typeAssert (.iface 213 v) xT 267 true).run Tryz.prog w = .ok (.tuple #[.nilIface, .bool false]) w := run_typeAssert_lacksB Tryz.underlying267 (by kernel_rfl) (by kernel_rfl) v xT w
theorem hasUnwrapCF (v : Value) (xT : TypeId) (w : World) : (Instr.typeAssert (.iface 213 v) xT 263 true).run Tryz.prog w = .ok (.tuple #[.iface 213 v, .bool true]) w := run_typeAssert_hasB Tryz.underlying263 (by kernel_rfl) v xT w
theorem methodUnwrapCF (v : Value) (w : World) : (Go.method 420 213 v "Unwrap").run Tryz.prog w = .ok (204, v) w := by kernel_rfl
set_option maxRecDepth 100000 in
set_option maxHeartbeats 1000000 in
theorem cis_same (pos : Int) (b : Addr) (w : World) :
    Calls Tryz.prog 98 #[.iface 213 (.agg #[.int .i64 pos, .iface 288 (.pointer (some b))]), .iface 288 (.pointer (some b))] w fun e w' => e = .returned (.bool true) ∧ Below w.heap.size w w' := by
  obtain ⟨i, hi, hcmp⟩ := Option.map_eq_some_iff.1 isComp
  obtain ⟨j, hj, hjs⟩ := Option.map_eq_some_iff.1 isSize
  have tT := callTypeOf
  have cT := callComparable
  have mR := isMethodComparable
  have nW := noIsCF
  have uW := hasUnwrapCF
  have mU := methodUnwrapCF
  have heq := fun w => run_eql_iface_ptr_same (P := Tryz.prog) w b Tryz.underlying106 Tryz.underlying288 hi hcmp hj
  have hty := fun (w : World) => run_eql_iface_types (P := Tryz.prog) 213 288 (.agg #[.int .i64 pos, .iface 288 (.pointer (some b))]) (.pointer (some b)) Tryz.underlying106 (by decide) w
  go_enter Tryz.func98, Tryz.ntmps98
  go_wp2
  refine wp_loop_rounds 2 ?_
  rw [rounds_succ]
  go_wp2
  rw [rounds_succ]
  go_wp2
  go_ret
  exact ⟨rfl, (Below.refl _ _).alloc (Nat.le_refl _) _⟩
set_option maxRecDepth 100000 in
set_option maxHeartbeats 1000000 in
theorem cis_other (pos : Int) (a b : Addr) (w : World) (hne : a ≠ b) (ha : ∃ c t, w.heap[a.block]? = some (.cells c t (0, 0))) (hb : ∃ c t, w.heap[b.block]? = some (.cells c t (0, 0))) :
    Calls Tryz.prog 98 #[.iface 213 (.agg #[.int .i64 pos, .iface 288 (.pointer (some a))]), .iface 288 (.pointer (some b))] w fun e w' => e = .returned (.bool false) ∧ Below w.heap.size w w' := by
  obtain ⟨i, hi, hcmp⟩ := Option.map_eq_some_iff.1 isComp
  obtain ⟨j, hj, hjs⟩ := Option.map_eq_some_iff.1 isSize
  obtain ⟨ca, ta, ha⟩ := ha
  obtain ⟨cb, tb, hb⟩ := hb
  have tT := callTypeOf
  have cT := callComparable
  have mR := isMethodComparable
  have nW := noIsCF
  have nE := noIsE
  have nU := noUnwrapE
  have nUs := noUnwrapsE
  have uW := hasUnwrapCF
  have mU := methodUnwrapCF
  have hbn := below_new w (.cells #[.int .i64 pos, .iface 288 (.pointer (some a))] 213)
  have heq := run_eql_iface_ptr_other (P := Tryz.prog) (w.alloc (.cells #[.int .i64 pos, .iface 288 (.pointer (some a))] 213)) Tryz.underlying106 Tryz.underlying288 hi hcmp hj (by rw [hjs]; decide) hne ((hbn.block _ (Array.getElem?_eq_some_iff.1 ha).1).trans ha) ((hbn.block _ (Array.getElem?_eq_some_iff.1 hb).1).trans hb)
  have hty := fun (w : World) => run_eql_iface_types (P := Tryz.prog) 213 288 (.agg #[.int .i64 pos, .iface 288 (.pointer (some a))]) (.pointer (some b)) Tryz.underlying106 (by decide) w
  clear ha hb
  go_enter Tryz.func98, Tryz.ntmps98
  go_wp2
  refine wp_loop_rounds 2 ?_
  rw [rounds_succ]
  go_wp2
  rw [rounds_succ]
  go_wp2
  go_ret
  exact ⟨rfl, hbn⟩
end Go.Proofs.YtpdfmpegcejmkaaGreatDoor
namespace Go.Proofs.YtpdfmpegcejmkaaGreatDoor
def errCode (l : Bool) : Int := if l then 3 else 4
end Go.Proofs.YtpdfmpegcejmkaaGreatDoor
namespace Go.Proofs.YtpdfmpegcejmkaaGreatDoor
open Go.RowKit
theorem Env.drew {σ : Sen} {w0 w : World} {g : Nat} (h : Env σ w0 g w) : Env σ w0 g w.drew := ⟨h.gl, h.bl.drew, h.lo⟩
set_option maxRecDepth 100000 in
theorem cerrno_any (σ : Sen) (w0 w : World) (g : Nat) (pos : Int) (a : Addr) (long : Bool) (hE : Env σ w0 g w) (ha : σ.has a) (hlong : long = true ↔ a = σ.mu) :
    Calls Tryz.prog 147 #[.agg #[.int .i64 pos, .iface 288 (.pointer (some a))]] w fun e w' => e = .returned (.int .i64 (errCode long)) ∧ Below w.heap.size w w' := by
  have hbn := below_new w (.cells #[.int .i64 pos, .iface 288 (.pointer (some a))] 213)
  have hE1 := hE.below hbn
  have cm := hE1.at_.mu
  have hta := hE1.at_.there a ha
  have htm := hE1.at_.there σ.mu (.inr (.inr (.inr (.inl rfl))))
  unfold errV at cm
  clear hE hE1
  cases hl : long with
  | true =>
    have e : a = σ.mu := hlong.1 hl
    clear hlong
    subst hl e
    go_enter Tryz.func147, Tryz.ntmps147
    go_wp2_with fail
    refine (cis_same pos σ.mu _).mono ?_
    rintro e w2 ⟨rfl, hb2⟩
    go_wp2_with fail
    go_ret
    exact ⟨rfl, hbn.trans (hb2.mono hbn.size)⟩
  | false =>
    have hne : a ≠ σ.mu := fun e => by rw [hlong.2 e] at hl; cases hl
    clear hlong
    subst hl
    have HI := Lib.hid (cis_other pos a σ.mu _ hne hta htm)
    clear hta htm
    go_enter Tryz.func147, Tryz.ntmps147
    go_wp2_with fail
    refine HI.out.mono ?_
    rintro e w2 ⟨rfl, hb2⟩
    go_wp2_with fail
    go_ret
    exact ⟨rfl, hbn.trans (hb2.mono hbn.size)⟩
def errPos : RSt → Int
  | .ok _ => 0
  | .bad p _ => p
def errNo : RSt → Int
  | .ok _ => 0
  | .bad _ l => errCode l
theorem rerr_nil (w : World) :
    Calls Tryz.prog 113 #[.pointer none] w fun e w' => e = .returned (.tuple #[.int .i64 0, .int .i64 1]) ∧ w = w' := by
  go_enter Tryz.func113, Tryz.ntmps113
  go_wp2
  go_ret2
  exact ⟨rfl, rfl⟩
set_option maxRecDepth 100000 in
set_option maxHeartbeats 2000000 in
theorem rerr_any (σ : Sen) (w0 w : World) (g : Nat) (bs : List Int) (s : RSt) (h : RdAt σ w g bs s) (hE : Env σ w0 g w) :
    Calls Tryz.prog 113 #[.pointer (some ⟨g, 0, none⟩)] w fun e w' => e = .returned (.tuple #[.int .i64 (errPos s), .int .i64 (errNo s)]) ∧ Below w.heap.size w w' := by
  obtain ⟨x, cap, k, ev, hI⟩ := h
  obtain ⟨c0, c1, c2, c3⟩ := reader_cells hI.blk
  have hgl := hI.blk.lt
  have hbn := below_new w (.cells #[.int .i64 0, .nilIface] 213)
  have hB := BlockIs.made w 213 #[.int .i64 0, .nilIface]
  have hsz : (w.alloc (.cells #[.int .i64 0, .nilIface] 213)).heap.size = w.heap.size + 1 := by simp
  have d3 := cell_below c3 hbn
  have hE1 := hE.below hbn
  cases s with
  | ok j =>
    obtain ⟨rfl, rfl⟩ := hI.err
    have Hk := Lib.hid (And.intro hB (And.intro hbn hsz))
    clear hI c0 c1 hB hE hE1 hbn hsz
    go_enter Tryz.func113, Tryz.ntmps113
    go_wp2_with fail
    refine (as_nil _ _).mono ?_
    rintro e w' ⟨rfl, rfl⟩
    go_wp2_with fail
    go_ret2
    exact ⟨rfl, Hk.out.2.1⟩
  | bad pos long =>
    obtain ⟨a, rfl, ha, hlong⟩ := hI.err
    unfold faultV errV at *
    have HA := Lib.hid (as_hit pos a w.heap.size (.int .i64 0) .nilIface _ hE1.at_.ty hB)
    have Hk := Lib.hid (And.intro hB (And.intro hbn hsz))
    have HE := Lib.hid hE1
    clear hI c0 c1 hB hE hE1 hbn hsz
    go_enter Tryz.func113, Tryz.ntmps113
    go_wp2_with fail
    clear c2 c3 d3
    generalize w.alloc (.cells #[.int .i64 0, .nilIface] 213) = w1 at *
    refine HA.out.mono ?_
    rintro e w2 ⟨rfl, hB2, hg2⟩
    have hE2 : Env σ w0 g w2 := ⟨HE.out.gl, below_grown HE.out.bl hg2 HE.out.bl.size (by have := HE.out.lo; omega), HE.out.lo⟩
    have hb2 : Below w.heap.size w w2 := below_grown Hk.out.2.1 hg2 Hk.out.2.1.size (Nat.le_refl _)
    have HB2 := Lib.hid hB2
    have Hhl := Lib.hid hlong
    clear hB2 hlong
    go_wp2_with fail
    have d0 : w2.cell? ⟨w.heap.size, 0, none⟩ = some (.int .i64 (pos : Int)) := HB2.out.cell 0
    have d1 : w2.cell? ⟨w.heap.size, 1, none⟩ = some (.iface 288 (.pointer (some a))) := HB2.out.cell 1
    have hk3 : ∀ w3, Below w2.heap.size w2 w3 → w3.cell? ⟨w.heap.size, 0, none⟩ = some (.int .i64 (pos : Int)) ∧ w3.cell? ⟨w.heap.size, 1, none⟩ = some (.iface 288 (.pointer (some a))) := fun w3 hb3 => ⟨cell_below d0 hb3, cell_below d1 hb3⟩
    have Hk3 := Lib.hid hk3
    clear hk3
    go_region_held3 (fun w' => w'.cell? ⟨w.heap.size, 0, none⟩ = some (.int .i64 (pos : Int)) ∧ w'.cell? ⟨w.heap.size, 1, none⟩ = some (.iface 288 (.pointer (some a)))) (first | exact ⟨d0, d1⟩ | exact ⟨k1, k2⟩)
      (first | (go_at_call 147; (with_reducible refine (cerrno_any σ w0 _ g pos a long ?_ ha Hhl.out).mono ?_); (first | exact hE2 | exact hE2.drew); rintro e w3 ⟨rfl, hb3'⟩; have hb3 : Below w2.heap.size w2 w3 := (by first | exact hb3' | exact undrew hb3'); have k1 := (Hk3.out w3 hb3).1; have k2 := (Hk3.out w3 hb3).2))
    all_goals
      go_wp2_with fail
      go_ret2
      exact ⟨rfl, hb2.trans (hb3.mono hb2.size)⟩
end Go.Proofs.YtpdfmpegcejmkaaGreatDoor
namespace Go.Proofs.YtpdfmpegcejmkaaGreatDoor
open Go.RowKit
/-- Where the package's own errors are: of bytes, kinds, sums, numbers, bodies, noughts, ends, others. -/
structure SenU where
  by_ : Addr
  kd : Addr
  sm : Addr
  nm : Addr
  bd : Addr
  nt : Addr
  en : Addr
  ot : Addr
def SenU.has (σ : SenU) (a : Addr) : Prop := a = σ.by_ ∨ a = σ.kd ∨ a = σ.sm ∨ a = σ.nm ∨ a = σ.bd ∨ a = σ.nt ∨ a = σ.en ∨ a = σ.ot
structure GlU (σ : SenU) (w : World) : Prop where
  by_ : w.cell? ⟨13, 0, none⟩ = some (errK σ.by_)
  kd : w.cell? ⟨14, 0, none⟩ = some (errK σ.kd)
  sm : w.cell? ⟨15, 0, none⟩ = some (errK σ.sm)
  nm : w.cell? ⟨16, 0, none⟩ = some (errK σ.nm)
  bd : w.cell? ⟨17, 0, none⟩ = some (errK σ.bd)
  nt : w.cell? ⟨19, 0, none⟩ = some (errK σ.nt)
  en : w.cell? ⟨18, 0, none⟩ = some (errK σ.en)
  ot : w.cell? ⟨11, 0, none⟩ = some (errK σ.ot)
  ty : w.cell? ⟨10, 0, none⟩ = some (.iface 256 (.agg #[tyE]))
  there : ∀ a, σ.has a → There w a
  ns : σ.by_ ≠ σ.sm ∧ σ.kd ≠ σ.sm ∧ σ.nm ≠ σ.sm ∧ σ.bd ≠ σ.sm ∧ σ.nt ≠ σ.sm ∧ σ.en ≠ σ.sm ∧ σ.ot ≠ σ.sm
  no : σ.by_ ≠ σ.ot ∧ σ.kd ≠ σ.ot ∧ σ.nm ≠ σ.ot ∧ σ.bd ≠ σ.ot ∧ σ.nt ≠ σ.ot ∧ σ.en ≠ σ.ot
theorem GlU.below {σ : SenU} {w w' : World} (h : GlU σ w) (hb : Below w.heap.size w w') : GlU σ w' :=
  ⟨cell_below h.by_ hb, cell_below h.kd hb, cell_below h.sm hb, cell_below h.nm hb, cell_below h.bd hb, cell_below h.nt hb, cell_below h.en hb, cell_below h.ot hb, cell_below h.ty hb, fun a ha => (h.there a ha).below hb, h.ns, h.no⟩
abbrev flawV (pos : Int) (a : Addr) : Value := .iface 277 (.agg #[.int .i64 pos, errK a])
/-- The number that is told of an error. -/
def SenU.code (σ : SenU) (a : Addr) : Int := if a = σ.sm then 5 else if a = σ.ot then 6 else 4
/-- An error of the package's, of this number; of 0 it is none. -/
def FlawOf (σ : SenU) (c : Int) (v : Value) : Prop := (c = 0 ∧ v = .nilIface) ∨ ∃ pos a, v = flawV pos a ∧ σ.has a ∧ c = σ.code a
section
variable {σ : SenU} {w : World}
theorem GlU.code_by (h : GlU σ w) : σ.code σ.by_ = 4 := by unfold SenU.code; rw [if_neg h.ns.1, if_neg h.no.1]
theorem GlU.code_kd (h : GlU σ w) : σ.code σ.kd = 4 := by unfold SenU.code; rw [if_neg h.ns.2.1, if_neg h.no.2.1]
theorem GlU.code_sm (_h : GlU σ w) : σ.code σ.sm = 5 := by unfold SenU.code; rw [if_pos rfl]
theorem GlU.code_nm (h : GlU σ w) : σ.code σ.nm = 4 := by unfold SenU.code; rw [if_neg h.ns.2.2.1, if_neg h.no.2.2.1]
theorem GlU.code_bd (h : GlU σ w) : σ.code σ.bd = 4 := by unfold SenU.code; rw [if_neg h.ns.2.2.2.1, if_neg h.no.2.2.2.1]
theorem GlU.code_nt (h : GlU σ w) : σ.code σ.nt = 4 := by unfold SenU.code; rw [if_neg h.ns.2.2.2.2.1, if_neg h.no.2.2.2.2.1]
theorem GlU.code_en (h : GlU σ w) : σ.code σ.en = 4 := by unfold SenU.code; rw [if_neg h.ns.2.2.2.2.2.1, if_neg h.no.2.2.2.2.2]
theorem GlU.code_ot (h : GlU σ w) : σ.code σ.ot = 6 := by unfold SenU.code; rw [if_neg h.ns.2.2.2.2.2.2, if_pos rfl]
end
set_option maxRecDepth 100000 in
set_option maxHeartbeats 2000000 in
theorem flawErrno_any (σ : SenU) (w : World) (hG : GlU σ w) (pos : Int) (a : Addr) (ha : σ.has a) :
    Calls Tryz.prog 168 #[.agg #[.int .i64 pos, .iface 288 (.pointer (some a))]] w fun e w' => e = .returned (.int .i64 (σ.code a)) ∧ Below w.heap.size w w' := by
  have hbn := below_new w (.cells #[.int .i64 pos, .iface 288 (.pointer (some a))] 277)
  have hG1 := hG.below hbn
  have c1 := hG1.sm
  have Hk := Lib.hid (fun w' (hb : Below (w.alloc (.cells #[.int .i64 pos, .iface 288 (.pointer (some a))] 277)).heap.size (w.alloc (.cells #[.int .i64 pos, .iface 288 (.pointer (some a))] 277)) w') => hG1.below hb)
  have hta := hG1.there a ha
  have hts := hG1.there σ.sm (.inr (.inr (.inl rfl)))
  unfold errK at *
  by_cases hs : a = σ.sm
  · have hc : σ.code a = 5 := by unfold SenU.code; rw [if_pos hs]
    rw [hc]
    subst hs
    clear hG hG1 hta hts hc Hk
    go_enter Tryz.func168, Tryz.ntmps168
    go_wp2_with fail
    refine (uis_same pos σ.sm _).mono ?_
    rintro e w2 ⟨rfl, hb2⟩
    go_wp2_with fail
    go_ret
    exact ⟨rfl, hbn.trans (hb2.mono hbn.size)⟩
  · have HI := Lib.hid (uis_other pos a σ.sm _ hs hta hts)
    by_cases ho : a = σ.ot
    · have hc : σ.code a = 6 := by unfold SenU.code; rw [if_neg hs, if_pos ho]
      rw [hc]
      have Ho := Lib.hid ho
      clear hG hG1 hta hts hc hs ho
      go_enter Tryz.func168, Tryz.ntmps168
      go_wp2_with fail
      refine HI.out.mono ?_
      rintro e w2 ⟨rfl, hb2⟩
      have c2 := (Hk.out w2 hb2).ot
      unfold errK at c2
      rw [← Ho.out] at c2
      have d0 : w2.cell? ⟨w.heap.size, 0, none⟩ = some (.int .i64 pos) := cell_below (row2_cells w _ _ _).1 hb2
      have d1 : w2.cell? ⟨w.heap.size, 1, none⟩ = some (.iface 288 (.pointer (some a))) := cell_below (row2_cells w _ _ _).2 hb2
      go_wp2_with fail
      refine (uis_same pos a _).mono ?_
      rintro e w3 ⟨rfl, hb3⟩
      go_wp2_with fail
      go_ret
      exact ⟨rfl, hbn.trans ((hb2.trans (hb3.mono hb2.size)).mono hbn.size)⟩
    · have hc : σ.code a = 4 := by unfold SenU.code; rw [if_neg hs, if_neg ho]
      rw [hc]
      have Ho := Lib.hid ho
      have Ha := Lib.hid ha
      clear hG hG1 hta hts hc hs ho ha
      go_enter Tryz.func168, Tryz.ntmps168
      go_wp2_with fail
      refine HI.out.mono ?_
      rintro e w2 ⟨rfl, hb2⟩
      have c2 := (Hk.out w2 hb2).ot
      unfold errK at c2
      have d0 : w2.cell? ⟨w.heap.size, 0, none⟩ = some (.int .i64 pos) := cell_below (row2_cells w _ _ _).1 hb2
      have d1 : w2.cell? ⟨w.heap.size, 1, none⟩ = some (.iface 288 (.pointer (some a))) := cell_below (row2_cells w _ _ _).2 hb2
      have HI2 := Lib.hid (uis_other pos a σ.ot w2 Ho.out ((Hk.out w2 hb2).there a Ha.out) ((Hk.out w2 hb2).there σ.ot (.inr (.inr (.inr (.inr (.inr (.inr (.inr rfl)))))))))
      go_wp2_with fail
      refine HI2.out.mono ?_
      rintro e w3 ⟨rfl, hb3⟩
      go_wp2_with fail
      go_ret
      exact ⟨rfl, hbn.trans ((hb2.trans (hb3.mono hb2.size)).mono hbn.size)⟩
set_option maxRecDepth 100000 in
set_option maxHeartbeats 2000000 in
theorem uerrno_any (σ : SenU) (w : World) (hG : GlU σ w) (c : Int) (v : Value) (hv : FlawOf σ c v) :
    Calls Tryz.prog 145 #[v] w fun e w' => e = .returned (.int .i64 c) ∧ Below w.heap.size w w' := by
  have hbn := below_new w (.cells #[.int .i64 0, .nilIface] 277)
  have hB := BlockIs.made w 277 #[.int .i64 0, .nilIface]
  have hG1 := hG.below hbn
  rcases hv with ⟨rfl, rfl⟩ | ⟨pos, a, rfl, ha, rfl⟩
  · have Hk := Lib.hid hbn
    clear hG hG1 hB hbn
    go_enter Tryz.func145, Tryz.ntmps145
    go_wp2_with fail
    refine (as_nil _ _).mono ?_
    rintro e w' ⟨rfl, rfl⟩
    go_wp2_with fail
    go_ret
    exact ⟨rfl, Hk.out⟩
  · have HA := Lib.hid (uas_hit pos a w.heap.size (.int .i64 0) .nilIface _ hG1.ty hB)
    have Hk := Lib.hid hbn
    have HG := Lib.hid hG
    have Ha := Lib.hid ha
    clear hG hG1 hB hbn ha
    unfold flawV errK at *
    go_enter Tryz.func145, Tryz.ntmps145
    go_wp2_with fail
    generalize w.alloc (.cells #[.int .i64 0, .nilIface] 277) = w1 at *
    refine HA.out.mono ?_
    rintro e w2 ⟨rfl, hB2, hg2⟩
    have hb2 : Below w.heap.size w w2 := below_grown Hk.out hg2 Hk.out.size (Nat.le_refl _)
    have HF := Lib.hid (flawErrno_any σ w2 (HG.out.below hb2) pos a Ha.out)
    have Hb2 := Lib.hid hb2
    have d0 : w2.cell? ⟨w.heap.size, 0, none⟩ = some (.int .i64 pos) := hB2.cell 0
    have d1 : w2.cell? ⟨w.heap.size, 1, none⟩ = some (.iface 288 (.pointer (some a))) := hB2.cell 1
    clear hB2 hg2 hb2 HA
    go_wp2_with fail
    refine HF.out.mono ?_
    rintro e w3 ⟨rfl, hb3⟩
    go_wp2_with fail
    go_ret
    exact ⟨rfl, Hb2.out.trans (hb3.mono Hb2.out.size)⟩
end Go.Proofs.YtpdfmpegcejmkaaGreatDoor
