/- A reader's fields. -/
/- errors.As at a fault. -/
import Derived.Test.YtpdfmpegcejmkaaGreatDoorReadNum
import Derived.StillTailTactics
import Derived.LaidEql
import Derived.Stop.Asserts
import Derived.RowKitTokens
namespace Go.Proofs.YtpdfmpegcejmkaaGreatDoor
open Go.RowKit
theorem RdAt.drew {σ : Sen} {w : World} {g : Nat} {bs : List Int} {s : RSt} (h : RdAt σ w g bs s) : RdAt σ w.drew g bs s := by
  obtain ⟨x, cap, k, ev, h⟩ := h
  exact ⟨x, cap, k, ev, h.blk, h.rd, h.off, h.len, h.err⟩
theorem RdAt.drewN {σ : Sen} {w : World} {g : Nat} {bs : List Int} {s : RSt} (h : RdAt σ w g bs s) (n : Nat) : RdAt σ (w.drewN n) g bs s := by
  obtain ⟨x, cap, k, ev, h⟩ := h
  exact ⟨x, cap, k, ev, h.blk, h.rd, h.off, h.len, h.err⟩
/-- Nothing but draws. -/
def Qu (w w1 : World) : Prop := ∃ n, w1 = w.drewN n
theorem Qu.trans {a b c : World} (h : Qu a b) (k : Qu b c) : Qu a c := by
  obtain ⟨n, rfl⟩ := h
  obtain ⟨m, rfl⟩ := k
  exact ⟨_, World.drewN_drewN _ _ _⟩
theorem Qu.grown {w w1 : World} (h : Qu w w1) (row : Option Nat) : w.grownBy w1 row := by
  obtain ⟨n, rfl⟩ := h; exact grown_drewN (World.grownBy.refl _ _) n
theorem Qu.cell {w w1 : World} (h : Qu w w1) (a : Addr) : w1.cell? a = w.cell? a := by
  obtain ⟨n, rfl⟩ := h; rfl
theorem Qu.below {w w1 : World} (h : Qu w w1) (B : Nat) : Below B w w1 := by
  obtain ⟨n, rfl⟩ := h; exact Below.drewN (Below.refl _ _) n
theorem undrew_grown {w w' : World} {row : Option Nat} (h : w.drew.grownBy w' row) : w.grownBy w' row := ⟨h.os, h.tape, h.output, h.size, h.block⟩
theorem undrewN_grown {w w' : World} {row : Option Nat} (n : Nat) (h : (w.drewN n).grownBy w' row) : w.grownBy w' row := ⟨h.os, h.tape, h.output, h.size, h.block⟩
set_option maxRecDepth 100000 in
theorem rfield_none (σ : Sen) (w0 w : World) (g : Nat) (bs : List Int) (j : Nat) (wd : Int) (h : RdAt σ w g bs (.ok j)) (hE : EnvF σ w0 g w) (ht : top wd < 0) :
    Calls Tryz.prog 83 #[.pointer (some ⟨g, 0, none⟩), .int .i64 wd] w fun e w' => e = .returned (.int .i64 0) ∧ RdAt σ w' g bs (.bad j false) ∧ w.grownBy w' (some g) := by
  obtain ⟨x, cap, k, ev, hI⟩ := h
  obtain ⟨c0, c1, c2, c3⟩ := reader_cells hI.blk
  obtain ⟨rfl, rfl⟩ := hI.err
  have hR : RdAt σ w g bs (.ok j) := ⟨x, cap, j, _, hI⟩
  have cg := hE.at_.wd
  have hne := hE.gl.ne.1
  have HI := Lib.hid hI
  clear hI c0 c2 c3 hE
  go_enter Tryz.func83, Tryz.ntmps83
  go_wp2_with fail
  refine (going_is σ w g bs _ hR).mono ?_
  rintro e w' ⟨rfl, rfl⟩
  unfold isOk
  go_wp2_with fail
  refine (greatest_any wd _).mono ?_
  rintro e w' ⟨rfl, rfl⟩
  go_wp2_with fail
  go_still_tail 7, (by kernel_rfl)
  go_wp2_with fail
  refine (fail_is σ _ g bs j j σ.wd (RdAt.drew hR) (.inl rfl) false (by simp [hne])).mono ?_
  rintro e w2 ⟨rfl, hR2, hg2⟩
  go_wp2_with fail
  go_ret
  exact ⟨rfl, hR2, undrew_grown hg2⟩
set_option maxRecDepth 100000 in
theorem rfield_bad (σ : Sen) (w : World) (g : Nat) (bs : List Int) (p : Nat) (l : Bool) (v : Value) (h : RdAt σ w g bs (.bad p l)) :
    Calls Tryz.prog 83 #[.pointer (some ⟨g, 0, none⟩), v] w fun e w' => e = .returned (.int .i64 0) ∧ w' = w := by
  go_enter Tryz.func83, Tryz.ntmps83
  go_wp2_with fail
  refine (going_is σ w g bs _ h).mono ?_
  rintro e w' ⟨rfl, rfl⟩
  unfold isOk
  go_wp2_with fail
  go_ret
  exact ⟨rfl, rfl⟩
set_option maxRecDepth 100000 in
theorem rfield_few (σ : Sen) (w0 w : World) (g : Nat) (bs : List Int) (j : Nat) (wd : Int) (h : RdAt σ w g bs (.ok j)) (hE : EnvF σ w0 g w) (_hl : bs.length ≤ 140737488351232) (ht : 0 ≤ top wd) (hf : (bs.length : Int) - j < wd) :
    Calls Tryz.prog 83 #[.pointer (some ⟨g, 0, none⟩), .int .i64 wd] w fun e w' => e = .returned (.int .i64 0) ∧ RdAt σ w' g bs (.bad j false) ∧ w.grownBy w' (some g) := by
  obtain ⟨x, cap, k, ev, hI⟩ := h
  obtain ⟨c0, c1, c2, c3⟩ := reader_cells hI.blk
  obtain ⟨rfl, rfl⟩ := hI.err
  have hR : RdAt σ w g bs (.ok j) := ⟨x, cap, j, _, hI⟩
  have cg := hE.at_.few
  have hne := hE.gl.ne.2.1
  have hjl := hI.len.2.2
  clear hI c0 c2 c3 hE
  go_enter Tryz.func83, Tryz.ntmps83
  go_wp2_with fail
  refine (going_is σ w g bs _ hR).mono ?_
  rintro e w' ⟨rfl, rfl⟩
  unfold isOk
  go_wp2_with fail
  refine (greatest_any wd _).mono ?_
  rintro e w' ⟨rfl, rfl⟩
  have htl : ¬ top wd < 0 := by omega
  go_wp2_with fail
  refine (left_is σ _ g bs j hR).mono ?_
  rintro e w' ⟨rfl, n, rfl⟩
  have hf' : decide ((bs.length : Int) - (j : Int) < wd) = true := decide_eq_true hf
  have hRn := hR.drewN n
  have c1n : (w.drewN n).cell? ⟨g, 1, none⟩ = some (.int .i64 (j : Int)) := c1
  have cgn : (w.drewN n).cell? ⟨7, 0, none⟩ = some (errV σ.few) := cg
  have hgn : w.grownBy (w.drewN n) (some g) := grown_drewN (World.grownBy.refl _ _) n
  clear c1 cg hR
  generalize w.drewN n = W at *
  go_wp2_with fail
  go_still_tail 7, (by kernel_rfl)
  go_wp2_with fail
  refine (fail_is σ _ g bs j j σ.few (RdAt.drew hRn) (.inr (.inl rfl)) false (by simp [hne])).mono ?_
  rintro e w2 ⟨rfl, hR2, hg2⟩
  go_wp2_with fail
  go_ret
  exact ⟨rfl, hR2, hgn.trans (undrew_grown hg2)⟩
/-- The bytes at a reader's place. -/
theorem here_bytes {σ : Sen} {w : World} {g : Nat} {bs : List Int} {j : Nat} {x : Option Addr} {cap : Nat} (h : RdIs σ w g bs (.ok j) x cap j .nilIface) (m : Nat) : BytesAt w (cutAt x cap j) ((bs.drop j).take m) :=
  front_reads (cut_reads h.rd h.len.1)
theorem here_len (bs : List Int) (j m : Nat) (h : j + m ≤ bs.length) : ((bs.drop j).take m).length = m := by
  rw [List.length_take, List.length_drop]; omega
set_option maxRecDepth 100000 in
set_option maxHeartbeats 1000000 in
theorem rfield_here (σ : Sen) (w0 w : World) (g : Nat) (bs : List Int) (j wn : Nat) (h : RdAt σ w g bs (.ok j)) (hE : EnvF σ w0 g w) (_hl : bs.length ≤ 140737488351232) (ht : 0 ≤ top wn) (hf : j + wn ≤ bs.length) :
    Calls Tryz.prog 83 #[.pointer (some ⟨g, 0, none⟩), .int .i64 (wn : Int)] w fun e w' =>
      (top wn < unle ((bs.drop j).take wn) → e = .returned (.int .i64 0) ∧ RdAt σ w' g bs (.bad j false)) ∧ (¬ top wn < unle ((bs.drop j).take wn) → e = .returned (.int .i64 (unle ((bs.drop j).take wn))) ∧ RdAt σ w' g bs (.ok (j + wn))) ∧ w.grownBy w' (some g) := by
  obtain ⟨x, cap, k, ev, hI⟩ := h
  obtain ⟨c0, c1, c2, c3⟩ := reader_cells hI.blk
  obtain ⟨rfl, rfl⟩ := hI.err
  have hR : RdAt σ w g bs (.ok j) := ⟨x, cap, j, _, hI⟩
  have cg := hE.at_.gr
  have hne := hE.gl.ne.2.2
  have hjl := hI.len.2.2
  have HI := Lib.hid hI
  clear hI c0 c2 c3 hE
  have Hc := Lib.hid (And.intro c1 cg)
  clear c1 cg
  go_enter Tryz.func83, Tryz.ntmps83
  go_wp2_with fail
  refine (going_is σ w g bs _ hR).mono ?_
  rintro e w' ⟨rfl, rfl⟩
  unfold isOk
  go_wp2_with fail
  refine (greatest_any wn _).mono ?_
  rintro e w' ⟨rfl, rfl⟩
  have htl : ¬ top (wn : Int) < 0 := by omega
  go_wp2_with fail
  refine (left_is σ _ g bs j hR).mono ?_
  rintro e w1 ⟨rfl, hq1⟩
  have hq1 : Qu w w1 := hq1
  have hf' : ¬ ((bs.length : Int) - (j : Int) < (wn : Int)) := by omega
  have hI1 := HI.out.kept (hq1.grown none) (by simp) (fun _ _ => by simp)
  go_wp2_with fail
  refine (next_is σ w1 g bs j wn x cap hI1 hf).mono ?_
  rintro e w2 ⟨rfl, hq2⟩
  have hq2 := hq1.trans hq2
  have hI2 := HI.out.kept (hq2.grown none) (by simp) (fun _ _ => by simp)
  go_wp2_with fail
  refine (number_any w2 (cutAt x cap j) (cap - j) wn _ (here_len bs j wn hf) ht (here_bytes hI2 wn)).mono ?_
  rintro e w3 ⟨rfl, hq3⟩
  have hq3 := hq2.trans hq3
  have hI3 := HI.out.kept (hq3.grown none) (by simp) (fun _ _ => by simp)
  have hR3 : RdAt σ w3 g bs (.ok j) := ⟨x, cap, j, _, hI3⟩
  generalize hv : unle ((bs.drop j).take wn) = v
  have Hv := Lib.hid hv; clear hv
  have c1 := (hq3.cell _).trans Hc.out.1
  have cg := (hq3.cell _).trans Hc.out.2
  have hg3 := hq3.grown (some g)
  clear hI1 hI2 hI3 hq1 hq2 hq3 HI Hc hR
  by_cases hgt : top wn < v
  · go_wp2_with fail
    go_still_tail 7, (by kernel_rfl)
    go_wp2_with fail
    refine (fail_is σ _ g bs j j σ.gr (RdAt.drew hR3) (.inr (.inr (.inl rfl))) false (by simp [hne])).mono ?_
    rintro e w4 ⟨rfl, hR4, hg4⟩
    go_wp2_with fail
    go_ret
    exact ⟨fun _ => ⟨rfl, hR4⟩, fun h => absurd hgt (by rw [Hv.out] at h; omega), hg3.trans (undrew_grown hg4)⟩
  · clear c1 cg
    go_wp2_with fail
    refine (pass_is σ w3 g bs j wn hR3 hf).mono ?_
    rintro e w4 ⟨rfl, hR4, hg4⟩
    go_wp2_with fail
    go_ret
    exact ⟨fun h => absurd h (by rw [Hv.out]; omega), fun _ => ⟨by rw [Hv.out]; rfl, hR4⟩, hg3.trans hg4⟩
theorem top_nat (wd : Int) (h : 0 ≤ top wd) : ∃ n : Nat, wd = n ∧ n ≤ 6 := by
  rcases top_cases wd with ⟨e, _⟩ | ⟨e, _⟩ | ⟨e, _⟩ | ⟨e, _⟩ | ⟨_, _, _, _, t⟩
  · exact ⟨1, e, by decide⟩
  · exact ⟨2, e, by decide⟩
  · exact ⟨4, e, by decide⟩
  · exact ⟨6, e, by decide⟩
  · omega
/-- What a call of a reader's leaves. -/
structure Got (σ : Sen) (w : World) (g : Nat) (bs : List Int) (s : RSt) (w' : World) : Prop where
  rd : RdAt σ w' g bs s
  fr : w.grownBy w' (some g)
theorem Got.trans {σ : Sen} {w w1 w2 : World} {g : Nat} {bs : List Int} {s t : RSt} (h : Got σ w g bs s w1) (k : Got σ w1 g bs t w2) : Got σ w g bs t w2 := ⟨k.rd, h.fr.trans k.fr⟩
theorem Got.same {σ : Sen} {w : World} {g : Nat} {bs : List Int} {s : RSt} (h : RdAt σ w g bs s) : Got σ w g bs s w := ⟨h, World.grownBy.refl _ _⟩
theorem rfield_any (σ : Sen) (w0 w : World) (g : Nat) (bs : List Int) (s : RSt) (wd : Int) (h : RdAt σ w g bs s) (hE : EnvF σ w0 g w) (hl : bs.length ≤ 140737488351232) :
    Calls Tryz.prog 83 #[.pointer (some ⟨g, 0, none⟩), .int .i64 wd] w fun e w' => e = .returned (.int .i64 (fieldR bs wd s).1) ∧ Got σ w g bs (fieldR bs wd s).2 w' := by
  cases s with
  | bad p l => exact (rfield_bad σ w g bs p l _ h).mono fun e w' ⟨he, hw⟩ => ⟨he, by subst hw; exact Got.same h⟩
  | ok j =>
    have hjl : j ≤ bs.length := by
      obtain ⟨x, cap, k, ev, hI⟩ := h
      obtain ⟨rfl, _⟩ := hI.err
      exact hI.len.2.2
    by_cases ht : top wd < 0
    · have e1 : fieldR bs wd (.ok j) = (0, .bad j false) := by simp [fieldR, ht]
      rw [e1]
      exact (rfield_none σ w0 w g bs j wd h hE ht).mono fun e w' ⟨h1, h2, h3⟩ => ⟨h1, h2, h3⟩
    · obtain ⟨wn, rfl, hw6⟩ := top_nat wd (by omega)
      by_cases hf : (bs.length : Int) - j < wn
      · have e1 : fieldR bs wn (.ok j) = (0, .bad j false) := by simp [fieldR, hf]
        rw [e1]
        exact (rfield_few σ w0 w g bs j wn h hE hl (by omega) hf).mono fun e w' ⟨h1, h2, h3⟩ => ⟨h1, h2, h3⟩
      · by_cases hv : top wn < unle ((bs.drop j).take wn)
        · have e1 : fieldR bs wn (.ok j) = (0, .bad j false) := by simp [fieldR, ht, hf, hv]
          rw [e1]
          exact (rfield_here σ w0 w g bs j wn h hE hl (by omega) (by omega)).mono fun e w' ⟨h1, h2, h3⟩ => ⟨(h1 hv).1, (h1 hv).2, h3⟩
        · have e1 : fieldR bs wn (.ok j) = (unle ((bs.drop j).take wn), .ok (j + wn)) := by simp [fieldR, ht, hf, hv]
          rw [e1]
          exact (rfield_here σ w0 w g bs j wn h hE hl (by omega) (by omega)).mono fun e w' ⟨h1, h2, h3⟩ => ⟨(h2 hv).1, (h2 hv).2, h3⟩
end Go.Proofs.YtpdfmpegcejmkaaGreatDoor
namespace Go.Proofs.YtpdfmpegcejmkaaGreatDoor
open Go.RowKit Go.Extern.Stop Go.Stop Go.Extern
/-- errors.As at nil. -/
theorem as_nil (t : Value) (w : World) :
    Calls Tryz.prog 97 #[.nilIface, t] w fun e w' => e = .returned (.bool false) ∧ w = w' := by
  go_enter Tryz.func97, Tryz.ntmps97
  go_wp2
  go_ret
  exact ⟨rfl, rfl⟩
/-! closed facts on the model's entries for reflectlite, at this program's types -/
abbrev tyP : Value := .pointer (some ⟨20, 215, none⟩)
abbrev tyF : Value := .pointer (some ⟨20, 213, none⟩)
abbrev tyE : Value := .pointer (some ⟨20, 106, none⟩)
theorem asValueOfP (t : Addr) (w : World) : (ReflectliteValue.unpack (.iface 215 (.pointer (some t)))).run Tryz.prog w
    = .ok (.agg #[tyP, .pointer (some ⟨w.heap.size, 0, none⟩), .int .u64 150]) (w.alloc (.cells #[.pointer (some t)] 215)) := by kernel_rfl
theorem asTypeP (a : Addr) (w : World) : (ReflectliteValue.methodAny (ReflectliteValue.valueError "reflectlite.Value.Type" 0) (fun t _ _ _ => ReflectliteType.toType t) #[.agg #[tyP, .pointer (some a), .int .u64 150]]).run Tryz.prog w
    = .ok (.iface 256 (.agg #[tyP])) w := by kernel_rfl
theorem asMethodKind (h : Value) (w : World) : (Go.method 420 256 (.agg #[h]) "Kind").run Tryz.prog w = .ok (194, h) w := by kernel_rfl
theorem asKindP (w : World) : ((ReflectliteType.abiMethod fun t => (fun a : Nat => Value.int IntKind.u8 (a : Int)) <$> Rtype.kind t) #[tyP]).run Tryz.prog w = .ok (.int .u8 22) w := by kernel_rfl
theorem asKindF (w : World) : ((ReflectliteType.abiMethod fun t => (fun a : Nat => Value.int IntKind.u8 (a : Int)) <$> Rtype.kind t) #[tyF]).run Tryz.prog w = .ok (.int .u8 25) w := by kernel_rfl
theorem asValueOfF (pos : Int) (a : Addr) (w : World) : (ReflectliteValue.unpack (.iface 213 (.agg #[.int .i64 pos, .iface 288 (.pointer (some a))]))).run Tryz.prog w
    = .ok (.agg #[tyF, .pointer (some ⟨w.heap.size, 0, none⟩), .int .u64 153]) (w.alloc (.cells #[.int .i64 pos, .iface 288 (.pointer (some a))] 213)) := by kernel_rfl
theorem asRlm (z : Sem Value) (f : TypeId → Addr → Nat → Nat → Sem Value) (v : Value) :
    ReflectliteValue.method z f #[v] = (do match ← ReflectliteValue.parts v with | none => z | some (t, a, fl) => f t a fl (fl % 32)) := rfl
theorem asPartsP (a : Addr) (w : World) : (ReflectliteValue.parts (.agg #[tyP, .pointer (some a), .int .u64 150])).run Tryz.prog w = .ok (some (215, a, 150)) w := by kernel_rfl
theorem asIsNil (a p : Addr) (W : World) (ha : W.cell? a = some (.pointer (some p))) :
    (ReflectliteValue.method (ReflectliteValue.valueError "reflectlite.Value.IsNil" 0) ReflectliteValue.isNil #[.agg #[tyP, .pointer (some a), .int .u64 150]]).run Tryz.prog W = .ok (.bool false) W := by
  rw [asRlm]
  simp only [Sem.run_bind, asPartsP, Result.andThen]
  simp [ReflectliteValue.isNil, loadVar, isAgg, underlying, Tryz.underlying215, ha, Result.andThen]
theorem asMethodElem (h : Value) (w : World) : (Go.method 420 256 (.agg #[h]) "Elem").run Tryz.prog w = .ok (208, .agg #[h]) w := by kernel_rfl
theorem asMethodImplements (h : Value) (w : World) : (Go.method 420 256 (.agg #[h]) "Implements").run Tryz.prog w = .ok (209, .agg #[h]) w := by kernel_rfl
theorem asMethodAssignableTo (h : Value) (w : World) : (Go.method 420 256 (.agg #[h]) "AssignableTo").run Tryz.prog w = .ok (206, .agg #[h]) w := by kernel_rfl
theorem asElemP (w : World) : (ReflectliteType.method ReflectliteType.elem #[.agg #[tyP]]).run Tryz.prog w = .ok (.iface 256 (.agg #[tyF])) w := by kernel_rfl
theorem asImplementsF (w : World) : (ReflectliteType.relation "Implements" ReflectliteType.implements_ #[.agg #[tyF], .iface 256 (.agg #[tyE])]).run Tryz.prog w = .ok (.bool true) w := by kernel_rfl
theorem asTypeOfF (v : Value) (w : World) : (ReflectliteType.typeOf #[.iface 213 v]).run Tryz.prog w = .ok (.iface 256 (.agg #[tyF])) w := by kernel_rfl
theorem asAssignableF (w : World) : (ReflectliteType.relation "AssignableTo" ReflectliteType.assignableTo #[.agg #[tyF], .iface 256 (.agg #[tyF])]).run Tryz.prog w = .ok (.bool true) w := by kernel_rfl
theorem asElemOfP (w : World) : (Rtype.elem? 215).run Tryz.prog w = .ok (some 213) w := by kernel_rfl
theorem asMkF (p : Addr) (w : World) : (ReflectliteValue.mk 213 p ReflectliteValue.flagAddr).run Tryz.prog w = .ok (.agg #[tyF, .pointer (some p), .int .u64 409]) w := by kernel_rfl
theorem asElemV (a p : Addr) (W : World) (ha : W.cell? a = some (.pointer (some p))) :
    (ReflectliteValue.method (ReflectliteValue.valueError "reflectlite.Value.Elem" 0) ReflectliteValue.elem #[.agg #[tyP, .pointer (some a), .int .u64 150]]).run Tryz.prog W
      = .ok (.agg #[tyF, .pointer (some p), .int .u64 409]) W := by
  rw [asRlm]
  simp only [Sem.run_bind, asPartsP, Result.andThen]
  simp [ReflectliteValue.elem, loadVar, isAgg, underlying, Tryz.underlying215, ha, Result.andThen, asElemOfP, asMkF]
theorem asRls (v x : Value) : ReflectliteValue.set #[v, x] = (do
    let (some (dst, a, fl), some (src, b, _)) := (← ReflectliteValue.parts v, ← ReflectliteValue.parts x)
      | unsupported (.noEntry "extern/(internal/reflectlite.Value).Set.zeroValue")
    if fl / ReflectliteValue.flagAddr % 2 == 0 then unsupported (.noEntry "extern/(internal/reflectlite.Value).Set.unaddressable")
    let val ← loadVar src b
    if ← Rtype.directlyAssignable dst src then storeVar dst a val
    else if ← Rtype.implements dst src then
      if (← Rtype.kind src) == 20 then
        match val with
        | .nilIface => unsupported (.noEntry "extern/reflectlite: a nil value of one interface type handed on as a value of another")
        | _ => storeVar dst a val
      else storeVar dst a (.iface src val)
    else panicString ("reflectlite.Set: value of type " ++ (← Rtype.spelt src) ++ " is not assignable to type " ++ (← Rtype.spelt dst))
    pure (.tuple #[])) := rfl
theorem asPartsFa (a : Addr) (w : World) : (ReflectliteValue.parts (.agg #[tyF, .pointer (some a), .int .u64 409])).run Tryz.prog w = .ok (some (213, a, 409)) w := by kernel_rfl
theorem asPartsF (a : Addr) (w : World) : (ReflectliteValue.parts (.agg #[tyF, .pointer (some a), .int .u64 153])).run Tryz.prog w = .ok (some (213, a, 153)) w := by kernel_rfl
theorem asDirectF (w : World) : (Rtype.directlyAssignable 213 213).run Tryz.prog w = .ok true w := by kernel_rfl
/-- (Value).Set at a fault's variable in block q: it gets what the Value's own variable in block b holds. -/
theorem asSetF (q b : Nat) (x y o0 o1 : Value) (W : World) (hb : BlockIs W b 213 #[x, y]) (hq : BlockIs W q 213 #[o0, o1]) (hx : x.oneCell' = true) (hy : y.oneCell' = true) :
    (ReflectliteValue.set #[.agg #[tyF, .pointer (some ⟨q, 0, none⟩), .int .u64 409], .agg #[tyF, .pointer (some ⟨b, 0, none⟩), .int .u64 153]]).run Tryz.prog W
      = .ok (.tuple #[]) ((W.setCell ⟨q, 0, none⟩ x).setCell ⟨q, 1, none⟩ y) := by
  have b0 : W.cell? ⟨b, 0, none⟩ = some x := hb.cell 0
  have b1 : W.cell? ⟨b, 1, none⟩ = some y := hb.cell 1
  have q0 : W.cell? ⟨q, 0, none⟩ = some o0 := hq.cell 0
  have q1 : W.cell? ⟨q, 1, none⟩ = some o1 := hq.cell 1
  have f0 := hq.free 0
  have f1 := hq.free 1
  have hl : (loadCells ⟨b, 0, none⟩ 2).run Tryz.prog W = .ok #[x, y] W := run_loadCells_list (P := Tryz.prog) W ⟨b, 0, none⟩ [x, y] (fun j v hj => by
    match j, hj with
    | 0, hj => obtain rfl : x = v := by simpa using hj
               exact b0
    | 1, hj => obtain rfl : y = v := by simpa using hj
               exact b1
    | j + 2, hj => simp at hj)
  rw [asRls]
  simp only [Sem.run_bind, asPartsFa, asPartsF, Result.andThen]
  simp [ReflectliteValue.flagAddr, loadVar, isAgg, underlying, Tryz.underlying213, hl, Result.andThen, asDirectF, storeVar, Value.cells, storeCells, Addr.add]
  rw [run_store Tryz.prog W _ _ _ hx]
  simp [q0, f0]
  rw [run_store Tryz.prog _ _ _ _ hy]
  have q1' : (W.setCell ⟨q, 0, none⟩ x).cell? ⟨q, 1, none⟩ = some o1 := (hq.set1 0 x).cell 1
  have f1' := (hq.set1 0 x).free 1
  simp [q1', f1']
set_option maxRecDepth 100000 in
set_option maxHeartbeats 4000000 in
theorem as_hit (pos : Int) (a : Addr) (q : Nat) (o0 o1 : Value) (w : World) (hg : w.cell? ⟨10, 0, none⟩ = some (.iface 256 (.agg #[tyE]))) (hq : BlockIs w q 213 #[o0, o1]) :
    Calls Tryz.prog 97 #[.iface 213 (.agg #[.int .i64 pos, .iface 288 (.pointer (some a))]), .iface 215 (.pointer (some ⟨q, 0, none⟩))] w fun ev w' => ev = .returned (.bool true) ∧ BlockIs w' q 213 #[.int .i64 pos, .iface 288 (.pointer (some a))] ∧ w.grownBy w' (some q) := by
  have hlt : q < w.heap.size := hq.lt
  have hgl : 10 < w.heap.size := World.block_lt_of_cell? _ _ hg
  have h1 := @run_callFunc_extern Tryz.prog 135 _ (fun args => ReflectliteValue.unpack (args.getD 0 (.tuple #[]))) Tryz.func135 (by kernel_rfl) (by kernel_rfl) (by kernel_rfl) (by kernel_rfl)
  have h2 := @run_callFunc_extern Tryz.prog 136 _ (ReflectliteValue.methodAny (ReflectliteValue.valueError "reflectlite.Value.Type" 0) (fun t _ _ _ => ReflectliteType.toType t)) Tryz.func136 (by kernel_rfl) (by kernel_rfl) (by kernel_rfl) (by kernel_rfl)
  have h3 := @run_callFunc_extern Tryz.prog 137 _ (ReflectliteValue.method (ReflectliteValue.valueError "reflectlite.Value.IsNil" 0) ReflectliteValue.isNil) Tryz.func137 (by kernel_rfl) (by kernel_rfl) (by kernel_rfl) (by kernel_rfl)
  have h4 := @run_callFunc_extern Tryz.prog 194 _ (ReflectliteType.abiMethod fun t => do pure (.int .u8 (← Rtype.kind t))) Tryz.func194 (by kernel_rfl) (by kernel_rfl) (by kernel_rfl) (by kernel_rfl)
  have h5 := @run_callFunc_extern Tryz.prog 208 _ (ReflectliteType.method ReflectliteType.elem) Tryz.func208 (by kernel_rfl) (by kernel_rfl) (by kernel_rfl) (by kernel_rfl)
  have h6 := @run_callFunc_extern Tryz.prog 209 _ (ReflectliteType.relation "Implements" ReflectliteType.implements_) Tryz.func209 (by kernel_rfl) (by kernel_rfl) (by kernel_rfl) (by kernel_rfl)
  have h7 := @run_callFunc_extern Tryz.prog 139 _ ReflectliteType.typeOf Tryz.func139 (by kernel_rfl) (by kernel_rfl) (by kernel_rfl) (by kernel_rfl)
  have h8 := @run_callFunc_extern Tryz.prog 206 _ (ReflectliteType.relation "AssignableTo" ReflectliteType.assignableTo) Tryz.func206 (by kernel_rfl) (by kernel_rfl) (by kernel_rfl) (by kernel_rfl)
  have h9 := @run_callFunc_extern Tryz.prog 161 _ (ReflectliteValue.method (ReflectliteValue.valueError "reflectlite.Value.Elem" 0) ReflectliteValue.elem) Tryz.func161 (by kernel_rfl) (by kernel_rfl) (by kernel_rfl) (by kernel_rfl)
  have h10 := @run_callFunc_extern Tryz.prog 162 _ ReflectliteValue.set Tryz.func162 (by kernel_rfl) (by kernel_rfl) (by kernel_rfl) (by kernel_rfl)
  have tO := asTypeOfF
  have mA := asMethodAssignableTo
  have aF := asAssignableF
  have vF := asValueOfF
  have vP := asValueOfP
  have tP := asTypeP
  have mK := asMethodKind
  have mE := asMethodElem
  have mI := asMethodImplements
  have kP := asKindP
  have kF := asKindF
  have eP := asElemP
  have iF := asImplementsF
  have n8 := asIsNil ⟨w.heap.size, 0, none⟩ ⟨q, 0, none⟩ ((w.alloc (.cells #[.pointer (some ⟨q, 0, none⟩)] 215)).alloc (.cells #[tyP, .pointer (some ⟨w.heap.size, 0, none⟩), .int .u64 150] 194)) (by simp)
  have hg2 : ((w.alloc (.cells #[.pointer (some ⟨q, 0, none⟩)] 215)).alloc (.cells #[tyP, .pointer (some ⟨w.heap.size, 0, none⟩), .int .u64 150] 194)).cell? ⟨10, 0, none⟩ = some (.iface 256 (.agg #[tyE])) := by
    rw [World.cell?_alloc_lt _ _ ⟨10, 0, none⟩ (by simp; omega), World.cell?_alloc_lt _ _ ⟨10, 0, none⟩ hgl]; exact hg
  have el := asElemV ⟨w.heap.size, 0, none⟩ ⟨q, 0, none⟩ (((w.alloc (.cells #[.pointer (some ⟨q, 0, none⟩)] 215)).alloc (.cells #[tyP, .pointer (some ⟨w.heap.size, 0, none⟩), .int .u64 150] 194)).alloc (.cells #[tyP, .pointer (some ⟨w.heap.size, 0, none⟩), .int .u64 150] 194)) (by rw [World.cell?_alloc_lt _ _ ⟨w.heap.size, 0, none⟩ (by simp; omega)]; simp)
  have hb1 := below_new w (.cells #[.pointer (some ⟨q, 0, none⟩)] 215)
  have hb2 := hb1.alloc (by simp) (.cells #[tyP, .pointer (some ⟨w.heap.size, 0, none⟩), .int .u64 150] 194)
  have hb3 := hb2.alloc (by simp; omega) (.cells #[tyP, .pointer (some ⟨w.heap.size, 0, none⟩), .int .u64 150] 194)
  have hb4 := hb3.alloc (by simp; omega) (.cells #[.int .i64 pos, .iface 288 (.pointer (some a))] 213)
  have hq4 := hq.below hb4 hlt
  have hv4 := BlockIs.made (((w.alloc (.cells #[.pointer (some ⟨q, 0, none⟩)] 215)).alloc (.cells #[tyP, .pointer (some ⟨w.heap.size, 0, none⟩), .int .u64 150] 194)).alloc (.cells #[tyP, .pointer (some ⟨w.heap.size, 0, none⟩), .int .u64 150] 194)) 213 #[.int .i64 pos, .iface 288 (.pointer (some a))]
  simp only [World.size_alloc] at hv4
  have st := asSetF q (w.heap.size + 1 + 1 + 1) _ _ o0 o1 _ hv4 hq4 rfl rfl
  have hB5 := (hq4.set1 0 (.int .i64 pos)).set1 1 (.iface 288 (.pointer (some a)))
  have hG5 := grown_at (grown_at (grown_below hb4 (some q)) 0 (.int .i64 pos)) 1 (.iface 288 (.pointer (some a)))
  have HF := Lib.hid (And.intro hB5 hG5)
  clear hb1 hb2 hb3 hb4 hq4 hv4 hB5 hG5 hq hg
  unfold tyP tyF tyE at *
  go_enter Tryz.func97, Tryz.ntmps97
  go_wp2
  refine wp_loop_rounds 1 ?_
  rw [rounds_succ]
  go_wp2
  go_ret
  exact ⟨rfl, HF.out.1, HF.out.2⟩
end Go.Proofs.YtpdfmpegcejmkaaGreatDoor
