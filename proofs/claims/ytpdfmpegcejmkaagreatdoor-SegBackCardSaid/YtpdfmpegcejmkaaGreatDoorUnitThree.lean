/- A block's reader: is the sum another one; the fields behind it. -/
/- A block's reader: three fields behind the sum. -/
import Derived.Test.YtpdfmpegcejmkaaGreatDoorUnitLack
import Derived.LoopN
namespace Go.Proofs.YtpdfmpegcejmkaaGreatDoor
open Go.RowKit
/-- A call on an opener began in w: its box is block p, its reader block g is in this state. -/
structure OpW (σ : Sen) (w w' : World) (p g b0 off c : Nat) (b : List Int) (s : RSt) : Prop where
  rd : RdAt σ w' g (hdB b) s
  bx : BlockIs w' p 273 #[.pointer (some ⟨g, 0, none⟩), .slice (some ⟨b0, off, none⟩) 256 c]
  fr : w.grownBy w' (some g)
/-- Where it all began: the variables are laid, the block's bytes are there. -/
structure OpE (σ : Sen) (τ : SenU) (w0 w : World) (g b0 off c : Nat) (b : List Int) : Prop where
  env : Env σ w0 g w
  gl : GlU τ w0
  bytes : BytesAt w0 (some ⟨b0, off, none⟩) b
  len : b.length = 256
  cap : 256 ≤ c ∧ c ≤ 9223372036854775807
section
variable {σ : Sen} {τ : SenU} {w0 w w' w2 : World} {p g b0 off c : Nat} {b : List Int} {s : RSt}
theorem OpW.below (k : OpW σ w w' p g b0 off c b s) (E : OpE σ τ w0 w g b0 off c b) : Below w0.heap.size w0 w' := below_grown E.env.bl k.fr E.env.bl.size E.env.lo
theorem OpW.drew (k : OpW σ w w' p g b0 off c b s) : OpW σ w w'.drew p g b0 off c b s := ⟨k.rd.drew, k.bx, ⟨k.fr.os, k.fr.tape, k.fr.output, k.fr.size, k.fr.block⟩⟩
theorem OpW.on (k : OpW σ w w' p g b0 off c b s) (hb : Below w'.heap.size w' w2) : OpW σ w w2 p g b0 off c b s := ⟨k.rd.below hb, k.bx.below hb k.bx.lt, k.fr.trans (grown_below hb _)⟩
theorem OpW.cells (k : OpW σ w w' p g b0 off c b s) : w'.cell? ⟨p, 0, none⟩ = some (.pointer (some ⟨g, 0, none⟩)) ∧ w'.cell? ⟨p, 1, none⟩ = some (.slice (some ⟨b0, off, none⟩) 256 c) := ⟨k.bx.cell 0, k.bx.cell 1⟩
theorem OpW.envAt (k : OpW σ w w' p g b0 off c b s) (E : OpE σ τ w0 w g b0 off c b) : Env σ w0 g w' := ⟨E.env.gl, k.below E, E.env.lo⟩
theorem OpE.at_ (E : OpE σ τ w0 w g b0 off c b) (hs : w.grownBy w2 (some g)) : OpE σ τ w0 w2 g b0 off c b := ⟨E.env.grown hs, E.gl, E.bytes, E.len, E.cap⟩
theorem OpW.field (k : OpW σ w w' p g b0 off c b s) (E : OpE σ τ w0 w g b0 off c b) (hp : p ≠ g) (wd : Int) :
    Calls Tryz.prog 83 #[.pointer (some ⟨g, 0, none⟩), .int .i64 wd] w' fun e w2 => e = .returned (.int .i64 (fieldR (hdB b) wd s).1) ∧ OpW σ w w2 p g b0 off c b (fieldR (hdB b) wd s).2 := by
  refine (rfield_any σ w0 w' g (hdB b) s wd k.rd (k.envAt E).f (by rw [hdB_len E.len]; decide)).mono ?_
  rintro e w2 ⟨rfl, hG⟩
  exact ⟨rfl, hG.rd, k.bx.kept hG.fr (fun e => hp (Option.some.inj e)), k.fr.trans hG.fr⟩
theorem OpW.sum (k : OpW σ w w' p g b0 off c b s) (E : OpE σ τ w0 w g b0 off c b) :
    Calls Tryz.prog 134 #[.slice (some ⟨b0, off, none⟩) 256 c] w' fun e w2 => e = .returned (.int .u32 ((Mx.sum (unitRow b)).toNat : Int)) ∧ OpW σ w w2 p g b0 off c b s := by
  refine (usum_any w' _ b c (E.bytes.below (k.below E)) E.len E.cap.1 E.cap.2).mono ?_
  rintro e w2 ⟨rfl, hb⟩
  exact ⟨rfl, k.on hb⟩
end
theorem field4 {b : List Int} (hb : ∀ z ∈ b, 0 ≤ z ∧ z < 256) (hl : b.length = 256) : fieldR (hdB b) 4 (.ok 0) = (unle ((b.drop 28).take 4), .ok 4) := by
  have l4 : ((b.drop 28).take 4).length = 4 := by rw [List.length_take, List.length_drop, hl]; rfl
  have ht : (hdB b).take 4 = (b.drop 28).take 4 := by
    unfold hdB
    rw [List.take_append_of_le_length (by omega), List.take_of_length_le (by omega)]
  have hu := unle_bd ((b.drop 28).take 4) (fun z hz => hb z (List.mem_of_mem_drop (List.mem_of_mem_take hz)))
  rw [l4] at hu
  have h4 : top 4 = 4294967295 := rfl
  unfold fieldR
  simp only
  rw [if_neg (by rw [hdB_len hl, h4]; omega), List.drop_zero, show (4 : Int).toNat = 4 from rfl, ht, if_neg (by rw [h4]; have := hu.2; omega)]
set_option maxRecDepth 100000 in
set_option maxHeartbeats 4000000 in
theorem unsealed_any {σ : Sen} {τ : SenU} {w0 w : World} {g b0 off c : Nat} {b : List Int} (E : OpE σ τ w0 w g b0 off c b) (hr : RdAt σ w g (hdB b) (.ok 0)) (hgl : g < w.heap.size) :
    Calls Tryz.prog 166 #[.agg #[.pointer (some ⟨g, 0, none⟩), .slice (some ⟨b0, off, none⟩) 256 c]] w fun e w' => ∃ v, e = .returned v ∧ FlawOf τ (if fitsB b then 0 else 5) v ∧ RdAt σ w' g (hdB b) (.ok 4) ∧ w.grownBy w' (some g) := by
  have hbn := below_new w (.cells #[.pointer (some ⟨g, 0, none⟩), .slice (some ⟨b0, off, none⟩) 256 c] 273)
  have hB := BlockIs.made w 273 #[.pointer (some ⟨g, 0, none⟩), .slice (some ⟨b0, off, none⟩) 256 c]
  have KA : Hid (OpW σ w (w.alloc (.cells #[.pointer (some ⟨g, 0, none⟩), .slice (some ⟨b0, off, none⟩) 256 c] 273)) w.heap.size g b0 off c b (.ok 0)) := Lib.hid ⟨hr.below hbn, hB, grown_below hbn _⟩
  have hpg : w.heap.size ≠ g := by omega
  have HE := Lib.hid E
  have HF := Lib.hid (fun (w' : World) (k : OpW σ w w' w.heap.size g b0 off c b (.ok 0)) => k.field E hpg 4)
  rw [field4 E.bytes.1 E.len] at HF
  have HS := Lib.hid (fun (w' : World) (s : RSt) (k : OpW σ w w' w.heap.size g b0 off c b s) => k.sum E)
  have Hfit : Hid (fitsB b ↔ unle ((b.drop 28).take 4) = ((Mx.sum (unitRow b)).toNat : Int)) := Lib.hid Iff.rfl
  obtain ⟨x, hx⟩ : ∃ x, Mx.sum (unitRow b) = x := ⟨_, rfl⟩
  obtain ⟨n, hn⟩ : ∃ n, unle ((b.drop 28).take 4) = n := ⟨_, rfl⟩
  rw [hx] at HS Hfit
  rw [hn] at HF Hfit
  obtain ⟨r, hrr⟩ : ∃ r : Int, (if fitsB b then (0 : Int) else 5) = r := ⟨_, rfl⟩
  rw [hrr]
  have Hrr := Lib.hid hrr
  have hxl : (x.toNat : Int) < 4294967296 := by have := x.isLt; omega
  have hwx : IntKind.i64.wrap (x.toNat : Int) = x.toNat := IntWalk.i64_in _ (by omega)
  obtain ⟨w1, hw1⟩ : ∃ w1, w.alloc (.cells #[.pointer (some ⟨g, 0, none⟩), .slice (some ⟨b0, off, none⟩) 256 c] 273) = w1 := ⟨_, rfl⟩
  rw [hw1] at KA
  have Hw1 := Lib.hid hw1
  clear hx hn hr hbn hB hw1 E hrr
  go_enter Tryz.func166, Tryz.ntmps166
  go_wp2_with fail
  rw [Hw1.out]
  have m0 := KA.out.cells
  by_cases hf : n = (x.toNat : Int)
  · have hf1 : (n != (x.toNat : Int)) = false := by rw [hf]; simp
    have Hyes := Lib.hid (Hfit.out.2 hf)
    clear hf
    go_region_held3 (fun w' => w'.cell? ⟨w.heap.size, 0, none⟩ = some (.pointer (some ⟨g, 0, none⟩)) ∧ w'.cell? ⟨w.heap.size, 1, none⟩ = some (.slice (some ⟨b0, off, none⟩) 256 c)) (first | exact m0 | exact mE | exact mF | exact mS) (first
      | (go_at_call 83; refine (HF.out _ ?_).mono ?_; (first | exact KS.out | exact KS.out.drew); rintro e wE ⟨rfl, k⟩; have mE := k.cells; have KE := Lib.hid k; clear k)
      | (go_at_call 83; refine (HF.out _ ?_).mono ?_; (first | exact KA.out | exact KA.out.drew); rintro e wF ⟨rfl, k⟩; have mF := k.cells; have KF := Lib.hid k; clear k)
      | (go_at_call 134; refine (HS.out _ (.ok 4) ?_).mono ?_; (first | exact KF.out | exact KF.out.drew); rintro e wE ⟨rfl, k⟩; have mE := k.cells; have KE := Lib.hid k; clear k)
      | (go_at_call 134; refine (HS.out _ (.ok 0) ?_).mono ?_; (first | exact KA.out | exact KA.out.drew); rintro e wS ⟨rfl, k⟩; have mS := k.cells; have KS := Lib.hid k; clear k)
      | fail)
    all_goals
      go_wp2_with fail
      go_ret
      exact ⟨_, rfl, by rw [← Hrr.out, if_pos Hyes.out]; exact FlawOf.none τ, KE.out.rd, KE.out.fr⟩
  · have hf1 : (n != (x.toNat : Int)) = true := by simpa using hf
    have Hno := Lib.hid (fun h => hf (Hfit.out.1 h))
    clear hf
    go_region_held3 (fun w' => w'.cell? ⟨w.heap.size, 0, none⟩ = some (.pointer (some ⟨g, 0, none⟩)) ∧ w'.cell? ⟨w.heap.size, 1, none⟩ = some (.slice (some ⟨b0, off, none⟩) 256 c)) (first | exact m0 | exact mE | exact mF | exact mS) (first
      | (go_at_call 83; refine (HF.out _ ?_).mono ?_; (first | exact KS.out | exact KS.out.drew); rintro e wE ⟨rfl, k⟩; have mE := k.cells; have KE := Lib.hid k; clear k)
      | (go_at_call 83; refine (HF.out _ ?_).mono ?_; (first | exact KA.out | exact KA.out.drew); rintro e wF ⟨rfl, k⟩; have mF := k.cells; have KF := Lib.hid k; clear k)
      | (go_at_call 134; refine (HS.out _ (.ok 4) ?_).mono ?_; (first | exact KF.out | exact KF.out.drew); rintro e wE ⟨rfl, k⟩; have mE := k.cells; have KE := Lib.hid k; clear k)
      | (go_at_call 134; refine (HS.out _ (.ok 0) ?_).mono ?_; (first | exact KA.out | exact KA.out.drew); rintro e wS ⟨rfl, k⟩; have mS := k.cells; have KS := Lib.hid k; clear k)
      | fail)
    all_goals
      have gs := (HE.out.gl.below (KE.out.below HE.out)).sm
      have HGs := Lib.hid (HE.out.gl.below (KE.out.below HE.out))
      unfold errK at gs
      go_wp2_with fail
      go_ret
      exact ⟨_, rfl, by rw [← Hrr.out, if_neg Hno.out]; exact HGs.out.flaw_sm 28, KE.out.rd, KE.out.fr⟩
end Go.Proofs.YtpdfmpegcejmkaaGreatDoor
namespace Go.Proofs.YtpdfmpegcejmkaaGreatDoor
open Go.RowKit
theorem made3 (w : World) : (Instr.makeSlice 48 (.int .i64 3) (.int .i64 3)).run Tryz.prog w = .ok (.slice (some ⟨w.heap.size, 0, none⟩) 3 3) (w.alloc (.cells #[.int .i64 0, .int .i64 0, .int .i64 0] 3)) := by
  obtain ⟨i0, hi, hz0, hz1, hz2⟩ := info_parts infoInt
  have := run_make (P := Tryz.prog) w 48 3 i0 (.int .i64 0) Tryz.underlying48 hi hz0 .i64 .i64 3 3 (by decide) (by decide) (by rw [hz2]; decide) (by decide)
  rw [this]
  have h : madeCells (Value.int .i64 0).cells ((3 : Int).toNat * i0.size) = #[.int .i64 0, .int .i64 0, .int .i64 0] := by rw [hz1]; kernel_rfl
  rw [h]; rfl
/-- What lies ahead of the reader and is none of its bytes' may turn. -/
theorem RdAt.older {σ : Sen} {w w' : World} {g p : Nat} {bs : List Int} {s : RSt} (h : RdAt σ w g bs s) (hg : w.grownBy w' (some p)) (hp : p ≠ g) (hx : ∀ x cap k ev a, RdIs σ w g bs s x cap k ev → x = some a → a.block ≠ p) : RdAt σ w' g bs s := by
  obtain ⟨x, cap, k, ev, h⟩ := h
  exact ⟨x, cap, k, ev, h.kept hg (fun e => hp (Option.some.inj e).symm) (fun a ha e => hx x cap k ev a h ha (Option.some.inj e))⟩
theorem OpW.fieldG {σ : Sen} {τ : SenU} {w0 w w' : World} {p g b0 off c : Nat} {b : List Int} {s : RSt} (k : OpW σ w w' p g b0 off c b s) (E : OpE σ τ w0 w g b0 off c b) (hp : p ≠ g) (wd : Int) :
    Calls Tryz.prog 83 #[.pointer (some ⟨g, 0, none⟩), .int .i64 wd] w' fun e w2 => e = .returned (.int .i64 (fieldR (hdB b) wd s).1) ∧ OpW σ w w2 p g b0 off c b (fieldR (hdB b) wd s).2 ∧ w'.grownBy w2 (some g) := by
  refine (rfield_any σ w0 w' g (hdB b) s wd k.rd (k.envAt E).f (by rw [hdB_len E.len]; decide)).mono ?_
  rintro e w2 ⟨rfl, hG⟩
  exact ⟨rfl, ⟨hG.rd, k.bx.kept hG.fr (fun e => hp (Option.some.inj e)), k.fr.trans hG.fr⟩, hG.fr⟩
theorem OpW.set {σ : Sen} {w w' : World} {p g b0 off c y i : Nat} {b : List Int} {s : RSt} {v : Value} (k : OpW σ w w' p g b0 off c b s) (hy : w.heap.size ≤ y) (hyp : y ≠ p) (hyg : y ≠ g) (hx : ∀ x cap k ev a, RdIs σ w' g (hdB b) s x cap k ev → x = some a → a.block ≠ y) : OpW σ w (w'.setCell ⟨y, i, none⟩ v) p g b0 off c b s := by
  have hg := grown_at (World.grownBy.refl w' (some y)) i v
  exact ⟨RdAt.older k.rd hg hyg hx, k.bx.kept hg (fun e => hyp (Option.some.inj e).symm), k.fr.andThen hg (fun b e => by cases e; exact .inl hy)⟩
set_option maxRecDepth 100000 in
set_option maxHeartbeats 8000000 in
theorem three_any {σ : Sen} {τ : SenU} {w0 w : World} {g b0 off c x : Nat} {b : List Int} {s : RSt} (E : OpE σ τ w0 w g b0 off c b) (hr : RdAt σ w g (hdB b) s) (hgl : g < w.heap.size) (hxg : x ≠ g) (hx : BlockIs w x 3 #[.int .i64 1, .int .i64 6, .int .i64 1]) :
    Calls Tryz.prog 176 #[.agg #[.pointer (some ⟨g, 0, none⟩), .slice (some ⟨b0, off, none⟩) 256 c], .slice (some ⟨x, 0, none⟩) 3 3] w fun e w' => e = .returned (.slice (some ⟨w.heap.size + 1, 0, none⟩) 3 3) ∧
      BlockIs w' (w.heap.size + 1) 3 #[.int .i64 (fieldR (hdB b) 1 s).1, .int .i64 (fieldR (hdB b) 6 (fieldR (hdB b) 1 s).2).1, .int .i64 (fieldR (hdB b) 1 (fieldR (hdB b) 6 (fieldR (hdB b) 1 s).2).2).1] ∧
      RdAt σ w' g (hdB b) (fieldR (hdB b) 1 (fieldR (hdB b) 6 (fieldR (hdB b) 1 s).2).2).2 ∧ w.grownBy w' (some g) := by
  have hmk := made3
  have hbn := below_new w (.cells #[.pointer (some ⟨g, 0, none⟩), .slice (some ⟨b0, off, none⟩) 256 c] 273)
  have hB := BlockIs.made w 273 #[.pointer (some ⟨g, 0, none⟩), .slice (some ⟨b0, off, none⟩) 256 c]
  have hb2 := hbn.alloc hbn.size (.cells #[.int .i64 0, .int .i64 0, .int .i64 0] 3)
  have hR0 := BlockIs.made (w.alloc (.cells #[.pointer (some ⟨g, 0, none⟩), .slice (some ⟨b0, off, none⟩) 256 c] 273)) 3 #[.int .i64 0, .int .i64 0, .int .i64 0]
  rw [World.size_alloc] at hR0
  have hpg : w.heap.size ≠ g := by omega
  have hyg : w.heap.size + 1 ≠ g := by omega
  have HN := Lib.hid (And.intro hpg (And.intro hyg hxg))
  obtain ⟨w2, hw2⟩ : ∃ w2, (w.alloc (.cells #[.pointer (some ⟨g, 0, none⟩), .slice (some ⟨b0, off, none⟩) 256 c] 273)).alloc (.cells #[.int .i64 0, .int .i64 0, .int .i64 0] 3) = w2 := ⟨_, rfl⟩
  have hB2 := hB.below (below_new _ (.cells #[.int .i64 0, .int .i64 0, .int .i64 0] 3)) hB.lt
  rw [hw2] at hb2 hR0 hB2
  have K2 : Hid (OpW σ w w2 w.heap.size g b0 off c b s) := Lib.hid ⟨hr.below hb2, hB2, grown_below hb2 _⟩
  have R2 := Lib.hid hR0
  have X2 := Lib.hid (hx.below hb2 hx.lt)
  have HE := Lib.hid E
  have Hw2 := Lib.hid hw2
  have Hx := Lib.hid hx.lt
  have HS : Hid (∀ (w' : World) (s : RSt) (n : Int) (i : Nat), OpW σ w w' w.heap.size g b0 off c b s → OpW σ w (w'.setCell ⟨w.heap.size + 1, i, none⟩ (.int .i64 n)) w.heap.size g b0 off c b s) := Lib.hid (fun w' s n i k => k.set (by omega) (by omega) hyg (fun x cap k' ev a hI ha => by have := hI.off a ha; omega))
  have HF := Lib.hid (fun (w' : World) (s : RSt) (wd : Int) (k : OpW σ w w' w.heap.size g b0 off c b s) => k.fieldG E hpg wd)
  clear hr hbn hB hb2 hR0 hB2 hw2 E hx hpg hyg hxg
  obtain ⟨r1, h1⟩ : ∃ r, fieldR (hdB b) 1 s = r := ⟨_, rfl⟩
  obtain ⟨r2, h2⟩ : ∃ r, fieldR (hdB b) 6 r1.2 = r := ⟨_, rfl⟩
  obtain ⟨r3, h3⟩ : ∃ r, fieldR (hdB b) 1 r2.2 = r := ⟨_, rfl⟩
  rw [h1, h2, h3]
  have H1 := Lib.hid h1
  have H2 := Lib.hid h2
  have H3 := Lib.hid h3
  clear h1 h2 h3
  go_enter Tryz.func176, Tryz.ntmps176
  go_wp2_with fail
  rw [Hw2.out]
  refine wp_loop_rounds 4 ?_
  rw [rounds_succ]
  have x0 := X2.out.cell 0
  have p0 := K2.out.cells.1
  simp only [List.getElem?_toArray, List.getElem?_cons_zero] at x0
  go_wp2_with fail
  refine (HF.out w2 s 1 K2.out).mono ?_
  rw [H1.out]
  rintro e w0a ⟨rfl, k, hg⟩
  clear x0 p0
  have Ra0 := Lib.hid (R2.out.kept hg (fun e => HN.out.2.1 (Option.some.inj e)))
  have Xa0 := Lib.hid (X2.out.kept hg (fun e => HN.out.2.2 (Option.some.inj e)))
  have q0 := Ra0.out.cell 0
  have f0 := Ra0.out.free 0
  simp only [List.getElem?_toArray, List.getElem?_cons_zero] at q0
  have K3 := Lib.hid (HS.out w0a r1.2 r1.1 0 k)
  have R3 : Hid (BlockIs (w0a.setCell ⟨w.heap.size + 1, 0, none⟩ (.int .i64 r1.1)) (w.heap.size + 1) 3 #[.int .i64 r1.1, .int .i64 0, .int .i64 0]) := Lib.hid (Ra0.out.set1 0 (.int .i64 r1.1))
  have X3 := Lib.hid (Xa0.out.kept (grown_at (World.grownBy.refl w0a (some (w.heap.size + 1))) 0 (.int .i64 r1.1)) (fun e => by have := Option.some.inj e; have := Hx.out; omega))
  clear k hg Ra0 Xa0 K2 R2 X2
  go_wp2_with fail
  clear q0 f0
  generalize w0a.setCell ⟨w.heap.size + 1, 0, none⟩ (.int .i64 r1.1) = w3 at *
  rw [rounds_succ]
  have x1 := X3.out.cell 1
  have p1 := K3.out.cells.1
  simp only [List.getElem?_toArray, List.getElem?_cons_zero, List.getElem?_cons_succ] at x1
  go_wp2_with fail
  refine (HF.out w3 r1.2 6 K3.out).mono ?_
  rw [H2.out]
  rintro e w1a ⟨rfl, k, hg⟩
  clear x1 p1
  have Ra1 := Lib.hid (R3.out.kept hg (fun e => HN.out.2.1 (Option.some.inj e)))
  have Xa1 := Lib.hid (X3.out.kept hg (fun e => HN.out.2.2 (Option.some.inj e)))
  have q1 := Ra1.out.cell 1
  have f1 := Ra1.out.free 1
  simp only [List.getElem?_toArray, List.getElem?_cons_zero, List.getElem?_cons_succ] at q1
  have K4 := Lib.hid (HS.out w1a r2.2 r2.1 1 k)
  have R4 : Hid (BlockIs (w1a.setCell ⟨w.heap.size + 1, 1, none⟩ (.int .i64 r2.1)) (w.heap.size + 1) 3 #[.int .i64 r1.1, .int .i64 r2.1, .int .i64 0]) := Lib.hid (Ra1.out.set1 1 (.int .i64 r2.1))
  have X4 := Lib.hid (Xa1.out.kept (grown_at (World.grownBy.refl w1a (some (w.heap.size + 1))) 1 (.int .i64 r2.1)) (fun e => by have := Option.some.inj e; have := Hx.out; omega))
  clear k hg Ra1 Xa1 K3 R3 X3
  go_wp2_with fail
  clear q1 f1
  generalize w1a.setCell ⟨w.heap.size + 1, 1, none⟩ (.int .i64 r2.1) = w4 at *
  rw [rounds_succ]
  have x2 := X4.out.cell 2
  have p2 := K4.out.cells.1
  simp only [List.getElem?_toArray, List.getElem?_cons_zero, List.getElem?_cons_succ] at x2
  go_wp2_with fail
  refine (HF.out w4 r2.2 1 K4.out).mono ?_
  rw [H3.out]
  rintro e w2a ⟨rfl, k, hg⟩
  clear x2 p2
  have Ra2 := Lib.hid (R4.out.kept hg (fun e => HN.out.2.1 (Option.some.inj e)))
  have Xa2 := Lib.hid (X4.out.kept hg (fun e => HN.out.2.2 (Option.some.inj e)))
  have q2 := Ra2.out.cell 2
  have f2 := Ra2.out.free 2
  simp only [List.getElem?_toArray, List.getElem?_cons_zero, List.getElem?_cons_succ] at q2
  have K5 := Lib.hid (HS.out w2a r3.2 r3.1 2 k)
  have R5 : Hid (BlockIs (w2a.setCell ⟨w.heap.size + 1, 2, none⟩ (.int .i64 r3.1)) (w.heap.size + 1) 3 #[.int .i64 r1.1, .int .i64 r2.1, .int .i64 r3.1]) := Lib.hid (Ra2.out.set1 2 (.int .i64 r3.1))
  have X5 := Lib.hid (Xa2.out.kept (grown_at (World.grownBy.refl w2a (some (w.heap.size + 1))) 2 (.int .i64 r3.1)) (fun e => by have := Option.some.inj e; have := Hx.out; omega))
  clear k hg Ra2 Xa2 K4 R4 X4
  go_wp2_with fail
  clear q2 f2
  generalize w2a.setCell ⟨w.heap.size + 1, 2, none⟩ (.int .i64 r3.1) = w5 at *
  rw [rounds_succ]
  go_wp2_with fail
  go_ret
  exact ⟨rfl, R5.out, K5.out.rd, K5.out.fr⟩
end Go.Proofs.YtpdfmpegcejmkaaGreatDoor
