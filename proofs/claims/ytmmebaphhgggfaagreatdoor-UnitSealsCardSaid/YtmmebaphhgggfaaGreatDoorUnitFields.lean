/- A block's reader: is the sum another one; the fields behind it. -/
import Derived.Test.YtmmebaphhgggfaaGreatDoorUnitReader
import Derived.Test.YtmmebaphhgggfaaGreatDoorUnitLack
namespace Go.Proofs.YtmmebaphhgggfaaGreatDoor
open Go.RowKit
/-- A call on an opener began in w: its box is block p, its reader block g is in this state. -/
structure OpW (σ : Sen) (w w' : World) (p g b0 off c : Nat) (b : List Int) (s : RSt) : Prop where
  rd : RdAt σ w' g (hdB b) s
  bx : BlockIs w' p 137 #[.pointer (some ⟨g, 0, none⟩), .slice (some ⟨b0, off, none⟩) 256 c]
  fr : w.grownBy w' (some g)
/-- Where it all began: the variables are laid, the block's bytes are there. -/
structure OpE (σ : Sen) (τ : SenU) (w0 w : World) (g b0 off c : Nat) (b : List Int) : Prop where
  env : Env σ w0 g w
  gl : GlU τ w0
  bytes : BytesAt w0 (some ⟨b0, off, none⟩) b
  len : b.length = 256
  cap : 256 ≤ c ∧ c ≤ 9223372036854775807
section
variable {σ : Sen} {τ : SenU} {w0 w w' w2 : World} {p g b0 off c : Nat} {b : List Int} {s : RSt}
theorem OpW.below (k : OpW σ w w' p g b0 off c b s) (E : OpE σ τ w0 w g b0 off c b) : Below w0.heap.size w0 w' := below_grown E.env.bl k.fr E.env.bl.size E.env.lo
theorem OpW.drew (k : OpW σ w w' p g b0 off c b s) : OpW σ w w'.drew p g b0 off c b s := ⟨k.rd.drew, k.bx, ⟨k.fr.os, k.fr.tape, k.fr.output, k.fr.size, k.fr.block⟩⟩
theorem OpW.on (k : OpW σ w w' p g b0 off c b s) (hb : Below w'.heap.size w' w2) : OpW σ w w2 p g b0 off c b s := ⟨k.rd.below hb, k.bx.below hb k.bx.lt, k.fr.trans (grown_below hb _)⟩
theorem OpW.cells (k : OpW σ w w' p g b0 off c b s) : w'.cell? ⟨p, 0, none⟩ = some (.pointer (some ⟨g, 0, none⟩)) ∧ w'.cell? ⟨p, 1, none⟩ = some (.slice (some ⟨b0, off, none⟩) 256 c) := ⟨k.bx.cell 0, k.bx.cell 1⟩
theorem OpW.envAt (k : OpW σ w w' p g b0 off c b s) (E : OpE σ τ w0 w g b0 off c b) : Env σ w0 g w' := ⟨E.env.gl, k.below E, E.env.lo⟩
theorem OpE.at_ (E : OpE σ τ w0 w g b0 off c b) (hs : w.grownBy w2 (some g)) : OpE σ τ w0 w2 g b0 off c b := ⟨E.env.grown hs, E.gl, E.bytes, E.len, E.cap⟩
theorem OpW.field (k : OpW σ w w' p g b0 off c b s) (E : OpE σ τ w0 w g b0 off c b) (hp : p ≠ g) (wd : Int) :
    Calls Tryz.prog 113 #[.pointer (some ⟨g, 0, none⟩), .int .i64 wd] w' fun e w2 => e = .returned (.int .i64 (fieldR (hdB b) wd s).1) ∧ OpW σ w w2 p g b0 off c b (fieldR (hdB b) wd s).2 := by
  refine (rfield_any σ w0 w' g (hdB b) s wd k.rd (k.envAt E).f (by rw [hdB_len E.len]; decide)).mono ?_
  rintro e w2 ⟨rfl, hG⟩
  exact ⟨rfl, hG.rd, k.bx.kept hG.fr (fun e => hp (Option.some.inj e)), k.fr.trans hG.fr⟩
theorem OpW.sum (k : OpW σ w w' p g b0 off c b s) (E : OpE σ τ w0 w g b0 off c b) :
    Calls Tryz.prog 65 #[.slice (some ⟨b0, off, none⟩) 256 c] w' fun e w2 => e = .returned (.int .u32 ((Mx.sum (unitRow b)).toNat : Int)) ∧ OpW σ w w2 p g b0 off c b s := by
  refine (usum_any w' _ b c (E.bytes.below (k.below E)) E.len E.cap.1 E.cap.2).mono ?_
  rintro e w2 ⟨rfl, hb⟩
  exact ⟨rfl, k.on hb⟩
end
theorem field4 {b : List Int} (hb : ∀ z ∈ b, 0 ≤ z ∧ z < 256) (hl : b.length = 256) : fieldR (hdB b) 4 (.ok 0) = (unle ((b.drop 28).take 4), .ok 4) := by
  have l4 : ((b.drop 28).take 4).length = 4 := by rw [List.length_take, List.length_drop, hl]; rfl
  have ht : (hdB b).take 4 = (b.drop 28).take 4 := by
    unfold hdB
    rw [List.take_append_of_le_length (by omega), List.take_of_length_le (by omega)]
  have hu := unle_bd ((b.drop 28).take 4) (fun z hz => hb z (List.mem_of_mem_drop (List.mem_of_mem_take hz)))
  rw [l4] at hu
  have h4 : top 4 = 4294967295 := rfl
  unfold fieldR
  simp only
  rw [if_neg (by rw [hdB_len hl, h4]; omega), List.drop_zero, show (4 : Int).toNat = 4 from rfl, ht, if_neg (by rw [h4]; have := hu.2; omega)]
set_option maxRecDepth 100000 in
set_option maxHeartbeats 4000000 in
theorem unsealed_any {σ : Sen} {τ : SenU} {w0 w : World} {g b0 off c : Nat} {b : List Int} (E : OpE σ τ w0 w g b0 off c b) (hr : RdAt σ w g (hdB b) (.ok 0)) (hgl : g < w.heap.size) :
    Calls Tryz.prog 85 #[.agg #[.pointer (some ⟨g, 0, none⟩), .slice (some ⟨b0, off, none⟩) 256 c]] w fun e w' => ∃ v, e = .returned v ∧ FlawOf τ (if fitsB b then 0 else 5) v ∧ RdAt σ w' g (hdB b) (.ok 4) ∧ w.grownBy w' (some g) := by
  have hbn := below_new w (.cells #[.pointer (some ⟨g, 0, none⟩), .slice (some ⟨b0, off, none⟩) 256 c] 137)
  have hB := BlockIs.made w 137 #[.pointer (some ⟨g, 0, none⟩), .slice (some ⟨b0, off, none⟩) 256 c]
  have KA : Hid (OpW σ w (w.alloc (.cells #[.pointer (some ⟨g, 0, none⟩), .slice (some ⟨b0, off, none⟩) 256 c] 137)) w.heap.size g b0 off c b (.ok 0)) := Lib.hid ⟨hr.below hbn, hB, grown_below hbn _⟩
  have hpg : w.heap.size ≠ g := by omega
  have HE := Lib.hid E
  have HF := Lib.hid (fun (w' : World) (k : OpW σ w w' w.heap.size g b0 off c b (.ok 0)) => k.field E hpg 4)
  rw [field4 E.bytes.1 E.len] at HF
  have HS := Lib.hid (fun (w' : World) (s : RSt) (k : OpW σ w w' w.heap.size g b0 off c b s) => k.sum E)
  have Hfit : Hid (fitsB b ↔ unle ((b.drop 28).take 4) = ((Mx.sum (unitRow b)).toNat : Int)) := Lib.hid Iff.rfl
  obtain ⟨x, hx⟩ : ∃ x, Mx.sum (unitRow b) = x := ⟨_, rfl⟩
  obtain ⟨n, hn⟩ : ∃ n, unle ((b.drop 28).take 4) = n := ⟨_, rfl⟩
  rw [hx] at HS Hfit
  rw [hn] at HF Hfit
  obtain ⟨r, hrr⟩ : ∃ r : Int, (if fitsB b then (0 : Int) else 5) = r := ⟨_, rfl⟩
  rw [hrr]
  have Hrr := Lib.hid hrr
  have hxl : (x.toNat : Int) < 4294967296 := by have := x.isLt; omega
  have hwx : IntKind.i64.wrap (x.toNat : Int) = x.toNat := IntWalk.i64_in _ (by omega)
  obtain ⟨w1, hw1⟩ : ∃ w1, w.alloc (.cells #[.pointer (some ⟨g, 0, none⟩), .slice (some ⟨b0, off, none⟩) 256 c] 137) = w1 := ⟨_, rfl⟩
  rw [hw1] at KA
  have Hw1 := Lib.hid hw1
  clear hx hn hr hbn hB hw1 E hrr
  go_enter Tryz.func85, Tryz.ntmps85
  go_wp2_with fail
  rw [Hw1.out]
  have m0 := KA.out.cells
  by_cases hf : n = (x.toNat : Int)
  · have hf1 : (n != (x.toNat : Int)) = false := by rw [hf]; simp
    have Hyes := Lib.hid (Hfit.out.2 hf)
    clear hf
    go_region_held3 (fun w' => w'.cell? ⟨w.heap.size, 0, none⟩ = some (.pointer (some ⟨g, 0, none⟩)) ∧ w'.cell? ⟨w.heap.size, 1, none⟩ = some (.slice (some ⟨b0, off, none⟩) 256 c)) (first | exact m0 | exact mE | exact mF | exact mS) (first
      | (go_at_call 113; refine (HF.out _ ?_).mono ?_; (first | exact KS.out | exact KS.out.drew); rintro e wE ⟨rfl, k⟩; have mE := k.cells; have KE := Lib.hid k; clear k)
      | (go_at_call 113; refine (HF.out _ ?_).mono ?_; (first | exact KA.out | exact KA.out.drew); rintro e wF ⟨rfl, k⟩; have mF := k.cells; have KF := Lib.hid k; clear k)
      | (go_at_call 65; refine (HS.out _ (.ok 4) ?_).mono ?_; (first | exact KF.out | exact KF.out.drew); rintro e wE ⟨rfl, k⟩; have mE := k.cells; have KE := Lib.hid k; clear k)
      | (go_at_call 65; refine (HS.out _ (.ok 0) ?_).mono ?_; (first | exact KA.out | exact KA.out.drew); rintro e wS ⟨rfl, k⟩; have mS := k.cells; have KS := Lib.hid k; clear k)
      | fail)
    all_goals
      go_wp2_with fail
      go_ret
      exact ⟨_, rfl, by rw [← Hrr.out, if_pos Hyes.out]; exact FlawOf.none τ, KE.out.rd, KE.out.fr⟩
  · have hf1 : (n != (x.toNat : Int)) = true := by simpa using hf
    have Hno := Lib.hid (fun h => hf (Hfit.out.1 h))
    clear hf
    go_region_held3 (fun w' => w'.cell? ⟨w.heap.size, 0, none⟩ = some (.pointer (some ⟨g, 0, none⟩)) ∧ w'.cell? ⟨w.heap.size, 1, none⟩ = some (.slice (some ⟨b0, off, none⟩) 256 c)) (first | exact m0 | exact mE | exact mF | exact mS) (first
      | (go_at_call 113; refine (HF.out _ ?_).mono ?_; (first | exact KS.out | exact KS.out.drew); rintro e wE ⟨rfl, k⟩; have mE := k.cells; have KE := Lib.hid k; clear k)
      | (go_at_call 113; refine (HF.out _ ?_).mono ?_; (first | exact KA.out | exact KA.out.drew); rintro e wF ⟨rfl, k⟩; have mF := k.cells; have KF := Lib.hid k; clear k)
      | (go_at_call 65; refine (HS.out _ (.ok 4) ?_).mono ?_; (first | exact KF.out | exact KF.out.drew); rintro e wE ⟨rfl, k⟩; have mE := k.cells; have KE := Lib.hid k; clear k)
      | (go_at_call 65; refine (HS.out _ (.ok 0) ?_).mono ?_; (first | exact KA.out | exact KA.out.drew); rintro e wS ⟨rfl, k⟩; have mS := k.cells; have KS := Lib.hid k; clear k)
      | fail)
    all_goals
      have gs := (HE.out.gl.below (KE.out.below HE.out)).sm
      have HGs := Lib.hid (HE.out.gl.below (KE.out.below HE.out))
      unfold errK at gs
      go_wp2_with fail
      go_ret
      exact ⟨_, rfl, by rw [← Hrr.out, if_neg Hno.out]; exact HGs.out.flaw_sm 28, KE.out.rd, KE.out.fr⟩
end Go.Proofs.YtmmebaphhgggfaaGreatDoor
