/- The chapter's examples, run. -/
import Derived.Test.YtdmomeeilibnmaaDoorMixFits
import Derived.Lib.SlBytesConst
namespace Go.Proofs.YtdmomeeilibnmaaDoor
open Go.RowKit
def digits : List Int := [49, 50, 51, 52, 53, 54, 55, 56, 57]
def digits4 : List Int := [49, 50, 51, 52]
def digits5 : List Int := [53, 54, 55, 56, 57]
def zeros32 : List Int := List.replicate 32 0
def zeroCells : Array Value := (List.replicate 32 (Value.int .u8 0)).toArray
theorem sum_digits : Mx.sum digits = 3808858755#32 := by decide +kernel
theorem sum_digits4 : Mx.sum digits4 = 4131058926#32 := by decide +kernel
theorem sum_digits5 : Mx.sum digits5 = 2209703384#32 := by decide +kernel
theorem sum_zeros : Mx.sum zeros32 = 2324772522#32 := by decide +kernel
theorem sum_joined : joined 4131058926#32 2209703384#32 5 = 3808858755#32 := by decide +kernel
theorem fits_digits0 : fitsVal digits 0#32 = 5 := by decide +kernel
theorem fits_digits1 : fitsVal digits 3808858755#32 = 0 := by decide +kernel

/-- One part that lies at the head of block g. -/
theorem partsAt_cell {w : World} {g : Nat} {A : Option Addr} {zs : List Int} {cap : Nat} (hc : w.cell? ⟨g, 0, none⟩ = some (.slice A zs.length cap)) (hz : BytesAt w A zs) (hcap : zs.length ≤ cap) (hm : cap ≤ 9223372036854775807) :
    PartsAt w (some ⟨g, 0, none⟩) [⟨A, zs, cap⟩] := by
  refine ⟨fun p hp => ?_, fun _ => ⟨g, 0, rfl, fun i p hp => ?_⟩⟩
  · obtain rfl : p = ⟨A, zs, cap⟩ := by simpa using hp
    exact ⟨hz, hcap, hm⟩
  · match i, hp with
    | 0, hp =>
      obtain rfl : (⟨A, zs, cap⟩ : Part) = p := by simpa using hp
      simpa [Part.val] using hc
    | i + 1, hp => simp at hp
theorem BytesAt.keep {w w' : World} {b off : Nat} {zs : List Int} (h : BytesAt w (some ⟨b, off, none⟩) zs) (hk : ∀ o, w'.cell? ⟨b, o, none⟩ = w.cell? ⟨b, o, none⟩) : BytesAt w' (some ⟨b, off, none⟩) zs :=
  ⟨h.1, fun hne => by
    obtain ⟨b', off', e, hc⟩ := h.2 hne
    obtain ⟨rfl, rfl⟩ : b = b' ∧ off = off' := by simpa using e
    exact ⟨b, off, rfl, fun i hi => (hk _).trans (hc i hi)⟩⟩
theorem bytesAt_cells {w : World} {b off : Nat} {zs : List Int} (hr : ∀ z ∈ zs, 0 ≤ z ∧ z < 256) (hc : ∀ i, i < zs.length → w.cell? ⟨b, off + i, none⟩ = some (.int .u8 (zs.getD i 0))) : BytesAt w (some ⟨b, off, none⟩) zs :=
  ⟨hr, fun _ => ⟨b, off, rfl, hc⟩⟩
theorem sum_at (zs : List Int) (v : BitVec 32) (g : Nat) (A : Option Addr) (cap : Nat) (w : World) (hv : Mx.sum zs = v) (hc : w.cell? ⟨g, 0, none⟩ = some (.slice A zs.length cap)) (hz : BytesAt w A zs) (hcap : zs.length ≤ cap) (hm : cap ≤ 9223372036854775807) :
    Calls Tryd.prog 12 #[.slice (some ⟨g, 0, none⟩) 1 1] w fun e w' => e = .returned (.int .u32 (v.toNat : Int)) ∧ Below w.heap.size w w' := by
  refine (sum_any _ _ 1 w (partsAt_cell hc hz hcap hm) (by simp)).mono ?_
  rw [bytesOf_one, hv]
  exact fun _ _ h => h
theorem sum_nothing (w : World) :
    Calls Tryd.prog 12 #[.slice none 0 0] w fun e w' => e = .returned (.int .u32 0) ∧ Below w.heap.size w w' := by
  refine (sum_any [] none 0 w ⟨(fun p hp => by cases hp), (fun h => absurd rfl h)⟩ (by simp)).mono ?_
  exact fun _ _ h => h
theorem join_five (w : World) : Calls Tryd.prog 14 #[.int .u32 4131058926, .int .u32 2209703384, .int .i64 5] w fun e w' => e = .returned (.int .u32 3808858755) ∧ w = w' := by
  refine (join_any 4131058926#32 2209703384#32 5 w (by decide)).mono ?_
  rw [sum_joined]
  exact fun _ _ h => h
theorem fits_no (g cap : Nat) (b : Addr) (w : World) (hz : BytesAt w (some ⟨g, 0, none⟩) digits) (hcap : 9 ≤ cap) (hm : cap ≤ 9223372036854775807)
    (hg : w.cell? ⟨0, 0, none⟩ = some (.iface 73 (.pointer (some b)))) :
    Calls Tryd.prog 9 #[.slice (some ⟨g, 0, none⟩) 9 cap, .int .u32 0] w fun e w' => e = .returned (.int .i64 5) ∧ Below w.heap.size w w' := by
  refine (fits_any 0#32 digits _ cap b w hz hcap hm hg).mono ?_
  rw [fits_digits0]
  exact fun _ _ h => h
theorem fits_yes (g cap : Nat) (b : Addr) (w : World) (hz : BytesAt w (some ⟨g, 0, none⟩) digits) (hcap : 9 ≤ cap) (hm : cap ≤ 9223372036854775807)
    (hg : w.cell? ⟨0, 0, none⟩ = some (.iface 73 (.pointer (some b)))) :
    Calls Tryd.prog 9 #[.slice (some ⟨g, 0, none⟩) 9 cap, .int .u32 3808858755] w fun e w' => e = .returned (.int .i64 0) ∧ Below w.heap.size w w' := by
  refine (fits_any 3808858755#32 digits _ cap b w hz hcap hm hg).mono ?_
  rw [fits_digits1]
  exact fun _ _ h => h
theorem digits_new (w : World) : BytesAt (w.alloc (.cells #[.int .u8 49, .int .u8 50, .int .u8 51, .int .u8 52, .int .u8 53, .int .u8 54, .int .u8 55, .int .u8 56, .int .u8 57] 5 (9, 10))) (some ⟨w.heap.size, 0, none⟩) digits := by
  refine bytesAt_cells (by decide) (fun i hi => ?_)
  rw [World.cell?_alloc_mark]
  match i, hi with
  | 0, _ => rfl
  | 1, _ => rfl
  | 2, _ => rfl
  | 3, _ => rfl
  | 4, _ => rfl
  | 5, _ => rfl
  | 6, _ => rfl
  | 7, _ => rfl
  | 8, _ => rfl
theorem BytesAt.part {w : World} {b off k : Nat} {zs ys : List Int} (h : BytesAt w (some ⟨b, off, none⟩) zs) (hr : ∀ z ∈ ys, 0 ≤ z ∧ z < 256) (hy : ∀ i, i < ys.length → k + i < zs.length ∧ ys.getD i 0 = zs.getD (k + i) 0) : BytesAt w (some ⟨b, off + k, none⟩) ys :=
  ⟨hr, fun _ => ⟨b, off + k, rfl, fun i hi => by
    obtain ⟨h1, h2⟩ := hy i hi
    rw [h2, Nat.add_assoc]
    exact h.one (k + i) h1⟩⟩
theorem digits4_of {w : World} {b : Nat} (h : BytesAt w (some ⟨b, 0, none⟩) digits) : BytesAt w (some ⟨b, 0, none⟩) digits4 := by
  refine BytesAt.part (k := 0) h (by decide) (fun i hi => ?_)
  match i, hi with
  | 0, _ => exact ⟨by decide, rfl⟩
  | 1, _ => exact ⟨by decide, rfl⟩
  | 2, _ => exact ⟨by decide, rfl⟩
  | 3, _ => exact ⟨by decide, rfl⟩
theorem digits5_of {w : World} {b : Nat} (h : BytesAt w (some ⟨b, 0, none⟩) digits) : BytesAt w (some ⟨b, 4, none⟩) digits5 := by
  refine BytesAt.part (off := 0) (k := 4) h (by decide) (fun i hi => ?_)
  match i, hi with
  | 0, _ => exact ⟨by decide, rfl⟩
  | 1, _ => exact ⟨by decide, rfl⟩
  | 2, _ => exact ⟨by decide, rfl⟩
  | 3, _ => exact ⟨by decide, rfl⟩
  | 4, _ => exact ⟨by decide, rfl⟩
theorem zeros_new (w : World) (t : TypeId) : BytesAt (w.alloc (.cells zeroCells t)) (some ⟨w.heap.size, 0, none⟩) zeros32 := by
  refine bytesAt_cells (by decide) (fun i hi => ?_)
  rw [World.cell?_alloc_new]
  have hi' : i < 32 := hi
  rw [Nat.zero_add]
  show (List.replicate 32 (Value.int .u8 0)).toArray[i]? = some (.int .u8 ((List.replicate 32 (0 : Int)).getD i 0))
  rw [List.getElem?_toArray, List.getElem?_replicate, if_pos hi', List.getD_eq_getElem?_getD, List.getElem?_replicate, if_pos hi']; rfl
theorem sum_digits_at (g g0 : Nat) (w : World) (hc : w.cell? ⟨g, 0, none⟩ = some (.slice (some ⟨g0, 0, none⟩) 9 9)) (hz : BytesAt w (some ⟨g0, 0, none⟩) digits) :
    Calls Tryd.prog 12 #[.slice (some ⟨g, 0, none⟩) 1 1] w fun e w' => e = .returned (.int .u32 3808858755) ∧ Below w.heap.size w w' :=
  sum_at digits 3808858755#32 g _ 9 w sum_digits hc hz (by decide) (by decide)
theorem sum_zeros_at (g g0 : Nat) (w : World) (hc : w.cell? ⟨g, 0, none⟩ = some (.slice (some ⟨g0, 0, none⟩) 32 32)) (hz : BytesAt w (some ⟨g0, 0, none⟩) zeros32) :
    Calls Tryd.prog 12 #[.slice (some ⟨g, 0, none⟩) 1 1] w fun e w' => e = .returned (.int .u32 2324772522) ∧ Below w.heap.size w w' :=
  sum_at zeros32 2324772522#32 g _ 32 w sum_zeros hc hz (by decide) (by decide)
theorem sum_four_at (g g0 : Nat) (w : World) (hc : w.cell? ⟨g, 0, none⟩ = some (.slice (some ⟨g0, 0, none⟩) 4 9)) (hz : BytesAt w (some ⟨g0, 0, none⟩) digits4) :
    Calls Tryd.prog 12 #[.slice (some ⟨g, 0, none⟩) 1 1] w fun e w' => e = .returned (.int .u32 4131058926) ∧ Below w.heap.size w w' :=
  sum_at digits4 4131058926#32 g _ 9 w sum_digits4 hc hz (by decide) (by decide)
theorem sum_five_at (g g0 : Nat) (w : World) (hc : w.cell? ⟨g, 0, none⟩ = some (.slice (some ⟨g0, 4, none⟩) 5 5)) (hz : BytesAt w (some ⟨g0, 4, none⟩) digits5) :
    Calls Tryd.prog 12 #[.slice (some ⟨g, 0, none⟩) 1 1] w fun e w' => e = .returned (.int .u32 2209703384) ∧ Below w.heap.size w w' :=
  sum_at digits5 2209703384#32 g _ 5 w sum_digits5 hc hz (by decide) (by decide)
/-- What stays so, whatever is made and called. -/
structure Inv (w : World) (b : Addr) (W : World) : Prop where
  d : BytesAt W (some ⟨w.heap.size, 0, none⟩) digits
  g : W.cell? ⟨0, 0, none⟩ = some (.iface 73 (.pointer (some b)))
  bl : Below w.heap.size w W
theorem Inv.below {w : World} {b : Addr} {W W' : World} (h : Inv w b W) (hb : Below W.heap.size W W') : Inv w b W' := ⟨h.d.below hb, below_global _ h.g hb, h.bl.trans (hb.mono h.bl.size)⟩
theorem Inv.alloc {w : World} {b : Addr} {W : World} (h : Inv w b W) (o : Obj) : Inv w b (W.alloc o) := h.below ((Below.refl _ _).alloc (Nat.le_refl _) o)
theorem Inv.drew {w : World} {b : Addr} {W : World} (h : Inv w b W) : Inv w b W.drew := ⟨h.d, h.g, h.bl.drew⟩
theorem cell_row (W : World) (v : Value) (t : TypeId) : (W.alloc (.cells #[v] t)).cell? ⟨W.heap.size, 0, none⟩ = some v := by rw [World.cell?_alloc_new]; rfl
theorem cell_row1 (W : World) (o : Obj) (v : Value) (t : TypeId) : ((W.alloc o).alloc (.cells #[v] t)).cell? ⟨W.heap.size + 1, 0, none⟩ = some v := by
  rw [World.cell?_alloc_at _ _ _ _ (by simp)]; rfl
theorem cell_row0 (W : World) (o : Obj) (v : Value) (t : TypeId) : ((W.alloc (.cells #[v] t)).alloc o).cell? ⟨W.heap.size, 0, none⟩ = some v := by
  rw [World.cell?_alloc_past _ _ _ (by simp), World.cell?_alloc_new]; rfl
set_option maxRecDepth 100000 in
set_option maxHeartbeats 4000000 in
theorem awake_any (b : Addr) (w : World) (hg : w.cell? ⟨0, 0, none⟩ = some (.iface 73 (.pointer (some b)))) :
    Calls Tryd.prog 7 #[] w fun e w' => e = .returned (.bool true) ∧ Below w.heap.size w w' := by
  have hd := digits_new w
  have hs : (w.alloc (.cells #[.int .u8 49, .int .u8 50, .int .u8 51, .int .u8 52, .int .u8 53, .int .u8 54, .int .u8 55, .int .u8 56, .int .u8 57] 5 (9, 10))).heap.size = w.heap.size + 1 := by simp
  have hb := (Below.refl w.heap.size w).alloc (Nat.le_refl _) (.cells #[.int .u8 49, .int .u8 50, .int .u8 51, .int .u8 52, .int .u8 53, .int .u8 54, .int .u8 55, .int .u8 56, .int .u8 57] 5 (9, 10))
  have kc := fun (w : World) (C : Array Value) (n c : Nat) => Lib.run_convert_bytes_const (P := Tryd.prog) w 24 5 C n c Tryd.underlying24 Tryd.underlying5
  go_enter Tryd.func7, Tryd.ntmps7
  go_wp2_with fail
  generalize (w.alloc (.cells #[.int .u8 49, .int .u8 50, .int .u8 51, .int .u8 52, .int .u8 53, .int .u8 54, .int .u8 55, .int .u8 56, .int .u8 57] 5 (9, 10))) = w1 at hd hs hb ⊢
  clear kc
  have HI : Inv w b w1 := ⟨hd, below_global _ hg hb, hb⟩
  clear hd hb hs hg
  have hmk : ∀ w, (Instr.makeSlice 24 (.int .i64 32) (.int .i64 32)).run Tryd.prog w = .ok (.slice (some ⟨w.heap.size, 0, none⟩) 32 32) (w.alloc (.cells zeroCells 5)) := fun _ => by kernel_rfl
  go_region_with (first
    | (go_at_call 12; (with_reducible refine (sum_nothing _).mono ?_); rintro e w2 ⟨rfl, hb2⟩; have HJ := HI.drew.below hb2; clear HI; have HI := HJ; clear HJ)
    | (go_at_call 12; (with_reducible refine (sum_digits_at _ w.heap.size _ ?_ ?_).mono ?_); exact cell_row _ _ _; exact (HI.alloc _).d; rintro e w2 ⟨rfl, hb2⟩; have HJ := (HI.alloc _).below hb2; clear HI; have HI := HJ; clear HJ)
    | (go_at_call 12; (with_reducible refine (sum_zeros_at _ w2.heap.size _ ?_ ?_).mono ?_); exact cell_row1 _ _ _ _; exact (zeros_new _ _).below ((Below.refl _ _).alloc (Nat.le_refl _) _); rintro e w2 ⟨rfl, hb2⟩; have HJ := ((HI.alloc _).alloc _).below hb2; clear HI; have HI := HJ; clear HJ)
    | (go_at_call 12; (with_reducible refine (sum_four_at _ w.heap.size _ ?_ ?_).mono ?_); (first | exact cell_row _ _ _ | exact cell_row1 _ _ _ _ | exact cell_row0 _ _ _ _ | exact (hb2.cell (p := ⟨_, 0, none⟩) (by simp only [World.size_alloc]; omega)).trans (cell_row0 _ _ _ _) | exact (hb2.cell (p := ⟨_, 0, none⟩) (by simp only [World.size_alloc]; omega)).trans (cell_row1 _ _ _ _)); exact digits4_of (Inv.d (w := w) (b := b) (by first | exact HI | exact HI.alloc _ | exact (HI.alloc _).alloc _)); rintro e w2 ⟨rfl, hb2⟩; have HJ := Inv.below (w := w) (b := b) (by first | exact HI | exact HI.alloc _ | exact (HI.alloc _).alloc _) hb2; clear HI; have HI := HJ; clear HJ)
    | (go_at_call 12; (with_reducible refine (sum_five_at _ w.heap.size _ ?_ ?_).mono ?_); (first | exact cell_row _ _ _ | exact cell_row1 _ _ _ _ | exact cell_row0 _ _ _ _ | exact (hb2.cell (p := ⟨_, 0, none⟩) (by simp only [World.size_alloc]; omega)).trans (cell_row0 _ _ _ _) | exact (hb2.cell (p := ⟨_, 0, none⟩) (by simp only [World.size_alloc]; omega)).trans (cell_row1 _ _ _ _)); exact digits5_of (Inv.d (w := w) (b := b) (by first | exact HI | exact HI.alloc _ | exact (HI.alloc _).alloc _)); rintro e w2 ⟨rfl, hb2⟩; have HJ := Inv.below (w := w) (b := b) (by first | exact HI | exact HI.alloc _ | exact (HI.alloc _).alloc _) hb2; clear HI; have HI := HJ; clear HJ)
    | (go_at_call 14; (with_reducible refine (join_five _).mono ?_); rintro e w3 ⟨rfl, rfl⟩)
    | (go_at_call 9; (with_reducible refine (fits_no w.heap.size 9 b _ ?_ (by decide) (by decide) ?_).mono ?_); exact HI.d; exact HI.g; rintro e w2 ⟨rfl, hb2⟩; have HJ := HI.below hb2; clear HI; have HI := HJ; clear HJ)
    | (go_at_call 9; (with_reducible refine (fits_yes w.heap.size 9 b _ ?_ (by decide) (by decide) ?_).mono ?_); exact HI.d; exact HI.g; rintro e w2 ⟨rfl, hb2⟩; have HJ := HI.below hb2; clear HI; have HI := HJ; clear HJ))
  all_goals (go_wp2_with fail; go_ret; exact ⟨rfl, HI.bl⟩)
end Go.Proofs.YtdmomeeilibnmaaDoor
