/- A field's bytes laid. -/
/- Rows of numbers in memory. -/
import Derived.Test.YtpdfmpegcejmkaaGreatDoorCodeAdd
import Derived.Test.YtpdfmpegcejmkaaGreatDoorKitBlock
import Derived.Maps.AppendAt
namespace Go.Proofs.YtpdfmpegcejmkaaGreatDoor
open Go.RowKit
/-- Block g is just these bytes. -/
def BytesIs (w : World) (g : Nat) (xs : List Int) : Prop := BlockIs w g 5 (u8s xs).toArray
theorem BytesIs.set1 {w : World} {g : Nat} {xs : List Int} (h : BytesIs w g xs) (i : Nat) (z : Int) : BytesIs (w.setCell ⟨g, i, none⟩ (.int .u8 z)) g (xs.set i z) := by
  have := BlockIs.set1 h i (.int .u8 z)
  unfold BytesIs
  rw [← u8s_set, ← List.setIfInBounds_toArray]
  exact this
theorem BytesIs.cell {w : World} {g : Nat} {xs : List Int} (h : BytesIs w g xs) (i : Nat) (z : Int) (hi : xs[i]? = some z) : w.cell? ⟨g, i, none⟩ = some (.int .u8 z) := by
  rw [BlockIs.cell h i, List.getElem?_toArray]; unfold u8s; rw [List.getElem?_map, hi]; rfl
theorem BytesIs.reads {w : World} {g : Nat} {xs : List Int} (h : BytesIs w g xs) (hx : ∀ z ∈ xs, 0 ≤ z ∧ z < 256) : BytesAt w (some ⟨g, 0, none⟩) xs :=
  bytesAt_cells hx fun i hi => by
    rw [Nat.zero_add]
    exact h.cell i _ (by rw [List.getD_eq_getElem?_getD, List.getElem?_eq_getElem hi]; rfl)
theorem at_mid (D R : List Int) (z : Int) (i : Nat) (hi : R[i]? = some z) : (D ++ R)[D.length + i]? = some z := by
  rw [List.getElem?_append_right (Nat.le_add_right _ _), Nat.add_sub_cancel_left, hi]
theorem le_one (n : Int) : le 1 n = [n % 256] := rfl
theorem le_two (n : Int) : le 2 n = [n % 256, n / 256 % 256] := rfl
theorem le_four (n : Int) : le 4 n = [n % 256, n / 256 % 256, n / 65536 % 256, n / 16777216 % 256] := by
  simp only [le]
  rw [show n / 256 / 256 = n / 65536 by omega, show n / 65536 / 256 = n / 16777216 by omega]
theorem le_six (n : Int) (_h0 : 0 ≤ n) (_h1 : n ≤ 1099511627776) : le 6 n = [n % 256, n / 256 % 256, n / 65536 % 256, n / 16777216 % 256, n / 4294967296 % 256, n / 1099511627776] := by
  simp only [le]
  rw [show n / 256 / 256 = n / 65536 by omega, show n / 65536 / 256 = n / 16777216 by omega, show n / 16777216 / 256 = n / 4294967296 by omega, show n / 4294967296 / 256 = n / 1099511627776 by omega, show n / 1099511627776 % 256 = n / 1099511627776 by omega]
/-- What laying a field leaves. -/
structure Laid (w : World) (g : Nat) (xs : List Int) (w' : World) : Prop where
  bytes : BytesIs w' g xs
  fr : w.grownBy w' (some g)
  sz : w'.heap.size = w.heap.size
theorem Laid.refl {w : World} {g : Nat} {xs : List Int} (h : BytesIs w g xs) : Laid w g xs w := ⟨h, World.grownBy.refl _ _, rfl⟩
theorem Laid.set1 {w w' : World} {g : Nat} {xs : List Int} (h : Laid w g xs w') (i : Nat) (z : Int) : Laid w g (xs.set i z) (w'.setCell ⟨g, i, none⟩ (.int .u8 z)) :=
  ⟨h.bytes.set1 i z, grown_at h.fr i _, by rw [← h.sz]; simp [World.setCell]⟩
theorem Laid.eq {w w' : World} {g : Nat} {xs ys : List Int} (h : Laid w g xs w') (e : xs = ys) : Laid w g ys w' := e ▸ h
set_option maxRecDepth 100000 in
theorem lay_six (w : World) (g off cap : Nat) (n : Int) (D R : List Int) (z0 z1 z2 z3 z4 z5 : Int) (h : BytesIs w g (D ++ z0 :: z1 :: z2 :: z3 :: z4 :: z5 :: R)) (hd : D.length = off) (h0 : 0 ≤ n) (h1 : n ≤ 1099511627776) (_hcap : 6 ≤ cap) (hoff : off + 6 ≤ 9223372036854775807) :
    Calls Tryz.prog 102 #[.slice (some ⟨g, off, none⟩) 6 cap, .int .i64 n] w fun e w' => e = .returned (.tuple #[]) ∧ Laid w g (D ++ le 6 n ++ R) w' := by
  subst hd
  have c0 := h.cell (D.length + 0) z0 (at_mid D _ z0 0 rfl)
  have c1 := h.cell (D.length + 1) z1 (at_mid D _ z1 1 rfl)
  have c2 := h.cell (D.length + 2) z2 (at_mid D _ z2 2 rfl)
  have c3 := h.cell (D.length + 3) z3 (at_mid D _ z3 3 rfl)
  have c4 := h.cell (D.length + 4) z4 (at_mid D _ z4 4 rfl)
  have c5 := h.cell (D.length + 5) z5 (at_mid D _ z5 5 rfl)
  rw [Nat.add_zero] at c0
  have hf : ∀ i, w.frozen? ⟨g, i, none⟩ = false := fun i => BlockIs.free h i
  have hL := ((((((Laid.refl h).set1 (D.length + 5) (n / 1099511627776)).set1 (D.length + 4) (n / 4294967296 % 256)).set1 (D.length + 3) (n / 16777216 % 256)).set1 (D.length + 2) (n / 65536 % 256)).set1 (D.length + 1) (n / 256 % 256)).set1 D.length (n % 256)
  have hE := hL.eq (ys := D ++ le 6 n ++ R) (by rw [le_six n h0 h1]; simp)
  clear hL h
  generalize D.length = off at *
  go_enter Tryz.func102, Tryz.ntmps102
  go_wp2
  go_end0
  exact ⟨rfl, hE⟩
set_option maxRecDepth 100000 in
theorem lay_four (w : World) (g off cap : Nat) (n : Int) (D R : List Int) (z0 z1 z2 z3 : Int) (h : BytesIs w g (D ++ z0 :: z1 :: z2 :: z3 :: R)) (hd : D.length = off) (h0 : 0 ≤ n) (h1 : n ≤ 4294967295) (_hcap : 4 ≤ cap) (hoff : off + 4 ≤ 9223372036854775807) :
    Calls Tryz.prog 102 #[.slice (some ⟨g, off, none⟩) 4 cap, .int .i64 n] w fun e w' => e = .returned (.tuple #[]) ∧ Laid w g (D ++ le 4 n ++ R) w' := by
  subst hd
  have c0 := h.cell (D.length + 0) z0 (at_mid D _ z0 0 rfl)
  have c1 := h.cell (D.length + 1) z1 (at_mid D _ z1 1 rfl)
  have c2 := h.cell (D.length + 2) z2 (at_mid D _ z2 2 rfl)
  have c3 := h.cell (D.length + 3) z3 (at_mid D _ z3 3 rfl)
  rw [Nat.add_zero] at c0
  have hf : ∀ i, w.frozen? ⟨g, i, none⟩ = false := fun i => BlockIs.free h i
  have hL := ((((Laid.refl h).set1 (D.length + 3) (n / 16777216)).set1 (D.length + 2) (n / 65536 % 256)).set1 (D.length + 1) (n / 256 % 256)).set1 D.length (n % 256)
  have hE := hL.eq (ys := D ++ le 4 n ++ R) (by rw [le_four n, show n / 16777216 % 256 = n / 16777216 by omega]; simp)
  clear hL h
  generalize D.length = off at *
  go_enter Tryz.func102, Tryz.ntmps102
  go_wp2
  go_end0
  exact ⟨rfl, hE⟩
set_option maxRecDepth 100000 in
theorem lay_two (w : World) (g off cap : Nat) (n : Int) (D R : List Int) (z0 z1 : Int) (h : BytesIs w g (D ++ z0 :: z1 :: R)) (hd : D.length = off) (h0 : 0 ≤ n) (h1 : n ≤ 65535) (_hcap : 2 ≤ cap) (hoff : off + 2 ≤ 9223372036854775807) :
    Calls Tryz.prog 102 #[.slice (some ⟨g, off, none⟩) 2 cap, .int .i64 n] w fun e w' => e = .returned (.tuple #[]) ∧ Laid w g (D ++ le 2 n ++ R) w' := by
  subst hd
  have c0 := h.cell (D.length + 0) z0 (at_mid D _ z0 0 rfl)
  have c1 := h.cell (D.length + 1) z1 (at_mid D _ z1 1 rfl)
  rw [Nat.add_zero] at c0
  have hf : ∀ i, w.frozen? ⟨g, i, none⟩ = false := fun i => BlockIs.free h i
  have hL := ((Laid.refl h).set1 (D.length + 1) (n / 256)).set1 D.length (n % 256)
  have hE := hL.eq (ys := D ++ le 2 n ++ R) (by rw [le_two n, show n / 256 % 256 = n / 256 by omega]; simp)
  clear hL h
  generalize D.length = off at *
  go_enter Tryz.func102, Tryz.ntmps102
  go_wp2
  go_end0
  exact ⟨rfl, hE⟩
set_option maxRecDepth 100000 in
theorem lay_one (w : World) (g off cap : Nat) (n : Int) (D R : List Int) (z0 : Int) (h : BytesIs w g (D ++ z0 :: R)) (hd : D.length = off) (h0 : 0 ≤ n) (h1 : n ≤ 255) (_hcap : 1 ≤ cap) (hoff : off + 1 ≤ 9223372036854775807) :
    Calls Tryz.prog 102 #[.slice (some ⟨g, off, none⟩) 1 cap, .int .i64 n] w fun e w' => e = .returned (.tuple #[]) ∧ Laid w g (D ++ le 1 n ++ R) w' := by
  subst hd
  have c0 := h.cell (D.length + 0) z0 (at_mid D _ z0 0 rfl)
  rw [Nat.add_zero] at c0
  have hf : ∀ i, w.frozen? ⟨g, i, none⟩ = false := fun i => BlockIs.free h i
  have hL := (Laid.refl h).set1 D.length n
  have hE := hL.eq (ys := D ++ le 1 n ++ R) (by rw [le_one n, show n % 256 = n by omega]; simp)
  clear hL h
  generalize D.length = off at *
  go_enter Tryz.func102, Tryz.ntmps102
  go_wp2
  go_end0
  exact ⟨rfl, hE⟩
/-- In one. -/
theorem lay_any (w : World) (g off cap k : Nat) (n : Int) (D Z R : List Int) (h : BytesIs w g (D ++ Z ++ R)) (hd : D.length = off) (hk : Z.length = k) (ht : 0 ≤ top k) (h0 : 0 ≤ n) (h1 : n ≤ top k) (hcap : k ≤ cap) (hoff : off + k ≤ 9223372036854775807) :
    Calls Tryz.prog 102 #[.slice (some ⟨g, off, none⟩) k cap, .int .i64 n] w fun e w' => e = .returned (.tuple #[]) ∧ Laid w g (D ++ le k n ++ R) w' := by
  rcases top_cases (k : Int) with ⟨e, t⟩ | ⟨e, t⟩ | ⟨e, t⟩ | ⟨e, t⟩ | ⟨_, _, _, _, t⟩
  · obtain rfl : k = 1 := by omega
    match Z, hk with
    | [a], _ => exact lay_one w g off cap n D R a (by simpa using h) hd h0 (by omega) hcap hoff
  · obtain rfl : k = 2 := by omega
    match Z, hk with
    | [a, b], _ => exact lay_two w g off cap n D R a b (by simpa using h) hd h0 (by omega) hcap hoff
  · obtain rfl : k = 4 := by omega
    match Z, hk with
    | [a, b, c, d], _ => exact lay_four w g off cap n D R a b c d (by simpa using h) hd h0 (by omega) hcap hoff
  · obtain rfl : k = 6 := by omega
    match Z, hk with
    | [a, b, c, d, e', f], _ => exact lay_six w g off cap n D R a b c d e' f (by simpa using h) hd h0 (by omega) hcap hoff
  · omega
end Go.Proofs.YtpdfmpegcejmkaaGreatDoor
namespace Go.Proofs.YtpdfmpegcejmkaaGreatDoor
open Go.RowKit
def i64ok (z : Int) : Prop := -9223372036854775808 ≤ z ∧ z ≤ 9223372036854775807
/-- The optional address A is where these numbers lie. -/
def IntsAt (w : World) (A : Option Addr) (zs : List Int) : Prop :=
  (∀ z ∈ zs, -9223372036854775808 ≤ z ∧ z ≤ 9223372036854775807) ∧ (zs ≠ [] → ∃ b off, A = some ⟨b, off, none⟩ ∧ ∀ i, i < zs.length → w.cell? ⟨b, off + i, none⟩ = some (.int .i64 (zs.getD i 0)))
def i64s (zs : List Int) : List Value := zs.map (Value.int .i64)
theorem i64s_len (xs : List Int) : (i64s xs).length = xs.length := by unfold i64s; simp
theorem IntsAt.nil (w : World) (A : Option Addr) : IntsAt w A [] := ⟨(fun z hz => by cases hz), (fun h => absurd rfl h)⟩
theorem IntsAt.drewN {w : World} {A : Option Addr} {zs : List Int} (h : IntsAt w A zs) (n : Nat) : IntsAt (w.drewN n) A zs := h
theorem IntsAt.some_ {w : World} {A : Option Addr} {zs : List Int} (h : IntsAt w A zs) (hne : zs ≠ []) : ∃ b off, A = some ⟨b, off, none⟩ := by
  obtain ⟨b, off, e, _⟩ := h.2 hne
  exact ⟨b, off, e⟩
theorem IntsAt.one {w : World} {b off : Nat} {zs : List Int} (h : IntsAt w (some ⟨b, off, none⟩) zs) (i : Nat) (hi : i < zs.length) : w.cell? ⟨b, off + i, none⟩ = some (.int .i64 (zs.getD i 0)) := by
  obtain ⟨b', off', e, hc⟩ := h.2 (by intro e; simp [e] at hi)
  obtain ⟨rfl, rfl⟩ : b = b' ∧ off = off' := by simpa using e
  exact hc i hi
theorem IntsAt.bd {w : World} {A : Option Addr} {zs : List Int} (h : IntsAt w A zs) (i : Nat) (hi : i < zs.length) : -9223372036854775808 ≤ zs.getD i 0 ∧ zs.getD i 0 ≤ 9223372036854775807 := by
  rw [List.getD_eq_getElem?_getD, List.getElem?_eq_getElem hi]; exact h.1 _ (List.getElem_mem hi)
theorem IntsAt.far {w w' : World} {A : Option Addr} {zs : List Int} {row : Option Nat} (h : IntsAt w A zs) (hg : w.grownBy w' row) (hne : ∀ a, A = some a → some a.block ≠ row) : IntsAt w' A zs :=
  ⟨h.1, fun hz => by
    obtain ⟨b, off, e, hc⟩ := h.2 hz
    exact ⟨b, off, e, fun i hi => hg.cell (hc i hi) (hne ⟨b, off, none⟩ e)⟩⟩
theorem IntsAt.below {w w' : World} {A : Option Addr} {zs : List Int} (h : IntsAt w A zs) (hb : Below w.heap.size w w') : IntsAt w' A zs :=
  ⟨h.1, fun hne => by
    obtain ⟨b, off, e, hc⟩ := h.2 hne
    exact ⟨b, off, e, fun i hi => (hb.cell (p := ⟨b, off + i, none⟩) (World.block_lt_of_cell? _ _ (hc i hi))).trans (hc i hi)⟩⟩
theorem intsAt_lit (W : World) (zs : List Int) (hr : ∀ z ∈ zs, -9223372036854775808 ≤ z ∧ z ≤ 9223372036854775807) : IntsAt (W.alloc (.cells (i64s zs).toArray 3)) (some ⟨W.heap.size, 0, none⟩) zs := by
  refine ⟨hr, fun _ => ⟨W.heap.size, 0, rfl, fun i hi => ?_⟩⟩
  rw [World.cell?_alloc_new, Nat.zero_add, List.getElem?_toArray]
  unfold i64s
  rw [List.getElem?_map, List.getD_eq_getElem?_getD, List.getElem?_eq_getElem hi]; rfl
theorem infoInt : (Tryz.prog.info? 3).map (fun i => (i.zero, i.size, i.bytes)) = some (some (.int .i64 0), 1, 8) := by kernel_rfl
theorem own_ints {w : World} {B n cap : Nat} {X : Option Addr} {zs : List Int} (h : w.ownsRow B 3 1 (.slice X n cap) n (i64s zs)) (hr : ∀ z ∈ zs, -9223372036854775808 ≤ z ∧ z ≤ 9223372036854775807) : IntsAt w X zs := by
  refine ⟨hr, fun hne => ?_⟩
  have hl : zs.length = n := by have := h.1; rw [i64s_len] at this; omega
  have hn : 0 < n := by rw [← hl]; exact List.length_pos_iff.2 hne
  obtain ⟨g, c, e, _⟩ := own_form h hn
  obtain ⟨rfl, rfl⟩ : X = some ⟨g, 0, none⟩ ∧ cap = c := by simpa using e
  refine ⟨g, 0, rfl, fun i hi => ?_⟩
  rw [Nat.zero_add, h.cellAt i (by omega)]
  simp [i64s, List.getD_eq_getElem?_getD, List.getElem?_eq_getElem hi]
end Go.Proofs.YtpdfmpegcejmkaaGreatDoor
