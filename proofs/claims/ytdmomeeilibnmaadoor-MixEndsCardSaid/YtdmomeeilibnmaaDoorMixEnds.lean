/- MixEnds: the closed statement's walk. -/
import Derived.Test.YtdmomeeilibnmaaDoorMixTells
import Derived.Deep.RegionHeld3
namespace Go.Proofs.YtdmomeeilibnmaaDoor
open Go.RowKit
theorem bits8_bd (op : BinOp) (x y : Int) : 0 ≤ bits op .u8 x y ∧ bits op .u8 x y < 256 := by
  have h : ∃ n : Int, bits op .u8 x y = IntKind.u8.wrap n := by
    unfold bits
    exact ⟨_, rfl⟩
  obtain ⟨n, hn⟩ := h
  rw [hn, IntKind.wrap_u8']
  omega
theorem bytesAt_lit (W : World) (zs : List Int) (hr : ∀ z ∈ zs, 0 ≤ z ∧ z < 256) : BytesAt (W.alloc (.cells (u8s zs).toArray 5)) (some ⟨W.heap.size, 0, none⟩) zs := by
  refine bytesAt_cells hr (fun i hi => ?_)
  rw [World.cell?_alloc_new, Nat.zero_add, List.getElem?_toArray]
  unfold u8s
  rw [List.getElem?_map, List.getD_eq_getElem?_getD, List.getElem?_eq_getElem hi]; rfl
theorem row4_cells (W : World) (x y z u : Value) (t : TypeId) : ∀ i p, [x, y, z, u][i]? = some p → (W.alloc (.cells #[x, y, z, u] t)).cell? ⟨W.heap.size, i, none⟩ = some p := by
  intro i p hp
  rw [World.cell?_alloc_new]
  match i, hp with
  | 0, hp => exact hp
  | 1, hp => exact hp
  | 2, hp => exact hp
  | 3, hp => exact hp
  | i + 4, hp => simp at hp
def endsWorld (W : World) (n nb : Int) : World :=
  ((((W.alloc (.cells #[.int .u8 n] 5)).alloc (.cells #[.int .u8 n, .int .u8 nb] 5)).alloc (.cells #[.int .u8 0, .int .u8 n, .int .u8 255] 5)).alloc (.cells #[.int .u8 n, .int .u8 n, .int .u8 n, .int .u8 n, .int .u8 n] 5)).alloc
    (.cells #[.slice (some ⟨W.heap.size, 0, none⟩) 1 1, .slice (some ⟨W.heap.size + 1, 0, none⟩) 2 2, .slice (some ⟨W.heap.size + 1 + 1, 0, none⟩) 3 3, .slice (some ⟨W.heap.size + 1 + 1 + 1, 0, none⟩) 5 5] 24)
def endsParts (W : World) (n nb : Int) : List Part :=
  [⟨some ⟨W.heap.size, 0, none⟩, [n], 1⟩, ⟨some ⟨W.heap.size + 1, 0, none⟩, [n, nb], 2⟩, ⟨some ⟨W.heap.size + 1 + 1, 0, none⟩, [0, n, 255], 3⟩, ⟨some ⟨W.heap.size + 1 + 1 + 1, 0, none⟩, [n, n, n, n, n], 5⟩]
theorem ends_below (W : World) (n nb : Int) : Below W.heap.size W (endsWorld W n nb) :=
  (((((Below.refl _ _).alloc (Nat.le_refl _) _).alloc (by simp) _).alloc (by simp; omega) _).alloc (by simp; omega) _).alloc (by simp; omega) _
theorem ends_parts (W : World) (n nb : Int) (h0 : 0 ≤ n) (h1 : n < 256) (g0 : 0 ≤ nb) (g1 : nb < 256) : PartsAt (endsWorld W n nb) (some ⟨W.heap.size + 1 + 1 + 1 + 1, 0, none⟩) (endsParts W n nb) := by
  have b1 := bytesAt_lit W [n] (by simp; omega)
  have b2 := bytesAt_lit (W.alloc (.cells #[.int .u8 n] 5)) [n, nb] (by simp; omega)
  have b3 := bytesAt_lit ((W.alloc (.cells #[.int .u8 n] 5)).alloc (.cells #[.int .u8 n, .int .u8 nb] 5)) [0, n, 255] (by simp; omega)
  have b4 := bytesAt_lit (((W.alloc (.cells #[.int .u8 n] 5)).alloc (.cells #[.int .u8 n, .int .u8 nb] 5)).alloc (.cells #[.int .u8 0, .int .u8 n, .int .u8 255] 5)) [n, n, n, n, n] (by simp; omega)
  simp only [World.size_alloc] at b2 b3 b4
  have r := row4_cells ((((W.alloc (.cells #[.int .u8 n] 5)).alloc (.cells #[.int .u8 n, .int .u8 nb] 5)).alloc (.cells #[.int .u8 0, .int .u8 n, .int .u8 255] 5)).alloc (.cells #[.int .u8 n, .int .u8 n, .int .u8 n, .int .u8 n, .int .u8 n] 5))
    (.slice (some ⟨W.heap.size, 0, none⟩) 1 1) (.slice (some ⟨W.heap.size + 1, 0, none⟩) 2 2) (.slice (some ⟨W.heap.size + 1 + 1, 0, none⟩) 3 3) (.slice (some ⟨W.heap.size + 1 + 1 + 1, 0, none⟩) 5 5) 24
  simp only [World.size_alloc] at r
  have c1 := ((((show BytesAt (W.alloc (.cells #[.int .u8 n] 5)) _ _ from b1).below (below_new _ (.cells #[.int .u8 n, .int .u8 nb] 5))).below (below_new _ (.cells #[.int .u8 0, .int .u8 n, .int .u8 255] 5))).below (below_new _ (.cells #[.int .u8 n, .int .u8 n, .int .u8 n, .int .u8 n, .int .u8 n] 5))).below (below_new _ (.cells #[.slice (some ⟨W.heap.size, 0, none⟩) 1 1, .slice (some ⟨W.heap.size + 1, 0, none⟩) 2 2, .slice (some ⟨W.heap.size + 1 + 1, 0, none⟩) 3 3, .slice (some ⟨W.heap.size + 1 + 1 + 1, 0, none⟩) 5 5] 24))
  have c2 := (((show BytesAt ((W.alloc (.cells #[.int .u8 n] 5)).alloc (.cells #[.int .u8 n, .int .u8 nb] 5)) _ _ from b2).below (below_new _ (.cells #[.int .u8 0, .int .u8 n, .int .u8 255] 5))).below (below_new _ (.cells #[.int .u8 n, .int .u8 n, .int .u8 n, .int .u8 n, .int .u8 n] 5))).below (below_new _ (.cells #[.slice (some ⟨W.heap.size, 0, none⟩) 1 1, .slice (some ⟨W.heap.size + 1, 0, none⟩) 2 2, .slice (some ⟨W.heap.size + 1 + 1, 0, none⟩) 3 3, .slice (some ⟨W.heap.size + 1 + 1 + 1, 0, none⟩) 5 5] 24))
  have c3 := ((show BytesAt (((W.alloc (.cells #[.int .u8 n] 5)).alloc (.cells #[.int .u8 n, .int .u8 nb] 5)).alloc (.cells #[.int .u8 0, .int .u8 n, .int .u8 255] 5)) _ _ from b3).below (below_new _ (.cells #[.int .u8 n, .int .u8 n, .int .u8 n, .int .u8 n, .int .u8 n] 5))).below (below_new _ (.cells #[.slice (some ⟨W.heap.size, 0, none⟩) 1 1, .slice (some ⟨W.heap.size + 1, 0, none⟩) 2 2, .slice (some ⟨W.heap.size + 1 + 1, 0, none⟩) 3 3, .slice (some ⟨W.heap.size + 1 + 1 + 1, 0, none⟩) 5 5] 24))
  have c4 := (show BytesAt ((((W.alloc (.cells #[.int .u8 n] 5)).alloc (.cells #[.int .u8 n, .int .u8 nb] 5)).alloc (.cells #[.int .u8 0, .int .u8 n, .int .u8 255] 5)).alloc (.cells #[.int .u8 n, .int .u8 n, .int .u8 n, .int .u8 n, .int .u8 n] 5)) _ _ from b4).below (below_new _ (.cells #[.slice (some ⟨W.heap.size, 0, none⟩) 1 1, .slice (some ⟨W.heap.size + 1, 0, none⟩) 2 2, .slice (some ⟨W.heap.size + 1 + 1, 0, none⟩) 3 3, .slice (some ⟨W.heap.size + 1 + 1 + 1, 0, none⟩) 5 5] 24))
  refine ⟨fun p hp => ?_, fun _ => ⟨W.heap.size + 1 + 1 + 1 + 1, 0, rfl, fun i p hp => ?_⟩⟩
  · simp only [endsParts, List.mem_cons, List.not_mem_nil, or_false] at hp
    rcases hp with rfl | rfl | rfl | rfl
    · exact ⟨c1, Nat.le_refl _, (show (1 : Nat) ≤ 9223372036854775807 by decide)⟩
    · exact ⟨c2, Nat.le_refl _, (show (2 : Nat) ≤ 9223372036854775807 by decide)⟩
    · exact ⟨c3, Nat.le_refl _, (show (3 : Nat) ≤ 9223372036854775807 by decide)⟩
    · exact ⟨c4, Nat.le_refl _, (show (5 : Nat) ≤ 9223372036854775807 by decide)⟩
  · rw [Nat.zero_add]
    have hq : (endsParts W n nb).map Part.val = [.slice (some ⟨W.heap.size, 0, none⟩) 1 1, .slice (some ⟨W.heap.size + 1, 0, none⟩) 2 2, .slice (some ⟨W.heap.size + 1 + 1, 0, none⟩) 3 3, .slice (some ⟨W.heap.size + 1 + 1 + 1, 0, none⟩) 5 5] := rfl
    exact r i p.val (by rw [← hq, List.getElem?_map, hp]; rfl)
theorem ends_small (W : World) (n nb : Int) : ∀ p ∈ endsParts W n nb, p.zs.length ≤ 140737488351232 ∧ (p.A = none → p.cap = 0) := by
  intro p hp
  simp only [endsParts, List.mem_cons, List.not_mem_nil, or_false] at hp
  rcases hp with rfl | rfl | rfl | rfl <;> exact ⟨by simp, fun h => by cases h⟩
theorem u32_of (n : Int) (h0 : 0 ≤ n) (h1 : n ≤ 4294967295) : ∃ t : BitVec 32, n = (t.toNat : Int) := by
  obtain ⟨m, rfl⟩ := Int.eq_ofNat_of_zero_le h0
  refine ⟨BitVec.ofNat 32 m, ?_⟩
  rw [BitVec.toNat_ofNat, Nat.mod_eq_of_lt (by omega)]
theorem own_reads {w : World} {B n cap : Nat} {X : Option Addr} {zs : List Int} (h : w.ownsRow B 5 1 (.slice X n cap) n (u8s zs)) (hr : ∀ z ∈ zs, 0 ≤ z ∧ z < 256) : BytesAt w X zs := by
  rcases Nat.eq_zero_or_pos n with h0 | h0
  · subst h0
    have hl : (u8s zs).length = 0 := by simpa using h.1
    rw [u8s_len] at hl
    obtain rfl := List.eq_nil_of_length_eq_zero hl
    exact BytesAt.nil _ _
  · obtain ⟨g, c, e, _⟩ := own_form h h0
    obtain ⟨rfl, rfl⟩ : X = some ⟨g, 0, none⟩ ∧ cap = c := by simpa using e
    exact own_bytes h hr
theorem ownsRow_below {w w' : World} {B : Nat} {e : TypeId} {size n : Nat} {v : Value} {xs : List Value} (h : w.ownsRow B e size v n xs) (hb : Below w.heap.size w w') : w'.ownsRow B e size v n xs := by
  refine h.kept (grown_of_below hb) ?_
  cases hv : Value.ownBlock v with
  | none => exact .inl rfl
  | some g => exact .inr (by simp)
/-- A row's tail, as the walk writes it. -/
def cutAt (X : Option Addr) (cap k : Nat) : Option Addr := if cap = k then X else Option.map (fun x => x.add k) X
theorem cut_reads {W : World} {X : Option Addr} {zs : List Int} {cap k : Nat} (h : BytesAt W X zs) (hk : zs.length ≤ cap) : BytesAt W (cutAt X cap k) (zs.drop k) := by
  refine ⟨fun z hz => h.1 z (List.mem_of_mem_drop hz), fun hne => ?_⟩
  have hlt : k < zs.length := by
    rcases Nat.lt_or_ge k zs.length with h1 | h1
    · exact h1
    · exact absurd (List.drop_eq_nil_of_le h1) hne
  obtain ⟨b, off, rfl, hc⟩ := h.2 (by intro e; simp [e] at hlt)
  unfold cutAt
  rw [if_neg (by omega)]
  refine ⟨b, off + k, ?_, fun i hi => ?_⟩
  · show some ((⟨b, off, none⟩ : Addr).add k) = _
    congr 1
    unfold Addr.add; split <;> simp_all
  · rw [List.length_drop] at hi
    rw [Nat.add_assoc, hc (k + i) (by omega)]
    simp [List.getD_eq_getElem?_getD]
theorem front_reads {W : World} {X : Option Addr} {zs : List Int} {k : Nat} (h : BytesAt W X zs) : BytesAt W X (zs.take k) := by
  refine ⟨fun z hz => h.1 z (List.mem_of_mem_take hz), fun hne => ?_⟩
  obtain ⟨b, off, e, hc⟩ := h.2 (by intro e; subst e; simp at hne)
  refine ⟨b, off, e, fun i hi => ?_⟩
  rw [List.length_take] at hi
  rw [hc i (by omega)]
  simp only [List.getD_eq_getElem?_getD]
  rw [List.getElem?_take_of_lt (by omega)]
theorem ends_sum2 (zs : List Int) (X : Option Addr) (n k cap g : Nat) (W : World) (hzn : zs.length = n) (hkn : k ≤ n) (hnc : n ≤ cap) (hcm : cap ≤ 9223372036854775807) (h0 : W.cell? ⟨g, 0, none⟩ = some (.slice X k cap)) (h1 : W.cell? ⟨g, 1, none⟩ = some (.slice (cutAt X cap k) (n - k) (cap - k))) (hr : BytesAt W X zs) :
    Calls Tryd.prog 12 #[.slice (some ⟨g, 0, none⟩) 2 2] W fun e w' => e = .returned (.int .u32 ((Mx.sum zs).toNat : Int)) ∧ Below W.heap.size W w' := by
  have l1 : (zs.take k).length = k := by rw [List.length_take, hzn]; omega
  have l2 : (zs.drop k).length = n - k := by rw [List.length_drop, hzn]
  have hps : PartsAt W (some ⟨g, 0, none⟩) [⟨X, zs.take k, cap⟩, ⟨cutAt X cap k, zs.drop k, cap - k⟩] := by
    refine ⟨fun x hx => ?_, fun _ => ⟨g, 0, rfl, fun i x hx => ?_⟩⟩
    · simp only [List.mem_cons, List.not_mem_nil, or_false] at hx
      rcases hx with rfl | rfl
      · exact ⟨front_reads hr, (show (zs.take k).length ≤ cap by rw [l1]; omega), hcm⟩
      · exact ⟨cut_reads hr (by omega), (show (zs.drop k).length ≤ cap - k by rw [l2]; omega), (show cap - k ≤ 9223372036854775807 by omega)⟩
    · rw [Nat.zero_add]
      match i, hx with
      | 0, hx => obtain rfl : _ = x := by simpa using hx
                 simp only [Part.val, l1]; exact h0
      | 1, hx => obtain rfl : _ = x := by simpa using hx
                 simp only [Part.val, l2]; exact h1
      | i + 2, hx => simp at hx
  refine (sum_any _ _ 2 W hps (by simp)).mono ?_
  have e : bytesOf [⟨X, zs.take k, cap⟩, ⟨cutAt X cap k, zs.drop k, cap - k⟩] = zs := by
    unfold bytesOf; simp
  rw [e]
  exact fun _ _ h => h
theorem ends_of (zs : List Int) (X : Option Addr) (n cap : Nat) (W : World) (hzn : zs.length = n) (hnc : n ≤ cap) (hcm : cap ≤ 9223372036854775807) (hr : BytesAt W X zs) :
    Calls Tryd.prog 11 #[.slice X n cap] W fun e w' => e = .returned (.int .u32 ((Mx.sum zs).toNat : Int)) ∧ Below W.heap.size W w' := by
  subst hzn; exact of_any zs X cap W hr hnc hcm
theorem row2_cells (W : World) (x y : Value) (t : TypeId) : (W.alloc (.cells #[x, y] t)).cell? ⟨W.heap.size, 0, none⟩ = some x ∧ (W.alloc (.cells #[x, y] t)).cell? ⟨W.heap.size, 1, none⟩ = some y := by
  rw [World.cell?_alloc_new, World.cell?_alloc_new]; exact ⟨rfl, rfl⟩
theorem row2_drew (W : World) (x y : Value) (t : TypeId) : (W.alloc (.cells #[x, y] t)).drew.cell? ⟨W.heap.size, 0, none⟩ = some x ∧ (W.alloc (.cells #[x, y] t)).drew.cell? ⟨W.heap.size, 1, none⟩ = some y := row2_cells W x y t
theorem cut_run2 (X : Option Addr) (n k cap : Nat) (w : World) (h1 : k ≤ n) (h2 : n ≤ cap) : (Instr.slice 24 (.slice X n cap) (some (.int .i64 (k : Int))) (some (.int .i64 (n : Int))) none).run Tryd.prog w = .ok (.slice (cutAt X cap k) (n - k) (cap - k)) w := by
  have hs : (sizeOf (Tryd.prog.elem 24)).run Tryd.prog w = .ok 1 w := by kernel_rfl
  rw [run_slice_lh w 24 X n cap (by kernel_rfl) .i64 .i64 k n (by omega) (by omega) (by omega), hs]
  simp [Result.andThen, sliced, cutAt]
theorem cut_run1 (X : Option Addr) (n k cap : Nat) (w : World) (h1 : k ≤ n) : (Instr.slice 24 (.slice X n cap) (some (.int .i64 (k : Int))) none none).run Tryd.prog w = .ok (.slice (cutAt X cap k) (n - k) (cap - k)) w := by
  have hs : (sizeOf (Tryd.prog.elem 24)).run Tryd.prog w = .ok 1 w := by kernel_rfl
  rw [run_slice_l w 24 X n cap (by kernel_rfl) .i64 k (by omega) (by omega), hs]
  simp [Result.andThen, sliced, cutAt]
theorem tells_nil1 (ad : Addr) (many : Int) (W : World) (hg : W.cell? ⟨0, 0, none⟩ = some (.iface 73 (.pointer (some ad)))) (hm : many ≤ 9223372036854775807) :
    Calls Tryd.prog 3 #[.slice none 0 0, .int .u32 2147483649, .int .u32 12345, .int .i64 many] W fun e w' => e = .returned (.bool true) ∧ Below W.heap.size W w' :=
  mixTells_any [] none 0 2147483649#32 12345#32 many ad W hg ⟨(fun p hp => by cases hp), (fun h => absurd rfl h)⟩ (Nat.zero_le _) (fun p hp => by cases hp) hm
theorem tells_nil2 (ad : Addr) (many : Int) (W : World) (hg : W.cell? ⟨0, 0, none⟩ = some (.iface 73 (.pointer (some ad)))) (hm : many ≤ 9223372036854775807) :
    Calls Tryd.prog 3 #[.slice none 0 0, .int .u32 4294967295, .int .u32 1, .int .i64 many] W fun e w' => e = .returned (.bool true) ∧ Below W.heap.size W w' :=
  mixTells_any [] none 0 4294967295#32 1#32 many ad W hg ⟨(fun p hp => by cases hp), (fun h => absurd rfl h)⟩ (Nat.zero_le _) (fun p hp => by cases hp) hm
theorem join_seven (many : Int) (W : World) (hm : many < 1) : Calls Tryd.prog 14 #[.int .u32 7, .int .u32 9, .int .i64 many] W fun e w' => e = .returned (.int .u32 7) ∧ W = w' := by
  refine (join_any 7#32 9#32 many W (by omega)).mono ?_
  rw [joined_none _ _ _ hm]
  exact fun _ _ h => h
theorem mem_snoc_bd {zs : List Int} {z' : Int} (hr : ∀ z ∈ zs, 0 ≤ z ∧ z < 256) (h0 : 0 ≤ z') (h1 : z' < 256) : ∀ z ∈ zs ++ [z'], 0 ≤ z ∧ z < 256 := by
  intro z hz
  rcases List.mem_append.1 hz with h | h
  · exact hr z h
  · obtain rfl := List.mem_singleton.1 h
    exact ⟨h0, h1⟩
structure EInv (w5 : World) (X : Option Addr) (zs : List Int) (W : World) : Prop where
  rd : BytesAt W X zs
  bl : Below w5.heap.size w5 W
theorem EInv.below {w5 : World} {X : Option Addr} {zs : List Int} {W W' : World} (h : EInv w5 X zs W) (hb : Below W.heap.size W W') : EInv w5 X zs W' := ⟨h.rd.below hb, h.bl.trans (hb.mono h.bl.size)⟩
theorem EInv.alloc {w5 : World} {X : Option Addr} {zs : List Int} {W : World} (h : EInv w5 X zs W) (o : Obj) : EInv w5 X zs (W.alloc o) := h.below (below_new _ _)
theorem EInv.drew {w5 : World} {X : Option Addr} {zs : List Int} {W : World} (h : EInv w5 X zs W) : EInv w5 X zs W.drew := ⟨h.rd, h.bl.drew⟩
/-- What stays through all rounds. -/
structure EndsInv (w0 : World) (ad : Addr) (W : World) : Prop where
  gl : W.cell? ⟨0, 0, none⟩ = some (.iface 73 (.pointer (some ad)))
  bl : Below w0.heap.size w0 W
theorem EndsInv.below {w0 : World} {ad : Addr} {W W' : World} (h : EndsInv w0 ad W) (hb : Below W.heap.size W W') : EndsInv w0 ad W' := ⟨cell_below h.gl hb, h.bl.trans (hb.mono h.bl.size)⟩
set_option maxRecDepth 100000 in
set_option maxHeartbeats 8000000 in
theorem mixEnds_any (ad : Addr) (w : World) (hg : w.cell? ⟨0, 0, none⟩ = some (.iface 73 (.pointer (some ad)))) :
    Calls Tryd.prog 4 #[] w fun e w' => e = .returned (.bool true) ∧ Below w.heap.size w w' := by
  obtain ⟨i0, hi, hz0, hz1, hz2⟩ := info_parts infoByte
  go_enter Tryd.func4, Tryd.ntmps4
  go_wp2_with fail
  go_loopg [1, 2, 3, 4] 256 (fun g v i _ _ wx => ∃ (n : Nat) (zs : List Int), g = 256 - n ∧ n ≤ 256 ∧ i = .int .i64 (n : Int) ∧ wx.ownsRow w.heap.size 5 1 v zs.length (u8s zs) ∧ (∀ z ∈ zs, 0 ≤ z ∧ z < 256) ∧ Hid (zs.length = min n 70) ∧ EndsInv w ad wx)
  case atStart => exact ⟨0, [], rfl, by omega, rfl, World.ownsRow_nil _ _ _ _, (fun z hz => by cases hz), Lib.hid rfl, ⟨hg, Below.refl _ _⟩⟩
  case round =>
    obtain ⟨n, zs, hgn, hn, rfl, hown, hr, hzl, HI⟩ := hrel
    have Hgn := Lib.hid hgn; clear hgn
    by_cases hlt : n < 256
    · go_wp2_with fail
      have hnb := bits8_bd .xor IntKind.u8.max (n : Int)
      obtain ⟨ta, hta⟩ := u32_of ((n : Int) * 16777216) (by omega) (by omega)
      obtain ⟨tb, htb⟩ := u32_of (n : Int) (by omega) (by omega)
      obtain ⟨X, cap, hv, hncap, hcapm⟩ := own_slice hown
      have hparts := ends_parts wr n (bits .xor .u8 IntKind.u8.max (n : Int)) (by omega) (by omega) hnb.1 hnb.2
      have hsm := ends_small wr n (bits .xor .u8 IntKind.u8.max (n : Int))
      have hbw := ends_below wr n (bits .xor .u8 IntKind.u8.max (n : Int))
      have hT := mixTells_any (endsParts wr n (bits .xor .u8 IntKind.u8.max (n : Int))) _ 4 ta tb ((n : Int) % 71) ad _ (cell_below HI.gl hbw) hparts (by simp [endsParts]) hsm (by omega)
      rw [← hta, ← htb] at hT
      rw [hv] at hown ⊢
      clear hv
      refine hT.mono ?_
      rintro e w5 ⟨rfl, hb5⟩
      have hb6 := hbw.trans (hb5.mono hbw.size)
      have HI5 := HI.below hb6
      have hown5 := ownsRow_below hown hb6
      have hreads := own_reads hown5 hr
      have hcm : cap ≤ 9223372036854775807 := hcapm
      clear hT hsm hparts hbw hta htb hb5 hb6 HI hown hcapm hnb
      by_cases h70 : n < 70
      · have hzn : zs.length = n := by have := hzl.out; omega
        rw [hzn] at hown5 hncap ⊢
        go_wp2_with fail
        go_loopg [4] (n + 1) (fun g i wx => ∃ k : Nat, g = n + 1 - k ∧ k ≤ n + 1 ∧ i = .int .i64 (k : Int) ∧ Hid (BytesAt wx X zs) ∧ Below w5.heap.size w5 wx)
        case atStart => exact ⟨0, rfl, by omega, rfl, Lib.hid hreads, Below.refl _ _⟩
        case round =>
          obtain ⟨k, hgk, hk, rfl, hrd, hbx⟩ := hrel
          have Hgk := Lib.hid hgk; clear hgk
          by_cases hkn : k ≤ n
          · have q0 : (0 : Int) ≤ (k : Int) := by omega
            have q1 : (k : Int) ≤ (n : Int) := by omega
            have q2 : (n : Int) ≤ (cap : Int) := by omega
            have q3 : (k : Int) ≤ (cap : Int) := by omega
            go_wp2_with fail
            have HE : EInv w5 X zs wr := ⟨hrd.out, hbx⟩
            have l1 : (zs.take k).length = k := by rw [List.length_take, hzn]; omega
            have l2 : (zs.drop k).length = n - k := by rw [List.length_drop, hzn]
            have L1 := Lib.hid l1
            have L2 := Lib.hid l2
            have Hzn := Lib.hid hzn
            clear l1 l2 hzn
            have hsub : IntKind.i64.wrap ((n : Int) - (k : Int)) = ((n - k : Nat) : Int) := by rw [IntWalk.i64_in _ (by omega)]; omega
            have r2 := fun w => cut_run2 X n k cap w hkn hncap
            have r1 := fun w => cut_run1 X n k cap w hkn
            go_region_held3 (fun _ => True) (trivial) (first
              | (go_at_call 12; (with_reducible refine (ends_sum2 zs X n k cap _ _ Hzn.out hkn hncap hcm ?_ ?_ ?_).mono ?_); exact (row2_drew _ _ _ _).1; exact (row2_drew _ _ _ _).2; exact ((HE.alloc _).drew).rd; rintro e w2 ⟨rfl, hb2⟩; have HJ : EInv w5 X zs w2 := (by first | exact HE.below hb2 | exact HE.drew.below hb2 | exact ((HE.alloc _).drew).below hb2 | exact (HE.alloc _).below hb2); clear HE; have HE := HJ; clear HJ)
              | (go_at_call 11; (with_reducible refine (ends_of zs X n cap _ Hzn.out hncap hcm ?_).mono ?_); exact HE.rd; rintro e w2 ⟨rfl, hb2⟩; have HJ : EInv w5 X zs w2 := (by first | exact HE.below hb2 | exact HE.drew.below hb2 | exact ((HE.alloc _).drew).below hb2 | exact (HE.alloc _).below hb2); clear HE; have HE := HJ; clear HJ)
              | (go_at_call 11; (with_reducible refine (ends_of (zs.take k) X k cap _ L1.out (by omega) hcm ?_).mono ?_); exact front_reads HE.rd; rintro e w2 ⟨rfl, hb2⟩; have HJ : EInv w5 X zs w2 := (by first | exact HE.below hb2 | exact HE.drew.below hb2 | exact ((HE.alloc _).drew).below hb2 | exact (HE.alloc _).below hb2); clear HE; have HE := HJ; clear HJ)
              | (go_at_call 11; (with_reducible refine (ends_of (zs.drop k) (cutAt X cap k) (n - k) (cap - k) _ L2.out (by omega) (by omega) ?_).mono ?_); exact cut_reads HE.rd (by rw [Hzn.out]; exact hncap); rintro e w2 ⟨rfl, hb2⟩; have HJ : EInv w5 X zs w2 := (by first | exact HE.below hb2 | exact HE.drew.below hb2 | exact ((HE.alloc _).drew).below hb2 | exact (HE.alloc _).below hb2); clear HE; have HE := HJ; clear HJ)
              | (go_at_call 14; (with_reducible refine (join_sum (zs.take k) (zs.drop k) zs _ _ (by rw [L2.out]) (by rw [L2.out]; omega) (List.take_append_drop k zs)).mono ?_); rintro e w3 ⟨rfl, rfl⟩))
            all_goals (go_wp2_with fail)
            all_goals (go_roundg (n + 1 - (k + 1)))
            case measure => rw [Hgk.out]; omega
            case rel => exact ⟨k + 1, rfl, by omega, by go_num, Lib.hid HE.rd, HE.bl⟩
          · obtain rfl : k = n + 1 := by omega
            have hown6 := ownsRow_below hown5 hbx
            have HI6 := HI5.below hbx
            have hlb := HI6.bl.size
            clear hown5 HI5 hreads hrd
            go_wp2_with (at_builtin; refine wpList_append_own _ rfl _ _ 24 rfl w.heap.size 5 i0 (.int .u8 0) 1 1 Tryd.underlying24 hi hz0 hz1 hz2 rfl (by decide) _ _ _ rfl (hown6.alloc _) ⟨wr.heap.size, 0, none⟩ 1 1 [.int .u8 (((n : Int) * 29 + 7) % 256)] rfl rfl (cell_one_new _ _ _) ?c3 ?c4 ?c5 ?c6 ?_)
            all_goals first | rfl | (unfold maxLen; omega) | omega | (simp only [World.size_alloc]; omega) | skip
            intro v3 w3 hown7 hgrow7 _
            have hb7 := (HI6.bl.alloc hlb (.cells #[.int .u8 (((n : Int) * 29 + 7) % 256)] 5)).grown hgrow7 (by simp only [World.size_alloc]; omega) (fun j e => (hown6.lt j e).1)
            have hgl7 := cell_below hg hb7
            go_wp2_with fail
            go_roundg (256 - (n + 1))
            case measure => rw [Hgn.out]; omega
            case rel => exact ⟨n + 1, zs ++ [((n : Int) * 29 + 7) % 256], rfl, by omega, by go_num, own_same hown7 (by rw [List.length_append, hzn]; rfl) (by simp [u8s]), mem_snoc_bd hr (by omega) (by omega), Lib.hid (by rw [List.length_append, hzn]; simp; omega), ⟨hgl7, hb7⟩⟩
      · go_wp2_with fail
        go_loopg [4] 1 (fun g i wx => g = 1 ∧ i = .int .i64 0 ∧ wx = w5)
        case atStart => exact ⟨rfl, rfl, rfl⟩
        case round =>
          obtain ⟨_, rfl, rfl⟩ := hrel
          go_wp2_with fail
          go_roundg (256 - (n + 1))
          case measure => rw [Hgn.out]; omega
          case rel => exact ⟨n + 1, zs, rfl, by omega, by go_num, hown5, hr, Lib.hid (by rw [hzl.out]; omega), HI5⟩
    · obtain rfl : n = 256 := by omega
      clear hown hr hzl
      go_wp2_with fail
      go_loopg [5] 7 (fun g i wx => ∃ k : Nat, g = 15 - k ∧ 8 ≤ k ∧ k ≤ 15 ∧ i = .int .i64 (k : Int) ∧ EndsInv w ad wx)
      case atStart => exact ⟨8, rfl, by omega, by omega, rfl, HI⟩
      case round =>
        obtain ⟨k, hgk, hk8, hk15, rfl, HK⟩ := hrel
        have Hgk := Lib.hid hgk; clear hgk
        have hks : k = 8 ∨ k = 9 ∨ k = 10 ∨ k = 11 ∨ k = 12 ∨ k = 13 ∨ k = 14 ∨ k = 15 := by omega
        clear hk8 hk15
        rcases hks with rfl | rfl | rfl | rfl | rfl | rfl | rfl | rfl
        all_goals
          go_wp2_with fail
        rotate_right 1
        · refine (join_seven _ _ (by decide)).mono ?_
          rintro e w' ⟨rfl, rfl⟩
          go_wp2_with fail
          refine (join_seven _ _ (by decide)).mono ?_
          rintro e w' ⟨rfl, rfl⟩
          go_wp2_with fail
          refine (awake_any ad _ HK.gl).mono ?_
          rintro e w6 ⟨rfl, hb6⟩
          go_wp2_with fail
          go_ret
          exact ⟨rfl, HK.bl.trans (hb6.mono HK.bl.size)⟩
        all_goals
          refine (tells_nil1 ad _ _ HK.gl (by decide)).mono ?_
          rintro e w6 ⟨rfl, hb6⟩
          have HK2 := HK.below hb6
          go_wp2_with fail
          refine (tells_nil2 ad _ _ HK2.gl (by decide)).mono ?_
          rintro e w7 ⟨rfl, hb7⟩
          have HK3 := HK2.below hb7
          go_wp2_with fail
        · go_roundg 6
          case measure => rw [Hgk.out]; decide
          case rel => exact ⟨9, rfl, by omega, by omega, rfl, HK3⟩
        · go_roundg 5
          case measure => rw [Hgk.out]; decide
          case rel => exact ⟨10, rfl, by omega, by omega, rfl, HK3⟩
        · go_roundg 4
          case measure => rw [Hgk.out]; decide
          case rel => exact ⟨11, rfl, by omega, by omega, rfl, HK3⟩
        · go_roundg 3
          case measure => rw [Hgk.out]; decide
          case rel => exact ⟨12, rfl, by omega, by omega, rfl, HK3⟩
        · go_roundg 2
          case measure => rw [Hgk.out]; decide
          case rel => exact ⟨13, rfl, by omega, by omega, rfl, HK3⟩
        · go_roundg 1
          case measure => rw [Hgk.out]; decide
          case rel => exact ⟨14, rfl, by omega, by omega, rfl, HK3⟩
        · go_roundg 0
          case measure => rw [Hgk.out]; decide
          case rel => exact ⟨15, rfl, by omega, by omega, rfl, HK3⟩
end Go.Proofs.YtdmomeeilibnmaaDoor
