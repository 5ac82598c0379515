/- Sealing: a unit's block. -/
/- Sealing: the walk; Seal. -/
/- Seal, whatever comes in; the page's own writer, begun anew. -/
/- Is a unit right, by the page. -/
/- One shift, the page's own. -/
import Derived.Test.YtpdfmpegcejmkaaGreatDoorMixShift
import Derived.Test.YtpdfmpegcejmkaaGreatDoorUnitSum
import Derived.Test.YtpdfmpegcejmkaaGreatDoorUnitCopy
import Derived.Test.YtpdfmpegcejmkaaGreatDoorUnitLaid
import Derived.Deep.RegionHeld3
import Derived.IntWalk
namespace Go.Proofs.YtpdfmpegcejmkaaGreatDoor
open Go.RowKit
def blank256 : List Int := List.replicate 256 0
theorem blank_len : blank256.length = 256 := by unfold blank256; exact List.length_replicate
theorem madeBlank (w : World) : (Instr.makeSlice 27 (.int .i64 256) (.int .i64 256)).run Tryz.prog w = .ok (.slice (some ⟨w.heap.size, 0, none⟩) 256 256) (w.alloc (.cells (u8s blank256).toArray 5)) := by
  obtain ⟨i0, hi, hz0, hz1, hz2⟩ := info_parts infoByte
  have := run_make (P := Tryz.prog) w 27 5 i0 (.int .u8 0) Tryz.underlying27 hi hz0 .i64 .i64 256 256 (by decide) (by decide) (by rw [hz2]; decide) (by decide)
  rw [this]
  have h : madeCells (Value.int .u8 0).cells ((256 : Int).toNat * i0.size) = (u8s blank256).toArray := by rw [hz1]; kernel_rfl
  rw [h]; rfl
/-- What a block is made of, while it is made: the unit in a box, the block's bytes so far. -/
structure SealW (w w' : World) (u : UnitV) (A : Option Addr) (c : Nat) (xs : List Int) : Prop where
  box : BlockIs w' w.heap.size 34 #[.int .i64 u.kind, .int .i64 u.num, .slice A u.body.length c]
  out : BytesIs w' (w.heap.size + 1) xs
  below : Below w.heap.size w w'
section
variable {w w' w2 : World} {u : UnitV} {A : Option Addr} {c : Nat} {xs ys : List Int}
theorem SealW.new (w : World) (u : UnitV) (A : Option Addr) (c : Nat) : SealW w ((w.alloc (.cells #[.int .i64 u.kind, .int .i64 u.num, .slice A u.body.length c] 34)).alloc (.cells (u8s blank256).toArray 5)) u A c blank256 := by
  have hb1 := below_new w (.cells #[.int .i64 u.kind, .int .i64 u.num, .slice A u.body.length c] 34)
  have hB := BlockIs.made w 34 #[.int .i64 u.kind, .int .i64 u.num, .slice A u.body.length c]
  have hB2 := BlockIs.made (w.alloc (.cells #[.int .i64 u.kind, .int .i64 u.num, .slice A u.body.length c] 34)) 5 (u8s blank256).toArray
  refine ⟨hB.below (below_new _ _) hB.lt, ?_, hb1.alloc hb1.size _⟩
  rw [World.size_alloc] at hB2
  exact hB2
theorem SealW.on (h : SealW w w' u A c xs) (hb : Below w'.heap.size w' w2) : SealW w w2 u A c xs := ⟨h.box.below hb h.box.lt, BlockIs.below h.out hb (BlockIs.lt h.out), h.below.trans (hb.mono h.below.size)⟩
theorem SealW.drew (h : SealW w w' u A c xs) : SealW w w'.drew u A c xs := ⟨h.box, h.out, h.below.drew⟩
theorem SealW.put (h : SealW w w' u A c xs) (ho : BytesIs w2 (w.heap.size + 1) ys) (hg : w'.grownBy w2 (some (w.heap.size + 1))) : SealW w w2 u A c ys :=
  ⟨h.box.kept hg (by simp), ho, below_grown h.below hg h.below.size (by omega)⟩
theorem SealW.cells (h : SealW w w' u A c xs) : w'.cell? ⟨w.heap.size, 0, none⟩ = some (.int .i64 u.kind) ∧ w'.cell? ⟨w.heap.size, 1, none⟩ = some (.int .i64 u.num) ∧ w'.cell? ⟨w.heap.size, 2, none⟩ = some (.slice A u.body.length c) := ⟨h.box.cell 0, h.box.cell 1, h.box.cell 2⟩
theorem SealW.body (h : SealW w w' u A c xs) (hb : BytesAt w A u.body) : BytesAt w' A u.body := hb.below h.below
end
theorem head_fields {u : UnitV} (hu : u.right) : (∀ f ∈ [((1 : Int), u.kind), (6, u.num), (1, (u.body.length : Int))], 0 ≤ top f.1 ∧ 0 ≤ f.2 ∧ f.2 ≤ top f.1) := by
  obtain ⟨hk, hn, hl⟩ := hu
  have t1 : top 1 = 255 := rfl
  have t6 : top 6 = 1099511627776 := rfl
  intro f hf
  simp only [List.mem_cons, List.not_mem_nil, or_false] at hf
  rcases hf with rfl | rfl | rfl
  · simp only; omega
  · simp only; omega
  · simp only; omega
theorem head_bytes (u : UnitV) (h : u.right) : fieldBytes [((1 : Int), u.kind), (6, u.num), (1, (u.body.length : Int))] = u.hd8 := by
  obtain ⟨hk, hn, hl⟩ := h
  unfold fieldBytes UnitV.hd8
  simp only [List.flatMap_cons, List.flatMap_nil, List.append_nil]
  show le 1 u.kind ++ (le 6 u.num ++ le 1 (u.body.length : Int)) = _
  rw [le_one, le_one, show u.kind % 256 = u.kind by omega, show (u.body.length : Int) % 256 = u.body.length by omega]
  rfl
theorem hd8_bd {u : UnitV} (h : u.right) : ∀ z ∈ u.hd8, 0 ≤ z ∧ z < 256 := by
  rw [← head_bytes u h]
  intro z hz
  unfold fieldBytes at hz
  obtain ⟨f, _, hf⟩ := List.mem_flatMap.1 hz
  exact le_bd _ _ z hf
/-- The bytes of a unit's head. -/
theorem laid_head (w : World) (u : UnitV) (hu : u.right) :
    Calls Tryz.prog 132 #[.slice (some ⟨w.heap.size, 0, none⟩) 3 3] (w.alloc (.cells #[.int .i64 1, .int .i64 u.kind, .int .i64 6, .int .i64 u.num, .int .i64 1, .int .i64 (u.body.length : Int)] 188)) fun e w' => ∃ X cap, e = .returned (.slice X 8 cap) ∧ BytesAt w' X u.hd8 ∧ Below w.heap.size w w' := by
  have hbn := below_new w (.cells #[.int .i64 1, .int .i64 u.kind, .int .i64 6, .int .i64 u.num, .int .i64 1, .int .i64 (u.body.length : Int)] 188)
  have hB := BlockIs.made w 188 #[.int .i64 1, .int .i64 u.kind, .int .i64 6, .int .i64 u.num, .int .i64 1, .int .i64 (u.body.length : Int)]
  have hF : FieldsAt (w.alloc (.cells #[.int .i64 1, .int .i64 u.kind, .int .i64 6, .int .i64 u.num, .int .i64 1, .int .i64 (u.body.length : Int)] 188)) w.heap.size 0 [((1 : Int), u.kind), (6, u.num), (1, (u.body.length : Int))] := by
    intro k f hk
    match k, hk with
    | 0, hk => obtain rfl : ((1 : Int), u.kind) = f := by simpa using hk
               exact ⟨hB.cell 0, hB.cell 1⟩
    | 1, hk => obtain rfl : ((6 : Int), u.num) = f := by simpa using hk
               exact ⟨hB.cell 2, hB.cell 3⟩
    | 2, hk => obtain rfl : ((1 : Int), (u.body.length : Int)) = f := by simpa using hk
               exact ⟨hB.cell 4, hB.cell 5⟩
    | k + 3, hk => simp at hk
  have hh := head_bytes u hu
  refine (laid_any _ w.heap.size 0 _ 3 hF (head_fields hu) (by simp) (by rw [hh, hd8_len]; decide)).mono ?_
  rintro e w' ⟨v, rfl, ho, hb⟩
  rw [hh, hd8_len] at ho
  obtain ⟨X, cap, rfl, _, _⟩ := own_slice ho
  exact ⟨X, cap, rfl, own_reads ho (hd8_bd hu), hbn.trans (hb.mono hbn.size)⟩
/-- The bytes of a sum. -/
theorem laid_sum (w : World) (x : BitVec 32) :
    Calls Tryz.prog 132 #[.slice (some ⟨w.heap.size, 0, none⟩) 1 1] (w.alloc (.cells #[.int .i64 4, .int .i64 (x.toNat : Int)] 188)) fun e w' => ∃ X cap, e = .returned (.slice X 4 cap) ∧ BytesAt w' X (le 4 (x.toNat : Int)) ∧ Below w.heap.size w w' := by
  have hx := x.isLt
  have hbn := below_new w (.cells #[.int .i64 4, .int .i64 (x.toNat : Int)] 188)
  have hB := BlockIs.made w 188 #[.int .i64 4, .int .i64 (x.toNat : Int)]
  have hF : FieldsAt (w.alloc (.cells #[.int .i64 4, .int .i64 (x.toNat : Int)] 188)) w.heap.size 0 [((4 : Int), (x.toNat : Int))] := by
    intro k f hk
    match k, hk with
    | 0, hk => obtain rfl : ((4 : Int), (x.toNat : Int)) = f := by simpa using hk
               exact ⟨hB.cell 0, hB.cell 1⟩
    | k + 1, hk => simp at hk
  have hh : fieldBytes [((4 : Int), (x.toNat : Int))] = le 4 (x.toNat : Int) := by unfold fieldBytes; simp
  have hok : ∀ f ∈ [((4 : Int), (x.toNat : Int))], 0 ≤ top f.1 ∧ 0 ≤ f.2 ∧ f.2 ≤ top f.1 := by
    intro f hf
    obtain rfl := List.mem_singleton.1 hf
    have t4 : top 4 = 4294967295 := rfl
    simp only; omega
  refine (laid_any _ w.heap.size 0 _ 1 hF hok (by simp) (by rw [hh, le_len]; decide)).mono ?_
  rintro e w' ⟨v, rfl, ho, hb⟩
  rw [hh, le_len] at ho
  obtain ⟨X, cap, rfl, _, _⟩ := own_slice ho
  exact ⟨X, cap, rfl, own_reads ho (le_bd _ _), hbn.trans (hb.mono hbn.size)⟩
end Go.Proofs.YtpdfmpegcejmkaaGreatDoor
namespace Go.Proofs.YtpdfmpegcejmkaaGreatDoor
open Go.RowKit
set_option maxRecDepth 100000 in
set_option maxHeartbeats 8000000 in
theorem sealed_any (w : World) (u : UnitV) (A : Option Addr) (c : Nat) (hu : u.right) (hb : BytesAt w A u.body) (hc : u.body.length ≤ c) (_hm : c ≤ 9223372036854775807) :
    Calls Tryz.prog 96 #[u.val A c] w fun e w' => e = .returned (.slice (some ⟨w.heap.size + 1, 0, none⟩) 256 256) ∧ SealW w w' u A c (sealB u) := by
  have hmk := madeBlank
  have h8 := hd8_len u
  have hl := hu.2.2
  have HN := Lib.hid (SealW.new w u A c)
  have Hb := Lib.hid hb
  have Hu := Lib.hid hu
  have hsum := pre_row u
  unfold UnitV.val
  clear hb hu
  go_enter Tryz.func96, Tryz.ntmps96
  go_wp2_with fail
  generalize (w.alloc (.cells #[.int .i64 u.kind, .int .i64 u.num, .slice A u.body.length c] 34)).alloc (.cells (u8s blank256).toArray 5) = w1 at HN ⊢
  obtain ⟨c0, c1, c2⟩ := HN.out.cells
  have HL : Hid (Calls Tryz.prog 132 #[.slice (some ⟨w1.heap.size, 0, none⟩) 3 3] (w1.alloc (.cells #[.int .i64 1, .int .i64 u.kind, .int .i64 6, .int .i64 u.num, .int .i64 1, .int .i64 (u.body.length : Int)] 188)).drew fun e w' => ∃ X cap, e = .returned (.slice X 8 cap) ∧ BytesAt w' X u.hd8 ∧ Below w1.heap.size w1.drew w') := Lib.hid (laid_head w1.drew u Hu.out)
  have kA := (HN.out.on (below_new w1 (.cells #[.int .i64 1, .int .i64 u.kind, .int .i64 6, .int .i64 u.num, .int .i64 1, .int .i64 (u.body.length : Int)] 188))).cells
  have Hh := Lib.hid (hd8_len u)
  have Hbl := Lib.hid blank_len
  clear hmk
  go_region_held3 (fun w' => w'.cell? ⟨w.heap.size, 0, none⟩ = some (.int .i64 u.kind) ∧ w'.cell? ⟨w.heap.size, 1, none⟩ = some (.int .i64 u.num) ∧ w'.cell? ⟨w.heap.size, 2, none⟩ = some (.slice A u.body.length c)) (first | exact ⟨c0, c1, c2⟩ | exact kA | exact k2 | exact k3) (first
    | (go_at_call 132; refine HL.out.mono ?_; rintro e w2 ⟨X, cap, rfl, hx, hb2⟩; have H2 := Lib.hid (And.intro (HN.out.drew.on hb2) hx); have k2 := (HN.out.drew.on hb2).cells; clear hx hb2)
    | (refine step_copy_u8 (by rfl) (.tmp 8) (.tmp 20) (by rfl) (w.heap.size + 1) 0 256 256 8 cap X (by rfl) (by rfl) blank256 u.hd8 H2.out.1.out H2.out.2 Hh.out (by decide) (by rw [Hbl.out]; decide) ?_; intro w3 ho3 hg3 hs3; have H3 := Lib.hid (H2.out.1.put ho3 hg3); have k3 := (H2.out.1.put ho3 hg3).cells; clear ho3 hg3 hs3)
    | fail)
  have K3 : Hid (SealW w w3 u A c (layB u.hd8 [] 0)) := Lib.hid (by have := H3.out; rw [show Go.splice blank256 0 u.hd8 = layB u.hd8 [] 0 from lay_head Hh.out] at this; exact this)
  clear H3 H2 HN HL kA k2 k3 c0 c1 c2
  obtain ⟨c0, c1, c2⟩ := K3.out.cells
  have HP := Lib.hid (parted_any w3 u.body.length (by omega))
  have HF4 : Hid ((u.body.take 20).length = min u.body.length 20) := Lib.hid (by rw [List.length_take]; omega)
  have hm20 : min u.body.length 20 ≤ u.body.length := Nat.min_le_left _ _
  have h4 : ∀ w', (Instr.slice 27 (.slice A u.body.length c) none (some (.int .i64 ((min u.body.length 20 : Nat) : Int))) none).run Tryz.prog w' = .ok (.slice A (min u.body.length 20) c) w' := fun w' => cut_low A u.body.length (min u.body.length 20) c w' hm20 hc
  have Hl0 : Hid ((layB u.hd8 [] 0).length = 256) := Lib.hid (lay_len Hh.out (by simp))
  have HM : Hid (min u.body.length 20 ≤ 248 ∧ 8 + min u.body.length 20 ≤ 256) := Lib.hid (by omega)
  obtain ⟨m, hmin⟩ : ∃ m, min u.body.length 20 = m := ⟨_, rfl⟩
  have Hmin := Lib.hid hmin
  rw [hmin] at HP HF4 hm20 h4 HM
  clear hmin
  have hmi : (m : Int) ≤ (u.body.length : Int) := by omega
  go_wp2_with fail
  refine HP.out.mono ?_
  rintro e w' ⟨rfl, rfl⟩
  go_wp2_with fail
  go_region_held3 (fun w' => w'.cell? ⟨w.heap.size, 2, none⟩ = some (.slice A u.body.length c)) (first | exact c2 | exact k4) (first | (refine step_copy_u8 (by rfl) (.tmp 30) (.tmp 34) (by rfl) (w.heap.size + 1) 8 248 248 m c A (by rfl) (by rfl) (layB u.hd8 [] 0) (u.body.take 20) (by first | exact K3.out.out | exact K3.out.drew.out) (by first | exact front_reads (K3.out.body Hb.out) | exact front_reads (K3.out.drew.body Hb.out)) HF4.out HM.out.1 (by rw [Hl0.out]; exact HM.out.2) ?_; intro w4 ho4 hg4 hs4; have K4 := Lib.hid ((by first | exact K3.out.put ho4 hg4 | exact K3.out.drew.put ho4 hg4) : SealW w w4 u A c (Go.splice (layB u.hd8 [] 0) 8 (u.body.take 20))); have k4 := K4.out.cells.2.2; clear ho4 hg4 hs4) | fail)
  have K5 : Hid (SealW w w4 u A c (layB u.hd8 (u.body.take 20) 0)) := Lib.hid (by have := K4.out; rw [show Go.splice (layB u.hd8 [] 0) 8 (u.body.take 20) = layB u.hd8 (u.body.take 20) 0 from lay_front Hh.out hl] at this; exact this)
  clear K4 K3 HP c0 c1 c2 k4 h4
  obtain ⟨c0, c1, c2⟩ := K5.out.cells
  by_cases h20 : u.body.length ≤ 20
  · have hb0 : ¬ (0 : Int) < ((u.body.length - 20 : Nat) : Int) := by omega
    have K6 : Hid (SealW w w4 u A c (preB u)) := Lib.hid (by
      have := K5.out
      rw [List.take_of_length_le h20] at this
      unfold preB
      rw [if_neg (by omega)]
      exact this)
    go_wp2_with fail
    obtain ⟨x, hx⟩ : ∃ x, Mx.sum (unitRow (preB u)) = x := ⟨_, rfl⟩
    have hxl : (x.toNat : Int) < 4294967296 := by have := x.isLt; omega
    have hwx : IntKind.i64.wrap (x.toNat : Int) = x.toNat := IntWalk.i64_in _ (by omega)
    have HSm : Hid (le 4 (x.toNat : Int) = u.sumB) := Lib.hid (by rw [← hx, pre_row]; rfl)
    have HU := Lib.hid (fun (w' : World) (h : SealW w w' u A c (preB u)) => usum_any w' (some ⟨w.heap.size + 1, 0, none⟩) (preB u) 256 (h.out.reads (pre_bd Hu.out Hb.out.1)) (pre_len hl) (by decide) (by decide))
    rw [hx] at HU
    have HLs : Hid (∀ w' : World, Calls Tryz.prog 132 #[.slice (some ⟨w'.heap.size, 0, none⟩) 1 1] (w'.alloc (.cells #[.int .i64 4, .int .i64 (IntKind.i64.wrap (x.toNat : Int))] 188)) fun e w2 => ∃ X cap, e = .returned (.slice X 4 cap) ∧ BytesAt w2 X (le 4 (x.toNat : Int)) ∧ Below w'.heap.size w' w2) := Lib.hid (fun w' => by rw [hwx]; exact laid_sum w' x)
    have Hpl := Lib.hid (pre_len hl)
    clear hx hwx c0 c1 c2
    go_region_held3 (fun _ => True) (trivial) (first
      | (go_at_call 134; refine (HU.out _ ?_).mono ?_; (first | exact K6.out | exact K6.out.drew); rintro e w7 ⟨rfl, hb7⟩; have K7 := Lib.hid ((by first | exact K6.out.on hb7 | exact K6.out.drew.on hb7) : SealW w w7 u A c (preB u)); clear hb7)
      | (go_at_call 132; refine (HLs.out _).mono ?_; rintro e w8 ⟨X8, cap8, rfl, hx8, hb8⟩; have H8 := Lib.hid (And.intro (K7.out.on hb8) hx8); clear hx8 hb8)
      | (refine step_copy_u8 (by rfl) (.tmp 48) (.tmp 54) (by rfl) (w.heap.size + 1) 28 228 228 4 cap8 X8 (by rfl) (by rfl) (preB u) (le 4 (x.toNat : Int)) H8.out.1.out H8.out.2 (le_len _ _) (by decide) (by rw [Hpl.out]; decide) ?_; intro w9 ho9 hg9 hs9; have K9 := Lib.hid (H8.out.1.put ho9 hg9); clear ho9 hg9 hs9)
      | fail)
    all_goals
      go_wp2_with fail
      go_ret
      refine ⟨rfl, ?_⟩
      have := K9.out
      rw [HSm.out, show Go.splice (preB u) 28 u.sumB = sealB u from pre_sum u] at this
      exact this
  · have hb0 : (0 : Int) < ((u.body.length - 20 : Nat) : Int) := by omega
    have hm2 : m = 20 := by rw [← Hmin.out]; omega
    subst hm2
    have h6 : ∀ w', (Instr.slice 27 (.slice A u.body.length c) (some (.int .i64 20)) none none).run Tryz.prog w' = .ok (.slice (cutAt A c 20) (u.body.length - 20) (c - 20)) w' := fun w' => cut_run1 A u.body.length 20 c w' (by omega)
    have HD : Hid ((u.body.drop 20).length = u.body.length - 20 ∧ u.body.length - 20 ≤ 220 ∧ 36 + (u.body.length - 20) ≤ 256) := Lib.hid ⟨List.length_drop, by omega, by omega⟩
    have Hl1 : Hid ((layB u.hd8 (u.body.take 20) 0).length = 256) := Lib.hid (lay_len Hh.out (by rw [List.length_take]; omega))
    have hi20 : (20 : Int) ≤ (u.body.length : Int) := by omega
    go_wp2_with fail
    go_region_held3 (fun w' => w'.cell? ⟨w.heap.size, 2, none⟩ = some (.slice A u.body.length c)) (first | exact c2 | exact k5) (first | (refine step_copy_u8 (by rfl) (.tmp 39) (.tmp 43) (by rfl) (w.heap.size + 1) 36 220 220 (u.body.length - 20) (c - 20) (cutAt A c 20) (by rfl) (by rfl) (layB u.hd8 (u.body.take 20) 0) (u.body.drop 20) (by first | exact K5.out.out | exact K5.out.drew.out) (by first | exact cut_reads (K5.out.body Hb.out) hc | exact cut_reads (K5.out.drew.body Hb.out) hc) HD.out.1 HD.out.2.1 (by rw [Hl1.out]; exact HD.out.2.2) ?_; intro w5 ho5 hg5 hs5; have K5b := Lib.hid ((by first | exact K5.out.put ho5 hg5 | exact K5.out.drew.put ho5 hg5) : SealW w w5 u A c (Go.splice (layB u.hd8 (u.body.take 20) 0) 36 (u.body.drop 20))); have k5 := K5b.out.cells.2.2; clear ho5 hg5 hs5) | fail)
    have K5c : Hid (SealW w w5 u A c (layB u.hd8 u.body 0)) := Lib.hid (by have := K5b.out; rw [show Go.splice (layB u.hd8 (u.body.take 20) 0) 36 (u.body.drop 20) = layB u.hd8 u.body 0 from lay_back Hh.out hl] at this; exact this)
    clear K5b K5 k5 c0 c1 c2 h6
    obtain ⟨c0, c1, c2⟩ := K5c.out.cells
    have Hl2 : Hid ((layB u.hd8 u.body 0).length = 256) := Lib.hid (lay_len Hh.out hl)
    have d255 := K5c.out.out.cell 255 ((layB u.hd8 u.body 0).getD 255 0) (by rw [List.getD_eq_getElem?_getD, List.getElem?_eq_getElem (by rw [Hl2.out]; decide)]; rfl)
    have f255 := BlockIs.free K5c.out.out 255
    have K6 : Hid (SealW w (w5.setCell ⟨w.heap.size + 1, 255, none⟩ (.int .u8 1)) u A c (preB u)) := Lib.hid (by
      have h1 := K5c.out.out.set1 255 1
      rw [lay_end Hh.out hl] at h1
      have h2 := K5c.out.put h1 (grown_at (World.grownBy.refl _ _) 255 (.int .u8 1))
      unfold preB
      rw [if_pos (by omega)]
      exact h2)
    go_wp2_with fail
    clear d255 f255
    generalize w5.setCell ⟨w.heap.size + 1, 255, none⟩ (.int .u8 1) = w6 at K6 ⊢
    obtain ⟨x, hx⟩ : ∃ x, Mx.sum (unitRow (preB u)) = x := ⟨_, rfl⟩
    have hxl : (x.toNat : Int) < 4294967296 := by have := x.isLt; omega
    have hwx : IntKind.i64.wrap (x.toNat : Int) = x.toNat := IntWalk.i64_in _ (by omega)
    have HSm : Hid (le 4 (x.toNat : Int) = u.sumB) := Lib.hid (by rw [← hx, pre_row]; rfl)
    have HU := Lib.hid (fun (w' : World) (h : SealW w w' u A c (preB u)) => usum_any w' (some ⟨w.heap.size + 1, 0, none⟩) (preB u) 256 (h.out.reads (pre_bd Hu.out Hb.out.1)) (pre_len hl) (by decide) (by decide))
    rw [hx] at HU
    have HLs : Hid (∀ w' : World, Calls Tryz.prog 132 #[.slice (some ⟨w'.heap.size, 0, none⟩) 1 1] (w'.alloc (.cells #[.int .i64 4, .int .i64 (IntKind.i64.wrap (x.toNat : Int))] 188)) fun e w2 => ∃ X cap, e = .returned (.slice X 4 cap) ∧ BytesAt w2 X (le 4 (x.toNat : Int)) ∧ Below w'.heap.size w' w2) := Lib.hid (fun w' => by rw [hwx]; exact laid_sum w' x)
    have Hpl := Lib.hid (pre_len hl)
    clear hx hwx c0 c1 c2
    go_region_held3 (fun _ => True) (trivial) (first
      | (go_at_call 134; refine (HU.out _ ?_).mono ?_; (first | exact K6.out | exact K6.out.drew); rintro e w7 ⟨rfl, hb7⟩; have K7 := Lib.hid ((by first | exact K6.out.on hb7 | exact K6.out.drew.on hb7) : SealW w w7 u A c (preB u)); clear hb7)
      | (go_at_call 132; refine (HLs.out _).mono ?_; rintro e w8 ⟨X8, cap8, rfl, hx8, hb8⟩; have H8 := Lib.hid (And.intro (K7.out.on hb8) hx8); clear hx8 hb8)
      | (refine step_copy_u8 (by rfl) (.tmp 48) (.tmp 54) (by rfl) (w.heap.size + 1) 28 228 228 4 cap8 X8 (by rfl) (by rfl) (preB u) (le 4 (x.toNat : Int)) H8.out.1.out H8.out.2 (le_len _ _) (by decide) (by rw [Hpl.out]; decide) ?_; intro w9 ho9 hg9 hs9; have K9 := Lib.hid (H8.out.1.put ho9 hg9); clear ho9 hg9 hs9)
      | fail)
    all_goals
      go_wp2_with fail
      go_ret
      refine ⟨rfl, ?_⟩
      have := K9.out
      rw [HSm.out, show Go.splice (preB u) 28 u.sumB = sealB u from pre_sum u] at this
      exact this
end Go.Proofs.YtpdfmpegcejmkaaGreatDoor
namespace Go.Proofs.YtpdfmpegcejmkaaGreatDoor
open Go.RowKit
/-- What Seal tells. -/
def sealR (u : UnitV) : List Int × Int := if u.right then (sealB u, 0) else ([], 2)
theorem sealR_bd {u : UnitV} (hb : ∀ z ∈ u.body, 0 ≤ z ∧ z < 256) : ∀ z ∈ (sealR u).1, 0 ≤ z ∧ z < 256 := by
  unfold sealR
  split
  · next h => exact seal_bd h hb
  · intro z hz; cases hz
theorem sealR_le (u : UnitV) : (sealR u).1.length ≤ 256 := by
  unfold sealR
  split
  · next h => rw [seal_len h.2.2]; decide
  · exact Nat.zero_le _
theorem own_bytesIs {w : World} {B g n : Nat} {xs : List Int} (h : BytesIs w g xs) (hn : xs.length = n) (hB : B ≤ g) (hm : n ≤ 140737488351232) : w.ownsRow B 5 1 (.slice (some ⟨g, 0, none⟩) n n) n (u8s xs) :=
  ⟨by rw [u8s_len, hn, Nat.mul_one], .inr ⟨g, n, (u8s xs).toArray, rfl, hB, h, Nat.le_refl _, by unfold maxLen; omega, by rw [List.size_toArray, u8s_len, hn, Nat.mul_one], by rw [List.take_of_length_le (by rw [u8s_len, hn, Nat.mul_one]; exact Nat.le_refl _)]⟩⟩
set_option maxRecDepth 100000 in
set_option maxHeartbeats 2000000 in
theorem useal_any (w : World) (u : UnitV) (A : Option Addr) (c : Nat) (hb : BytesAt w A u.body) (hc : u.body.length ≤ c) (hm : c ≤ 9223372036854775807) :
    Calls Tryz.prog 65 #[u.val A c] w fun e w' => ∃ v, e = .returned (.tuple #[v, .int .i64 (sealR u).2]) ∧ w'.ownsRow w.heap.size 5 1 v (sealR u).1.length (u8s (sealR u).1) ∧ Below w.heap.size w w' := by
  have hbn := below_new w (.cells #[.int .i64 u.kind, .int .i64 u.num, .slice A u.body.length c] 34)
  have HR := Lib.hid (fun w' => uright_any w' u A c)
  by_cases hu : u.right
  · have HS := Lib.hid (fun (w' : World) (hb' : Below (w.alloc (.cells #[.int .i64 u.kind, .int .i64 u.num, .slice A u.body.length c] 34)).heap.size (w.alloc (.cells #[.int .i64 u.kind, .int .i64 u.num, .slice A u.body.length c] 34)) w') => sealed_any w' u A c hu ((hb.below hbn).below hb') hc hm)
    have Hr : Hid (sealR u = (sealB u, 0)) := Lib.hid (by unfold sealR; rw [if_pos hu])
    have Hl := Lib.hid (seal_len hu.2.2)
    rw [decide_eq_true hu] at HR
    rw [Hr.out]
    unfold UnitV.val at *
    clear hb hu
    go_enter Tryz.func65, Tryz.ntmps65
    go_wp2_with fail
    refine (HR.out _).mono ?_
    rintro e w1 ⟨rfl, hb1⟩
    have c0 : w1.cell? ⟨w.heap.size, 0, none⟩ = some (.int .i64 u.kind) := cell_below (row3_cells w _ _ _ _).1 hb1
    have c1 : w1.cell? ⟨w.heap.size, 1, none⟩ = some (.int .i64 u.num) := cell_below (row3_cells w _ _ _ _).2.1 hb1
    have c2 : w1.cell? ⟨w.heap.size, 2, none⟩ = some (.slice A u.body.length c) := cell_below (row3_cells w _ _ _ _).2.2 hb1
    have HS1 := Lib.hid (HS.out w1 hb1)
    have Hb1 := Lib.hid (hbn.trans (hb1.mono hbn.size))
    clear HS hb1 hbn
    go_wp2_with fail
    refine HS1.out.mono ?_
    rintro e w2 ⟨rfl, hK⟩
    have HK := Lib.hid hK
    clear hK c0 c1 c2
    go_wp2_with fail
    go_ret2
    refine ⟨_, rfl, ?_, Hb1.out.trans (HK.out.below.mono Hb1.out.size)⟩
    rw [Hl.out]
    exact own_bytesIs HK.out.out Hl.out (by have := Hb1.out.size; omega) (by decide)
  · have Hr : Hid (sealR u = ([], 2)) := Lib.hid (by unfold sealR; rw [if_neg hu])
    rw [decide_eq_false hu] at HR
    rw [Hr.out]
    unfold UnitV.val at *
    clear hb hu
    go_enter Tryz.func65, Tryz.ntmps65
    go_wp2_with fail
    refine (HR.out _).mono ?_
    rintro e w1 ⟨rfl, hb1⟩
    have Hb1 := Lib.hid (hbn.trans (hb1.mono hbn.size))
    clear hb1 hbn
    go_wp2_with fail
    go_ret2
    exact ⟨_, rfl, World.ownsRow_nil _ _ _ _, Hb1.out⟩
end Go.Proofs.YtpdfmpegcejmkaaGreatDoor
namespace Go.Proofs.YtpdfmpegcejmkaaGreatDoor
open Go.RowKit
set_option maxRecDepth 100000 in
set_option maxHeartbeats 1000000 in
theorem rright_any (w : World) (u : UnitV) (A : Option Addr) (c : Nat) :
    Calls Tryz.prog 59 #[u.val A c] w fun r w' => r = .returned (.bool (decide u.right)) ∧ Below w.heap.size w w' := by
  obtain ⟨k, n, body⟩ := u
  have hn := below_new w (.cells #[.int .i64 k, .int .i64 n, .slice A body.length c] 34)
  unfold UnitV.val
  simp only
  go_enter Tryz.func59, Tryz.ntmps59
  go_wp2
  all_goals
    go_ret
    refine ⟨ret_bool ?_, hn⟩
    first | exact (decide_eq_false (by unfold UnitV.right; simp only; omega)).symm | (refine decide_eq_decide.2 ?_; unfold UnitV.right; simp only; omega)
end Go.Proofs.YtpdfmpegcejmkaaGreatDoor
namespace Go.Proofs.YtpdfmpegcejmkaaGreatDoor
open Go.RowKit
theorem rshift_any (x : BitVec 32) (w : World) :
    Calls Tryz.prog 116 #[.int .u32 (x.toNat : Int)] w fun e w' => e = .returned (.int .u32 ((Mx.sh x).toNat : Int)) ∧ w = w' := by
  cases hb : x.getLsbD 0
  · have h := hb
    rw [lsb_mod] at h
    have Hb := Lib.hid hb; clear hb
    go_enter Tryz.func116, Tryz.ntmps116
    go_wp2
    go_ret
    exact ⟨ret_int (sh_none x Hb.out), rfl⟩
  · have h := hb
    rw [lsb_mod] at h
    have Hb := Lib.hid hb; clear hb
    go_enter Tryz.func116, Tryz.ntmps116
    go_wp2
    go_ret
    exact ⟨ret_int (sh_one x Hb.out), rfl⟩
end Go.Proofs.YtpdfmpegcejmkaaGreatDoor
