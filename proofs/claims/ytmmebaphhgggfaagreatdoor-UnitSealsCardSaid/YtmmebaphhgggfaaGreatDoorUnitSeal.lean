/- Sealing: a unit's block. -/
import Derived.Test.YtmmebaphhgggfaaGreatDoorUnitRight
import Derived.Test.YtmmebaphhgggfaaGreatDoorUnitSum
import Derived.Test.YtmmebaphhgggfaaGreatDoorUnitLay
import Derived.Test.YtmmebaphhgggfaaGreatDoorUnitCopy
import Derived.Test.YtmmebaphhgggfaaGreatDoorUnitLaid
namespace Go.Proofs.YtmmebaphhgggfaaGreatDoor
open Go.RowKit
def blank256 : List Int := List.replicate 256 0
theorem blank_len : blank256.length = 256 := by unfold blank256; exact List.length_replicate
theorem madeBlank (w : World) : (Instr.makeSlice 23 (.int .i64 256) (.int .i64 256)).run Tryz.prog w = .ok (.slice (some ⟨w.heap.size, 0, none⟩) 256 256) (w.alloc (.cells (u8s blank256).toArray 5)) := by
  obtain ⟨i0, hi, hz0, hz1, hz2⟩ := info_parts infoByte
  have := run_make (P := Tryz.prog) w 23 5 i0 (.int .u8 0) Tryz.underlying23 hi hz0 .i64 .i64 256 256 (by decide) (by decide) (by rw [hz2]; decide) (by decide)
  rw [this]
  have h : madeCells (Value.int .u8 0).cells ((256 : Int).toNat * i0.size) = (u8s blank256).toArray := by rw [hz1]; kernel_rfl
  rw [h]; rfl
/-- What a block is made of, while it is made: the unit in a box, the block's bytes so far. -/
structure SealW (w w' : World) (u : UnitV) (A : Option Addr) (c : Nat) (xs : List Int) : Prop where
  box : BlockIs w' w.heap.size 25 #[.int .i64 u.kind, .int .i64 u.num, .slice A u.body.length c]
  out : BytesIs w' (w.heap.size + 1) xs
  below : Below w.heap.size w w'
section
variable {w w' w2 : World} {u : UnitV} {A : Option Addr} {c : Nat} {xs ys : List Int}
theorem SealW.new (w : World) (u : UnitV) (A : Option Addr) (c : Nat) : SealW w ((w.alloc (.cells #[.int .i64 u.kind, .int .i64 u.num, .slice A u.body.length c] 25)).alloc (.cells (u8s blank256).toArray 5)) u A c blank256 := by
  have hb1 := below_new w (.cells #[.int .i64 u.kind, .int .i64 u.num, .slice A u.body.length c] 25)
  have hB := BlockIs.made w 25 #[.int .i64 u.kind, .int .i64 u.num, .slice A u.body.length c]
  have hB2 := BlockIs.made (w.alloc (.cells #[.int .i64 u.kind, .int .i64 u.num, .slice A u.body.length c] 25)) 5 (u8s blank256).toArray
  refine ⟨hB.below (below_new _ _) hB.lt, ?_, hb1.alloc hb1.size _⟩
  rw [World.size_alloc] at hB2
  exact hB2
theorem SealW.on (h : SealW w w' u A c xs) (hb : Below w'.heap.size w' w2) : SealW w w2 u A c xs := ⟨h.box.below hb h.box.lt, BlockIs.below h.out hb (BlockIs.lt h.out), h.below.trans (hb.mono h.below.size)⟩
theorem SealW.drew (h : SealW w w' u A c xs) : SealW w w'.drew u A c xs := ⟨h.box, h.out, h.below.drew⟩
theorem SealW.put (h : SealW w w' u A c xs) (ho : BytesIs w2 (w.heap.size + 1) ys) (hg : w'.grownBy w2 (some (w.heap.size + 1))) : SealW w w2 u A c ys :=
  ⟨h.box.kept hg (by simp), ho, below_grown h.below hg h.below.size (by omega)⟩
theorem SealW.cells (h : SealW w w' u A c xs) : w'.cell? ⟨w.heap.size, 0, none⟩ = some (.int .i64 u.kind) ∧ w'.cell? ⟨w.heap.size, 1, none⟩ = some (.int .i64 u.num) ∧ w'.cell? ⟨w.heap.size, 2, none⟩ = some (.slice A u.body.length c) := ⟨h.box.cell 0, h.box.cell 1, h.box.cell 2⟩
theorem SealW.body (h : SealW w w' u A c xs) (hb : BytesAt w A u.body) : BytesAt w' A u.body := hb.below h.below
end
theorem head_fields {u : UnitV} (hu : u.right) : (∀ f ∈ [((1 : Int), u.kind), (6, u.num), (1, (u.body.length : Int))], 0 ≤ top f.1 ∧ 0 ≤ f.2 ∧ f.2 ≤ top f.1) := by
  obtain ⟨hk, hn, hl⟩ := hu
  have t1 : top 1 = 255 := rfl
  have t6 : top 6 = 1099511627776 := rfl
  intro f hf
  simp only [List.mem_cons, List.not_mem_nil, or_false] at hf
  rcases hf with rfl | rfl | rfl
  · simp only; omega
  · simp only; omega
  · simp only; omega
theorem head_bytes (u : UnitV) (h : u.right) : fieldBytes [((1 : Int), u.kind), (6, u.num), (1, (u.body.length : Int))] = u.hd8 := by
  obtain ⟨hk, hn, hl⟩ := h
  unfold fieldBytes UnitV.hd8
  simp only [List.flatMap_cons, List.flatMap_nil, List.append_nil]
  show le 1 u.kind ++ (le 6 u.num ++ le 1 (u.body.length : Int)) = _
  rw [le_one, le_one, show u.kind % 256 = u.kind by omega, show (u.body.length : Int) % 256 = u.body.length by omega]
  rfl
theorem hd8_bd {u : UnitV} (h : u.right) : ∀ z ∈ u.hd8, 0 ≤ z ∧ z < 256 := by
  rw [← head_bytes u h]
  intro z hz
  unfold fieldBytes at hz
  obtain ⟨f, _, hf⟩ := List.mem_flatMap.1 hz
  exact le_bd _ _ z hf
/-- The bytes of a unit's head. -/
theorem laid_head (w : World) (u : UnitV) (hu : u.right) :
    Calls Tryz.prog 63 #[.slice (some ⟨w.heap.size, 0, none⟩) 3 3] (w.alloc (.cells #[.int .i64 1, .int .i64 u.kind, .int .i64 6, .int .i64 u.num, .int .i64 1, .int .i64 (u.body.length : Int)] 116)) fun e w' => ∃ X cap, e = .returned (.slice X 8 cap) ∧ BytesAt w' X u.hd8 ∧ Below w.heap.size w w' := by
  have hbn := below_new w (.cells #[.int .i64 1, .int .i64 u.kind, .int .i64 6, .int .i64 u.num, .int .i64 1, .int .i64 (u.body.length : Int)] 116)
  have hB := BlockIs.made w 116 #[.int .i64 1, .int .i64 u.kind, .int .i64 6, .int .i64 u.num, .int .i64 1, .int .i64 (u.body.length : Int)]
  have hF : FieldsAt (w.alloc (.cells #[.int .i64 1, .int .i64 u.kind, .int .i64 6, .int .i64 u.num, .int .i64 1, .int .i64 (u.body.length : Int)] 116)) w.heap.size 0 [((1 : Int), u.kind), (6, u.num), (1, (u.body.length : Int))] := by
    intro k f hk
    match k, hk with
    | 0, hk => obtain rfl : ((1 : Int), u.kind) = f := by simpa using hk
               exact ⟨hB.cell 0, hB.cell 1⟩
    | 1, hk => obtain rfl : ((6 : Int), u.num) = f := by simpa using hk
               exact ⟨hB.cell 2, hB.cell 3⟩
    | 2, hk => obtain rfl : ((1 : Int), (u.body.length : Int)) = f := by simpa using hk
               exact ⟨hB.cell 4, hB.cell 5⟩
    | k + 3, hk => simp at hk
  have hh := head_bytes u hu
  refine (laid_any _ w.heap.size 0 _ 3 hF (head_fields hu) (by simp) (by rw [hh, hd8_len]; decide)).mono ?_
  rintro e w' ⟨v, rfl, ho, hb⟩
  rw [hh, hd8_len] at ho
  obtain ⟨X, cap, rfl, _, _⟩ := own_slice ho
  exact ⟨X, cap, rfl, own_reads ho (hd8_bd hu), hbn.trans (hb.mono hbn.size)⟩
/-- The bytes of a sum. -/
theorem laid_sum (w : World) (x : BitVec 32) :
    Calls Tryz.prog 63 #[.slice (some ⟨w.heap.size, 0, none⟩) 1 1] (w.alloc (.cells #[.int .i64 4, .int .i64 (x.toNat : Int)] 116)) fun e w' => ∃ X cap, e = .returned (.slice X 4 cap) ∧ BytesAt w' X (le 4 (x.toNat : Int)) ∧ Below w.heap.size w w' := by
  have hx := x.isLt
  have hbn := below_new w (.cells #[.int .i64 4, .int .i64 (x.toNat : Int)] 116)
  have hB := BlockIs.made w 116 #[.int .i64 4, .int .i64 (x.toNat : Int)]
  have hF : FieldsAt (w.alloc (.cells #[.int .i64 4, .int .i64 (x.toNat : Int)] 116)) w.heap.size 0 [((4 : Int), (x.toNat : Int))] := by
    intro k f hk
    match k, hk with
    | 0, hk => obtain rfl : ((4 : Int), (x.toNat : Int)) = f := by simpa using hk
               exact ⟨hB.cell 0, hB.cell 1⟩
    | k + 1, hk => simp at hk
  have hh : fieldBytes [((4 : Int), (x.toNat : Int))] = le 4 (x.toNat : Int) := by unfold fieldBytes; simp
  have hok : ∀ f ∈ [((4 : Int), (x.toNat : Int))], 0 ≤ top f.1 ∧ 0 ≤ f.2 ∧ f.2 ≤ top f.1 := by
    intro f hf
    obtain rfl := List.mem_singleton.1 hf
    have t4 : top 4 = 4294967295 := rfl
    simp only; omega
  refine (laid_any _ w.heap.size 0 _ 1 hF hok (by simp) (by rw [hh, le_len]; decide)).mono ?_
  rintro e w' ⟨v, rfl, ho, hb⟩
  rw [hh, le_len] at ho
  obtain ⟨X, cap, rfl, _, _⟩ := own_slice ho
  exact ⟨X, cap, rfl, own_reads ho (le_bd _ _), hbn.trans (hb.mono hbn.size)⟩
end Go.Proofs.YtmmebaphhgggfaaGreatDoor
