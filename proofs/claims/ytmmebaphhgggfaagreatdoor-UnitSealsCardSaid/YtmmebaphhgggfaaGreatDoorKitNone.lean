/- Do lists of a kind of which there are none lie apart: they do. -/
import Derived.Test.YtmmebaphhgggfaaGreatDoorKitApart
namespace Go.Proofs.YtmmebaphhgggfaaGreatDoor
open Go.RowKit
theorem infoLimbs : (Tryz.prog.info? 162).map (fun i => (i.zero, i.size, i.bytes)) = some (some (.slice none 0 0), 1, 24) := by kernel_rfl
set_option maxRecDepth 100000 in
set_option maxHeartbeats 1000000 in
theorem flatLimbs_none (w : World) : Calls Tryz.prog 68 #[.slice none 0 0] w fun e w' => e = .returned (.bool true) ∧ Below w.heap.size w w' := by
  obtain ⟨i1, ri, rz0, rz1, rz2⟩ := info_parts infoLimbs
  go_enter Tryz.func68, Tryz.ntmps68
  go_wp2_with fail
  go_loopg [3] 0 (fun g i wx => g = 0 ∧ i = .int .i64 0 ∧ wx = w)
  case atStart => exact ⟨rfl, rfl, rfl⟩
  case round =>
    obtain ⟨_, rfl, rfl⟩ := hrel
    go_wp2_with (at_make; refine wpList_make_full _ rfl _ _ _ rfl wr.heap.size 162 i1 (.slice none 0 0) 1 Tryz.underlying63 ri rz0 rz1 .i64 .i64 _ _ 0 rfl rfl rfl rfl (by rw [rz2]; omega) (by unfold maxLen; omega) (Nat.le_refl _) ?_; intro w1 hown1 hgrow1)
    have hb := (Below.refl wr.heap.size wr).grown hgrow1 (Nat.le_refl _) (fun j e => by cases e)
    have Hb := Lib.hid hb
    clear hb hown1 hgrow1
    go_loopg [6] 0 (fun g i wx => g = 0 ∧ i = .int .i64 0 ∧ wx = w1)
    case atStart => exact ⟨rfl, rfl, rfl⟩
    case round =>
      obtain ⟨_, rfl, rfl⟩ := hrel
      go_wp2_with fail
      go_loopg [9] 0 (fun g i wx => g = 0 ∧ i = .int .i64 0 ∧ wx = wr)
      case atStart => exact ⟨rfl, rfl, rfl⟩
      case round =>
        obtain ⟨_, rfl, rfl⟩ := hrel
        go_wp2_with fail
        go_loopg [11] 0 (fun g i wx => g = 0 ∧ i = .int .i64 0 ∧ wx = wr)
        case atStart => exact ⟨rfl, rfl, rfl⟩
        case round =>
          obtain ⟨_, rfl, rfl⟩ := hrel
          go_wp2_with fail
          go_loopg [14] 0 (fun g i wx => g = 0 ∧ i = .int .i64 0 ∧ wx = wr)
          case atStart => exact ⟨rfl, rfl, rfl⟩
          case round =>
            obtain ⟨_, rfl, rfl⟩ := hrel
            go_wp2_with fail
            go_ret
            exact ⟨rfl, Hb.out⟩
theorem infoWords : (Tryz.prog.info? 163).map (fun i => (i.zero, i.size, i.bytes)) = some (some (.slice none 0 0), 1, 24) := by kernel_rfl
set_option maxRecDepth 100000 in
set_option maxHeartbeats 1000000 in
theorem flatWords_none (w : World) : Calls Tryz.prog 69 #[.slice none 0 0] w fun e w' => e = .returned (.bool true) ∧ Below w.heap.size w w' := by
  obtain ⟨i1, ri, rz0, rz1, rz2⟩ := info_parts infoWords
  go_enter Tryz.func69, Tryz.ntmps69
  go_wp2_with fail
  go_loopg [3] 0 (fun g i wx => g = 0 ∧ i = .int .i64 0 ∧ wx = w)
  case atStart => exact ⟨rfl, rfl, rfl⟩
  case round =>
    obtain ⟨_, rfl, rfl⟩ := hrel
    go_wp2_with (at_make; refine wpList_make_full _ rfl _ _ _ rfl wr.heap.size 163 i1 (.slice none 0 0) 1 Tryz.underlying64 ri rz0 rz1 .i64 .i64 _ _ 0 rfl rfl rfl rfl (by rw [rz2]; omega) (by unfold maxLen; omega) (Nat.le_refl _) ?_; intro w1 hown1 hgrow1)
    have hb := (Below.refl wr.heap.size wr).grown hgrow1 (Nat.le_refl _) (fun j e => by cases e)
    have Hb := Lib.hid hb
    clear hb hown1 hgrow1
    go_loopg [6] 0 (fun g i wx => g = 0 ∧ i = .int .i64 0 ∧ wx = w1)
    case atStart => exact ⟨rfl, rfl, rfl⟩
    case round =>
      obtain ⟨_, rfl, rfl⟩ := hrel
      go_wp2_with fail
      go_loopg [9] 0 (fun g i wx => g = 0 ∧ i = .int .i64 0 ∧ wx = wr)
      case atStart => exact ⟨rfl, rfl, rfl⟩
      case round =>
        obtain ⟨_, rfl, rfl⟩ := hrel
        go_wp2_with fail
        go_loopg [11] 0 (fun g i wx => g = 0 ∧ i = .int .i64 0 ∧ wx = wr)
        case atStart => exact ⟨rfl, rfl, rfl⟩
        case round =>
          obtain ⟨_, rfl, rfl⟩ := hrel
          go_wp2_with fail
          go_loopg [14] 0 (fun g i wx => g = 0 ∧ i = .int .i64 0 ∧ wx = wr)
          case atStart => exact ⟨rfl, rfl, rfl⟩
          case round =>
            obtain ⟨_, rfl, rfl⟩ := hrel
            go_wp2_with fail
            go_ret
            exact ⟨rfl, Hb.out⟩
theorem infoInts : (Tryz.prog.info? 40).map (fun i => (i.zero, i.size, i.bytes)) = some (some (.slice none 0 0), 1, 24) := by kernel_rfl
set_option maxRecDepth 100000 in
set_option maxHeartbeats 1000000 in
theorem flatInts_none (w : World) : Calls Tryz.prog 70 #[.slice none 0 0] w fun e w' => e = .returned (.bool true) ∧ Below w.heap.size w w' := by
  obtain ⟨i1, ri, rz0, rz1, rz2⟩ := info_parts infoInts
  go_enter Tryz.func70, Tryz.ntmps70
  go_wp2_with fail
  go_loopg [3] 0 (fun g i wx => g = 0 ∧ i = .int .i64 0 ∧ wx = w)
  case atStart => exact ⟨rfl, rfl, rfl⟩
  case round =>
    obtain ⟨_, rfl, rfl⟩ := hrel
    go_wp2_with (at_make; refine wpList_make_full _ rfl _ _ _ rfl wr.heap.size 40 i1 (.slice none 0 0) 1 Tryz.underlying65 ri rz0 rz1 .i64 .i64 _ _ 0 rfl rfl rfl rfl (by rw [rz2]; omega) (by unfold maxLen; omega) (Nat.le_refl _) ?_; intro w1 hown1 hgrow1)
    have hb := (Below.refl wr.heap.size wr).grown hgrow1 (Nat.le_refl _) (fun j e => by cases e)
    have Hb := Lib.hid hb
    clear hb hown1 hgrow1
    go_loopg [6] 0 (fun g i wx => g = 0 ∧ i = .int .i64 0 ∧ wx = w1)
    case atStart => exact ⟨rfl, rfl, rfl⟩
    case round =>
      obtain ⟨_, rfl, rfl⟩ := hrel
      go_wp2_with fail
      go_loopg [9] 0 (fun g i wx => g = 0 ∧ i = .int .i64 0 ∧ wx = wr)
      case atStart => exact ⟨rfl, rfl, rfl⟩
      case round =>
        obtain ⟨_, rfl, rfl⟩ := hrel
        go_wp2_with fail
        go_loopg [11] 0 (fun g i wx => g = 0 ∧ i = .int .i64 0 ∧ wx = wr)
        case atStart => exact ⟨rfl, rfl, rfl⟩
        case round =>
          obtain ⟨_, rfl, rfl⟩ := hrel
          go_wp2_with fail
          go_loopg [14] 0 (fun g i wx => g = 0 ∧ i = .int .i64 0 ∧ wx = wr)
          case atStart => exact ⟨rfl, rfl, rfl⟩
          case round =>
            obtain ⟨_, rfl, rfl⟩ := hrel
            go_wp2_with fail
            go_ret
            exact ⟨rfl, Hb.out⟩
theorem infoLongs : (Tryz.prog.info? 164).map (fun i => (i.zero, i.size, i.bytes)) = some (some (.slice none 0 0), 1, 24) := by kernel_rfl
set_option maxRecDepth 100000 in
set_option maxHeartbeats 1000000 in
theorem flatLongs_none (w : World) : Calls Tryz.prog 71 #[.slice none 0 0] w fun e w' => e = .returned (.bool true) ∧ Below w.heap.size w w' := by
  obtain ⟨i1, ri, rz0, rz1, rz2⟩ := info_parts infoLongs
  go_enter Tryz.func71, Tryz.ntmps71
  go_wp2_with fail
  go_loopg [3] 0 (fun g i wx => g = 0 ∧ i = .int .i64 0 ∧ wx = w)
  case atStart => exact ⟨rfl, rfl, rfl⟩
  case round =>
    obtain ⟨_, rfl, rfl⟩ := hrel
    go_wp2_with (at_make; refine wpList_make_full _ rfl _ _ _ rfl wr.heap.size 164 i1 (.slice none 0 0) 1 Tryz.underlying66 ri rz0 rz1 .i64 .i64 _ _ 0 rfl rfl rfl rfl (by rw [rz2]; omega) (by unfold maxLen; omega) (Nat.le_refl _) ?_; intro w1 hown1 hgrow1)
    have hb := (Below.refl wr.heap.size wr).grown hgrow1 (Nat.le_refl _) (fun j e => by cases e)
    have Hb := Lib.hid hb
    clear hb hown1 hgrow1
    go_loopg [6] 0 (fun g i wx => g = 0 ∧ i = .int .i64 0 ∧ wx = w1)
    case atStart => exact ⟨rfl, rfl, rfl⟩
    case round =>
      obtain ⟨_, rfl, rfl⟩ := hrel
      go_wp2_with fail
      go_loopg [9] 0 (fun g i wx => g = 0 ∧ i = .int .i64 0 ∧ wx = wr)
      case atStart => exact ⟨rfl, rfl, rfl⟩
      case round =>
        obtain ⟨_, rfl, rfl⟩ := hrel
        go_wp2_with fail
        go_loopg [11] 0 (fun g i wx => g = 0 ∧ i = .int .i64 0 ∧ wx = wr)
        case atStart => exact ⟨rfl, rfl, rfl⟩
        case round =>
          obtain ⟨_, rfl, rfl⟩ := hrel
          go_wp2_with fail
          go_loopg [14] 0 (fun g i wx => g = 0 ∧ i = .int .i64 0 ∧ wx = wr)
          case atStart => exact ⟨rfl, rfl, rfl⟩
          case round =>
            obtain ⟨_, rfl, rfl⟩ := hrel
            go_wp2_with fail
            go_ret
            exact ⟨rfl, Hb.out⟩
theorem infoTexts : (Tryz.prog.info? 165).map (fun i => (i.zero, i.size, i.bytes)) = some (some (.slice none 0 0), 1, 24) := by kernel_rfl
set_option maxRecDepth 100000 in
set_option maxHeartbeats 1000000 in
theorem flatTexts_none (w : World) : Calls Tryz.prog 72 #[.slice none 0 0] w fun e w' => e = .returned (.bool true) ∧ Below w.heap.size w w' := by
  obtain ⟨i1, ri, rz0, rz1, rz2⟩ := info_parts infoTexts
  go_enter Tryz.func72, Tryz.ntmps72
  go_wp2_with fail
  go_loopg [3] 0 (fun g i wx => g = 0 ∧ i = .int .i64 0 ∧ wx = w)
  case atStart => exact ⟨rfl, rfl, rfl⟩
  case round =>
    obtain ⟨_, rfl, rfl⟩ := hrel
    go_wp2_with (at_make; refine wpList_make_full _ rfl _ _ _ rfl wr.heap.size 165 i1 (.slice none 0 0) 1 Tryz.underlying67 ri rz0 rz1 .i64 .i64 _ _ 0 rfl rfl rfl rfl (by rw [rz2]; omega) (by unfold maxLen; omega) (Nat.le_refl _) ?_; intro w1 hown1 hgrow1)
    have hb := (Below.refl wr.heap.size wr).grown hgrow1 (Nat.le_refl _) (fun j e => by cases e)
    have Hb := Lib.hid hb
    clear hb hown1 hgrow1
    go_loopg [6] 0 (fun g i wx => g = 0 ∧ i = .int .i64 0 ∧ wx = w1)
    case atStart => exact ⟨rfl, rfl, rfl⟩
    case round =>
      obtain ⟨_, rfl, rfl⟩ := hrel
      go_wp2_with fail
      go_loopg [9] 0 (fun g i wx => g = 0 ∧ i = .int .i64 0 ∧ wx = wr)
      case atStart => exact ⟨rfl, rfl, rfl⟩
      case round =>
        obtain ⟨_, rfl, rfl⟩ := hrel
        go_wp2_with fail
        go_loopg [11] 0 (fun g i wx => g = 0 ∧ i = .int .i64 0 ∧ wx = wr)
        case atStart => exact ⟨rfl, rfl, rfl⟩
        case round =>
          obtain ⟨_, rfl, rfl⟩ := hrel
          go_wp2_with fail
          go_loopg [14] 0 (fun g i wx => g = 0 ∧ i = .int .i64 0 ∧ wx = wr)
          case atStart => exact ⟨rfl, rfl, rfl⟩
          case round =>
            obtain ⟨_, rfl, rfl⟩ := hrel
            go_wp2_with fail
            go_ret
            exact ⟨rfl, Hb.out⟩
theorem infoTruths : (Tryz.prog.info? 167).map (fun i => (i.zero, i.size, i.bytes)) = some (some (.slice none 0 0), 1, 24) := by kernel_rfl
set_option maxRecDepth 100000 in
set_option maxHeartbeats 1000000 in
theorem flatTruths_none (w : World) : Calls Tryz.prog 74 #[.slice none 0 0] w fun e w' => e = .returned (.bool true) ∧ Below w.heap.size w w' := by
  obtain ⟨i1, ri, rz0, rz1, rz2⟩ := info_parts infoTruths
  go_enter Tryz.func74, Tryz.ntmps74
  go_wp2_with fail
  go_loopg [3] 0 (fun g i wx => g = 0 ∧ i = .int .i64 0 ∧ wx = w)
  case atStart => exact ⟨rfl, rfl, rfl⟩
  case round =>
    obtain ⟨_, rfl, rfl⟩ := hrel
    go_wp2_with (at_make; refine wpList_make_full _ rfl _ _ _ rfl wr.heap.size 167 i1 (.slice none 0 0) 1 Tryz.underlying68 ri rz0 rz1 .i64 .i64 _ _ 0 rfl rfl rfl rfl (by rw [rz2]; omega) (by unfold maxLen; omega) (Nat.le_refl _) ?_; intro w1 hown1 hgrow1)
    have hb := (Below.refl wr.heap.size wr).grown hgrow1 (Nat.le_refl _) (fun j e => by cases e)
    have Hb := Lib.hid hb
    clear hb hown1 hgrow1
    go_loopg [6] 0 (fun g i wx => g = 0 ∧ i = .int .i64 0 ∧ wx = w1)
    case atStart => exact ⟨rfl, rfl, rfl⟩
    case round =>
      obtain ⟨_, rfl, rfl⟩ := hrel
      go_wp2_with fail
      go_loopg [9] 0 (fun g i wx => g = 0 ∧ i = .int .i64 0 ∧ wx = wr)
      case atStart => exact ⟨rfl, rfl, rfl⟩
      case round =>
        obtain ⟨_, rfl, rfl⟩ := hrel
        go_wp2_with fail
        go_loopg [11] 0 (fun g i wx => g = 0 ∧ i = .int .i64 0 ∧ wx = wr)
        case atStart => exact ⟨rfl, rfl, rfl⟩
        case round =>
          obtain ⟨_, rfl, rfl⟩ := hrel
          go_wp2_with fail
          go_loopg [14] 0 (fun g i wx => g = 0 ∧ i = .int .i64 0 ∧ wx = wr)
          case atStart => exact ⟨rfl, rfl, rfl⟩
          case round =>
            obtain ⟨_, rfl, rfl⟩ := hrel
            go_wp2_with fail
            go_ret
            exact ⟨rfl, Hb.out⟩
theorem infoUnits : (Tryz.prog.info? 168).map (fun i => (i.zero, i.size, i.bytes)) = some (some (.slice none 0 0), 1, 24) := by kernel_rfl
set_option maxRecDepth 100000 in
set_option maxHeartbeats 1000000 in
theorem flatUnits_none (w : World) : Calls Tryz.prog 75 #[.slice none 0 0] w fun e w' => e = .returned (.bool true) ∧ Below w.heap.size w w' := by
  obtain ⟨i1, ri, rz0, rz1, rz2⟩ := info_parts infoUnits
  go_enter Tryz.func75, Tryz.ntmps75
  go_wp2_with fail
  go_loopg [3] 0 (fun g i wx => g = 0 ∧ i = .int .i64 0 ∧ wx = w)
  case atStart => exact ⟨rfl, rfl, rfl⟩
  case round =>
    obtain ⟨_, rfl, rfl⟩ := hrel
    go_wp2_with (at_make; refine wpList_make_full _ rfl _ _ _ rfl wr.heap.size 168 i1 (.slice none 0 0) 1 Tryz.underlying69 ri rz0 rz1 .i64 .i64 _ _ 0 rfl rfl rfl rfl (by rw [rz2]; omega) (by unfold maxLen; omega) (Nat.le_refl _) ?_; intro w1 hown1 hgrow1)
    have hb := (Below.refl wr.heap.size wr).grown hgrow1 (Nat.le_refl _) (fun j e => by cases e)
    have Hb := Lib.hid hb
    clear hb hown1 hgrow1
    go_loopg [6] 0 (fun g i wx => g = 0 ∧ i = .int .i64 0 ∧ wx = w1)
    case atStart => exact ⟨rfl, rfl, rfl⟩
    case round =>
      obtain ⟨_, rfl, rfl⟩ := hrel
      go_wp2_with fail
      go_loopg [9] 0 (fun g i wx => g = 0 ∧ i = .int .i64 0 ∧ wx = wr)
      case atStart => exact ⟨rfl, rfl, rfl⟩
      case round =>
        obtain ⟨_, rfl, rfl⟩ := hrel
        go_wp2_with fail
        go_loopg [11] 0 (fun g i wx => g = 0 ∧ i = .int .i64 0 ∧ wx = wr)
        case atStart => exact ⟨rfl, rfl, rfl⟩
        case round =>
          obtain ⟨_, rfl, rfl⟩ := hrel
          go_wp2_with fail
          go_loopg [14] 0 (fun g i wx => g = 0 ∧ i = .int .i64 0 ∧ wx = wr)
          case atStart => exact ⟨rfl, rfl, rfl⟩
          case round =>
            obtain ⟨_, rfl, rfl⟩ := hrel
            go_wp2_with fail
            go_ret
            exact ⟨rfl, Hb.out⟩
theorem infoEntries : (Tryz.prog.info? 170).map (fun i => (i.zero, i.size, i.bytes)) = some (some (.slice none 0 0), 1, 24) := by kernel_rfl
set_option maxRecDepth 100000 in
set_option maxHeartbeats 1000000 in
theorem flatEntries_none (w : World) : Calls Tryz.prog 76 #[.slice none 0 0] w fun e w' => e = .returned (.bool true) ∧ Below w.heap.size w w' := by
  obtain ⟨i1, ri, rz0, rz1, rz2⟩ := info_parts infoEntries
  go_enter Tryz.func76, Tryz.ntmps76
  go_wp2_with fail
  go_loopg [3] 0 (fun g i wx => g = 0 ∧ i = .int .i64 0 ∧ wx = w)
  case atStart => exact ⟨rfl, rfl, rfl⟩
  case round =>
    obtain ⟨_, rfl, rfl⟩ := hrel
    go_wp2_with (at_make; refine wpList_make_full _ rfl _ _ _ rfl wr.heap.size 170 i1 (.slice none 0 0) 1 Tryz.underlying70 ri rz0 rz1 .i64 .i64 _ _ 0 rfl rfl rfl rfl (by rw [rz2]; omega) (by unfold maxLen; omega) (Nat.le_refl _) ?_; intro w1 hown1 hgrow1)
    have hb := (Below.refl wr.heap.size wr).grown hgrow1 (Nat.le_refl _) (fun j e => by cases e)
    have Hb := Lib.hid hb
    clear hb hown1 hgrow1
    go_loopg [6] 0 (fun g i wx => g = 0 ∧ i = .int .i64 0 ∧ wx = w1)
    case atStart => exact ⟨rfl, rfl, rfl⟩
    case round =>
      obtain ⟨_, rfl, rfl⟩ := hrel
      go_wp2_with fail
      go_loopg [9] 0 (fun g i wx => g = 0 ∧ i = .int .i64 0 ∧ wx = wr)
      case atStart => exact ⟨rfl, rfl, rfl⟩
      case round =>
        obtain ⟨_, rfl, rfl⟩ := hrel
        go_wp2_with fail
        go_loopg [11] 0 (fun g i wx => g = 0 ∧ i = .int .i64 0 ∧ wx = wr)
        case atStart => exact ⟨rfl, rfl, rfl⟩
        case round =>
          obtain ⟨_, rfl, rfl⟩ := hrel
          go_wp2_with fail
          go_loopg [14] 0 (fun g i wx => g = 0 ∧ i = .int .i64 0 ∧ wx = wr)
          case atStart => exact ⟨rfl, rfl, rfl⟩
          case round =>
            obtain ⟨_, rfl, rfl⟩ := hrel
            go_wp2_with fail
            go_ret
            exact ⟨rfl, Hb.out⟩
theorem infoIdents : (Tryz.prog.info? 176).map (fun i => (i.zero, i.size, i.bytes)) = some (some (.slice none 0 0), 1, 24) := by kernel_rfl
set_option maxRecDepth 100000 in
set_option maxHeartbeats 1000000 in
theorem flatIdents_none (w : World) : Calls Tryz.prog 77 #[.slice none 0 0] w fun e w' => e = .returned (.bool true) ∧ Below w.heap.size w w' := by
  obtain ⟨i1, ri, rz0, rz1, rz2⟩ := info_parts infoIdents
  go_enter Tryz.func77, Tryz.ntmps77
  go_wp2_with fail
  go_loopg [3] 0 (fun g i wx => g = 0 ∧ i = .int .i64 0 ∧ wx = w)
  case atStart => exact ⟨rfl, rfl, rfl⟩
  case round =>
    obtain ⟨_, rfl, rfl⟩ := hrel
    go_wp2_with (at_make; refine wpList_make_full _ rfl _ _ _ rfl wr.heap.size 176 i1 (.slice none 0 0) 1 Tryz.underlying71 ri rz0 rz1 .i64 .i64 _ _ 0 rfl rfl rfl rfl (by rw [rz2]; omega) (by unfold maxLen; omega) (Nat.le_refl _) ?_; intro w1 hown1 hgrow1)
    have hb := (Below.refl wr.heap.size wr).grown hgrow1 (Nat.le_refl _) (fun j e => by cases e)
    have Hb := Lib.hid hb
    clear hb hown1 hgrow1
    go_loopg [6] 0 (fun g i wx => g = 0 ∧ i = .int .i64 0 ∧ wx = w1)
    case atStart => exact ⟨rfl, rfl, rfl⟩
    case round =>
      obtain ⟨_, rfl, rfl⟩ := hrel
      go_wp2_with fail
      go_loopg [9] 0 (fun g i wx => g = 0 ∧ i = .int .i64 0 ∧ wx = wr)
      case atStart => exact ⟨rfl, rfl, rfl⟩
      case round =>
        obtain ⟨_, rfl, rfl⟩ := hrel
        go_wp2_with fail
        go_loopg [11] 0 (fun g i wx => g = 0 ∧ i = .int .i64 0 ∧ wx = wr)
        case atStart => exact ⟨rfl, rfl, rfl⟩
        case round =>
          obtain ⟨_, rfl, rfl⟩ := hrel
          go_wp2_with fail
          go_loopg [14] 0 (fun g i wx => g = 0 ∧ i = .int .i64 0 ∧ wx = wr)
          case atStart => exact ⟨rfl, rfl, rfl⟩
          case round =>
            obtain ⟨_, rfl, rfl⟩ := hrel
            go_wp2_with fail
            go_ret
            exact ⟨rfl, Hb.out⟩
theorem infoMetas : (Tryz.prog.info? 180).map (fun i => (i.zero, i.size, i.bytes)) = some (some (.slice none 0 0), 1, 24) := by kernel_rfl
set_option maxRecDepth 100000 in
set_option maxHeartbeats 1000000 in
theorem flatMetas_none (w : World) : Calls Tryz.prog 78 #[.slice none 0 0] w fun e w' => e = .returned (.bool true) ∧ Below w.heap.size w w' := by
  obtain ⟨i1, ri, rz0, rz1, rz2⟩ := info_parts infoMetas
  go_enter Tryz.func78, Tryz.ntmps78
  go_wp2_with fail
  go_loopg [3] 0 (fun g i wx => g = 0 ∧ i = .int .i64 0 ∧ wx = w)
  case atStart => exact ⟨rfl, rfl, rfl⟩
  case round =>
    obtain ⟨_, rfl, rfl⟩ := hrel
    go_wp2_with (at_make; refine wpList_make_full _ rfl _ _ _ rfl wr.heap.size 180 i1 (.slice none 0 0) 1 Tryz.underlying72 ri rz0 rz1 .i64 .i64 _ _ 0 rfl rfl rfl rfl (by rw [rz2]; omega) (by unfold maxLen; omega) (Nat.le_refl _) ?_; intro w1 hown1 hgrow1)
    have hb := (Below.refl wr.heap.size wr).grown hgrow1 (Nat.le_refl _) (fun j e => by cases e)
    have Hb := Lib.hid hb
    clear hb hown1 hgrow1
    go_loopg [6] 0 (fun g i wx => g = 0 ∧ i = .int .i64 0 ∧ wx = w1)
    case atStart => exact ⟨rfl, rfl, rfl⟩
    case round =>
      obtain ⟨_, rfl, rfl⟩ := hrel
      go_wp2_with fail
      go_loopg [9] 0 (fun g i wx => g = 0 ∧ i = .int .i64 0 ∧ wx = wr)
      case atStart => exact ⟨rfl, rfl, rfl⟩
      case round =>
        obtain ⟨_, rfl, rfl⟩ := hrel
        go_wp2_with fail
        go_loopg [11] 0 (fun g i wx => g = 0 ∧ i = .int .i64 0 ∧ wx = wr)
        case atStart => exact ⟨rfl, rfl, rfl⟩
        case round =>
          obtain ⟨_, rfl, rfl⟩ := hrel
          go_wp2_with fail
          go_loopg [14] 0 (fun g i wx => g = 0 ∧ i = .int .i64 0 ∧ wx = wr)
          case atStart => exact ⟨rfl, rfl, rfl⟩
          case round =>
            obtain ⟨_, rfl, rfl⟩ := hrel
            go_wp2_with fail
            go_ret
            exact ⟨rfl, Hb.out⟩
theorem infoMarks : (Tryz.prog.info? 184).map (fun i => (i.zero, i.size, i.bytes)) = some (some (.slice none 0 0), 1, 24) := by kernel_rfl
set_option maxRecDepth 100000 in
set_option maxHeartbeats 1000000 in
theorem flatMarks_none (w : World) : Calls Tryz.prog 79 #[.slice none 0 0] w fun e w' => e = .returned (.bool true) ∧ Below w.heap.size w w' := by
  obtain ⟨i1, ri, rz0, rz1, rz2⟩ := info_parts infoMarks
  go_enter Tryz.func79, Tryz.ntmps79
  go_wp2_with fail
  go_loopg [3] 0 (fun g i wx => g = 0 ∧ i = .int .i64 0 ∧ wx = w)
  case atStart => exact ⟨rfl, rfl, rfl⟩
  case round =>
    obtain ⟨_, rfl, rfl⟩ := hrel
    go_wp2_with (at_make; refine wpList_make_full _ rfl _ _ _ rfl wr.heap.size 184 i1 (.slice none 0 0) 1 Tryz.underlying73 ri rz0 rz1 .i64 .i64 _ _ 0 rfl rfl rfl rfl (by rw [rz2]; omega) (by unfold maxLen; omega) (Nat.le_refl _) ?_; intro w1 hown1 hgrow1)
    have hb := (Below.refl wr.heap.size wr).grown hgrow1 (Nat.le_refl _) (fun j e => by cases e)
    have Hb := Lib.hid hb
    clear hb hown1 hgrow1
    go_loopg [6] 0 (fun g i wx => g = 0 ∧ i = .int .i64 0 ∧ wx = w1)
    case atStart => exact ⟨rfl, rfl, rfl⟩
    case round =>
      obtain ⟨_, rfl, rfl⟩ := hrel
      go_wp2_with fail
      go_loopg [9] 0 (fun g i wx => g = 0 ∧ i = .int .i64 0 ∧ wx = wr)
      case atStart => exact ⟨rfl, rfl, rfl⟩
      case round =>
        obtain ⟨_, rfl, rfl⟩ := hrel
        go_wp2_with fail
        go_loopg [11] 0 (fun g i wx => g = 0 ∧ i = .int .i64 0 ∧ wx = wr)
        case atStart => exact ⟨rfl, rfl, rfl⟩
        case round =>
          obtain ⟨_, rfl, rfl⟩ := hrel
          go_wp2_with fail
          go_loopg [14] 0 (fun g i wx => g = 0 ∧ i = .int .i64 0 ∧ wx = wr)
          case atStart => exact ⟨rfl, rfl, rfl⟩
          case round =>
            obtain ⟨_, rfl, rfl⟩ := hrel
            go_wp2_with fail
            go_ret
            exact ⟨rfl, Hb.out⟩
theorem infoSnaps : (Tryz.prog.info? 188).map (fun i => (i.zero, i.size, i.bytes)) = some (some (.slice none 0 0), 1, 24) := by kernel_rfl
set_option maxRecDepth 100000 in
set_option maxHeartbeats 1000000 in
theorem flatSnaps_none (w : World) : Calls Tryz.prog 80 #[.slice none 0 0] w fun e w' => e = .returned (.bool true) ∧ Below w.heap.size w w' := by
  obtain ⟨i1, ri, rz0, rz1, rz2⟩ := info_parts infoSnaps
  go_enter Tryz.func80, Tryz.ntmps80
  go_wp2_with fail
  go_loopg [3] 0 (fun g i wx => g = 0 ∧ i = .int .i64 0 ∧ wx = w)
  case atStart => exact ⟨rfl, rfl, rfl⟩
  case round =>
    obtain ⟨_, rfl, rfl⟩ := hrel
    go_wp2_with (at_make; refine wpList_make_full _ rfl _ _ _ rfl wr.heap.size 188 i1 (.slice none 0 0) 1 Tryz.underlying74 ri rz0 rz1 .i64 .i64 _ _ 0 rfl rfl rfl rfl (by rw [rz2]; omega) (by unfold maxLen; omega) (Nat.le_refl _) ?_; intro w1 hown1 hgrow1)
    have hb := (Below.refl wr.heap.size wr).grown hgrow1 (Nat.le_refl _) (fun j e => by cases e)
    have Hb := Lib.hid hb
    clear hb hown1 hgrow1
    go_loopg [6] 0 (fun g i wx => g = 0 ∧ i = .int .i64 0 ∧ wx = w1)
    case atStart => exact ⟨rfl, rfl, rfl⟩
    case round =>
      obtain ⟨_, rfl, rfl⟩ := hrel
      go_wp2_with fail
      go_loopg [9] 0 (fun g i wx => g = 0 ∧ i = .int .i64 0 ∧ wx = wr)
      case atStart => exact ⟨rfl, rfl, rfl⟩
      case round =>
        obtain ⟨_, rfl, rfl⟩ := hrel
        go_wp2_with fail
        go_loopg [11] 0 (fun g i wx => g = 0 ∧ i = .int .i64 0 ∧ wx = wr)
        case atStart => exact ⟨rfl, rfl, rfl⟩
        case round =>
          obtain ⟨_, rfl, rfl⟩ := hrel
          go_wp2_with fail
          go_loopg [14] 0 (fun g i wx => g = 0 ∧ i = .int .i64 0 ∧ wx = wr)
          case atStart => exact ⟨rfl, rfl, rfl⟩
          case round =>
            obtain ⟨_, rfl, rfl⟩ := hrel
            go_wp2_with fail
            go_ret
            exact ⟨rfl, Hb.out⟩
theorem infoShapes : (Tryz.prog.info? 193).map (fun i => (i.zero, i.size, i.bytes)) = some (some (.slice none 0 0), 1, 24) := by kernel_rfl
set_option maxRecDepth 100000 in
set_option maxHeartbeats 1000000 in
theorem flatShapes_none (w : World) : Calls Tryz.prog 81 #[.slice none 0 0] w fun e w' => e = .returned (.bool true) ∧ Below w.heap.size w w' := by
  obtain ⟨i1, ri, rz0, rz1, rz2⟩ := info_parts infoShapes
  go_enter Tryz.func81, Tryz.ntmps81
  go_wp2_with fail
  go_loopg [3] 0 (fun g i wx => g = 0 ∧ i = .int .i64 0 ∧ wx = w)
  case atStart => exact ⟨rfl, rfl, rfl⟩
  case round =>
    obtain ⟨_, rfl, rfl⟩ := hrel
    go_wp2_with (at_make; refine wpList_make_full _ rfl _ _ _ rfl wr.heap.size 193 i1 (.slice none 0 0) 1 Tryz.underlying75 ri rz0 rz1 .i64 .i64 _ _ 0 rfl rfl rfl rfl (by rw [rz2]; omega) (by unfold maxLen; omega) (Nat.le_refl _) ?_; intro w1 hown1 hgrow1)
    have hb := (Below.refl wr.heap.size wr).grown hgrow1 (Nat.le_refl _) (fun j e => by cases e)
    have Hb := Lib.hid hb
    clear hb hown1 hgrow1
    go_loopg [6] 0 (fun g i wx => g = 0 ∧ i = .int .i64 0 ∧ wx = w1)
    case atStart => exact ⟨rfl, rfl, rfl⟩
    case round =>
      obtain ⟨_, rfl, rfl⟩ := hrel
      go_wp2_with fail
      go_loopg [9] 0 (fun g i wx => g = 0 ∧ i = .int .i64 0 ∧ wx = wr)
      case atStart => exact ⟨rfl, rfl, rfl⟩
      case round =>
        obtain ⟨_, rfl, rfl⟩ := hrel
        go_wp2_with fail
        go_loopg [11] 0 (fun g i wx => g = 0 ∧ i = .int .i64 0 ∧ wx = wr)
        case atStart => exact ⟨rfl, rfl, rfl⟩
        case round =>
          obtain ⟨_, rfl, rfl⟩ := hrel
          go_wp2_with fail
          go_loopg [14] 0 (fun g i wx => g = 0 ∧ i = .int .i64 0 ∧ wx = wr)
          case atStart => exact ⟨rfl, rfl, rfl⟩
          case round =>
            obtain ⟨_, rfl, rfl⟩ := hrel
            go_wp2_with fail
            go_ret
            exact ⟨rfl, Hb.out⟩
theorem infoLetters : (Tryz.prog.info? 197).map (fun i => (i.zero, i.size, i.bytes)) = some (some (.slice none 0 0), 1, 24) := by kernel_rfl
set_option maxRecDepth 100000 in
set_option maxHeartbeats 1000000 in
theorem flatLetters_none (w : World) : Calls Tryz.prog 82 #[.slice none 0 0] w fun e w' => e = .returned (.bool true) ∧ Below w.heap.size w w' := by
  obtain ⟨i1, ri, rz0, rz1, rz2⟩ := info_parts infoLetters
  go_enter Tryz.func82, Tryz.ntmps82
  go_wp2_with fail
  go_loopg [3] 0 (fun g i wx => g = 0 ∧ i = .int .i64 0 ∧ wx = w)
  case atStart => exact ⟨rfl, rfl, rfl⟩
  case round =>
    obtain ⟨_, rfl, rfl⟩ := hrel
    go_wp2_with (at_make; refine wpList_make_full _ rfl _ _ _ rfl wr.heap.size 197 i1 (.slice none 0 0) 1 Tryz.underlying76 ri rz0 rz1 .i64 .i64 _ _ 0 rfl rfl rfl rfl (by rw [rz2]; omega) (by unfold maxLen; omega) (Nat.le_refl _) ?_; intro w1 hown1 hgrow1)
    have hb := (Below.refl wr.heap.size wr).grown hgrow1 (Nat.le_refl _) (fun j e => by cases e)
    have Hb := Lib.hid hb
    clear hb hown1 hgrow1
    go_loopg [6] 0 (fun g i wx => g = 0 ∧ i = .int .i64 0 ∧ wx = w1)
    case atStart => exact ⟨rfl, rfl, rfl⟩
    case round =>
      obtain ⟨_, rfl, rfl⟩ := hrel
      go_wp2_with fail
      go_loopg [9] 0 (fun g i wx => g = 0 ∧ i = .int .i64 0 ∧ wx = wr)
      case atStart => exact ⟨rfl, rfl, rfl⟩
      case round =>
        obtain ⟨_, rfl, rfl⟩ := hrel
        go_wp2_with fail
        go_loopg [11] 0 (fun g i wx => g = 0 ∧ i = .int .i64 0 ∧ wx = wr)
        case atStart => exact ⟨rfl, rfl, rfl⟩
        case round =>
          obtain ⟨_, rfl, rfl⟩ := hrel
          go_wp2_with fail
          go_loopg [14] 0 (fun g i wx => g = 0 ∧ i = .int .i64 0 ∧ wx = wr)
          case atStart => exact ⟨rfl, rfl, rfl⟩
          case round =>
            obtain ⟨_, rfl, rfl⟩ := hrel
            go_wp2_with fail
            go_ret
            exact ⟨rfl, Hb.out⟩
end Go.Proofs.YtmmebaphhgggfaaGreatDoor
