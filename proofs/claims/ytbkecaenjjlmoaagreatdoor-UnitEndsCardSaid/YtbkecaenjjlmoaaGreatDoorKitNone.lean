/- Do lists of a kind of which there are none lie apart: they do. -/
import Derived.Test.YtbkecaenjjlmoaaGreatDoorKitRowsAt
namespace Go.Proofs.YtbkecaenjjlmoaaGreatDoor
open Go.RowKit
theorem infoLimbs : (Tryz.prog.info? 134).map (fun i => (i.zero, i.size, i.bytes)) = some (some (.slice none 0 0), 1, 24) := by kernel_rfl
set_option maxRecDepth 100000 in
set_option maxHeartbeats 1000000 in
theorem flatLimbs_none (w : World) : Calls Tryz.prog 43 #[.slice none 0 0] w fun e w' => e = .returned (.bool true) ∧ Below w.heap.size w w' := by
  obtain ⟨i1, ri, rz0, rz1, rz2⟩ := info_parts infoLimbs
  go_enter Tryz.func43, Tryz.ntmps43
  go_wp2_with fail
  go_loopg [3] 0 (fun g i wx => g = 0 ∧ i = .int .i64 0 ∧ wx = w)
  case atStart => exact ⟨rfl, rfl, rfl⟩
  case round =>
    obtain ⟨_, rfl, rfl⟩ := hrel
    go_wp2_with (at_make; refine wpList_make_full _ rfl _ _ _ rfl wr.heap.size 134 i1 (.slice none 0 0) 1 Tryz.underlying55 ri rz0 rz1 .i64 .i64 _ _ 0 rfl rfl rfl rfl (by rw [rz2]; omega) (by unfold maxLen; omega) (Nat.le_refl _) ?_; intro w1 hown1 hgrow1)
    have hb := (Below.refl wr.heap.size wr).grown hgrow1 (Nat.le_refl _) (fun j e => by cases e)
    have Hb := Lib.hid hb
    clear hb hown1 hgrow1
    go_loopg [6] 0 (fun g i wx => g = 0 ∧ i = .int .i64 0 ∧ wx = w1)
    case atStart => exact ⟨rfl, rfl, rfl⟩
    case round =>
      obtain ⟨_, rfl, rfl⟩ := hrel
      go_wp2_with fail
      go_loopg [9] 0 (fun g i wx => g = 0 ∧ i = .int .i64 0 ∧ wx = wr)
      case atStart => exact ⟨rfl, rfl, rfl⟩
      case round =>
        obtain ⟨_, rfl, rfl⟩ := hrel
        go_wp2_with fail
        go_loopg [11] 0 (fun g i wx => g = 0 ∧ i = .int .i64 0 ∧ wx = wr)
        case atStart => exact ⟨rfl, rfl, rfl⟩
        case round =>
          obtain ⟨_, rfl, rfl⟩ := hrel
          go_wp2_with fail
          go_loopg [14] 0 (fun g i wx => g = 0 ∧ i = .int .i64 0 ∧ wx = wr)
          case atStart => exact ⟨rfl, rfl, rfl⟩
          case round =>
            obtain ⟨_, rfl, rfl⟩ := hrel
            go_wp2_with fail
            go_ret
            exact ⟨rfl, Hb.out⟩
theorem infoWords : (Tryz.prog.info? 135).map (fun i => (i.zero, i.size, i.bytes)) = some (some (.slice none 0 0), 1, 24) := by kernel_rfl
set_option maxRecDepth 100000 in
set_option maxHeartbeats 1000000 in
theorem flatWords_none (w : World) : Calls Tryz.prog 44 #[.slice none 0 0] w fun e w' => e = .returned (.bool true) ∧ Below w.heap.size w w' := by
  obtain ⟨i1, ri, rz0, rz1, rz2⟩ := info_parts infoWords
  go_enter Tryz.func44, Tryz.ntmps44
  go_wp2_with fail
  go_loopg [3] 0 (fun g i wx => g = 0 ∧ i = .int .i64 0 ∧ wx = w)
  case atStart => exact ⟨rfl, rfl, rfl⟩
  case round =>
    obtain ⟨_, rfl, rfl⟩ := hrel
    go_wp2_with (at_make; refine wpList_make_full _ rfl _ _ _ rfl wr.heap.size 135 i1 (.slice none 0 0) 1 Tryz.underlying56 ri rz0 rz1 .i64 .i64 _ _ 0 rfl rfl rfl rfl (by rw [rz2]; omega) (by unfold maxLen; omega) (Nat.le_refl _) ?_; intro w1 hown1 hgrow1)
    have hb := (Below.refl wr.heap.size wr).grown hgrow1 (Nat.le_refl _) (fun j e => by cases e)
    have Hb := Lib.hid hb
    clear hb hown1 hgrow1
    go_loopg [6] 0 (fun g i wx => g = 0 ∧ i = .int .i64 0 ∧ wx = w1)
    case atStart => exact ⟨rfl, rfl, rfl⟩
    case round =>
      obtain ⟨_, rfl, rfl⟩ := hrel
      go_wp2_with fail
      go_loopg [9] 0 (fun g i wx => g = 0 ∧ i = .int .i64 0 ∧ wx = wr)
      case atStart => exact ⟨rfl, rfl, rfl⟩
      case round =>
        obtain ⟨_, rfl, rfl⟩ := hrel
        go_wp2_with fail
        go_loopg [11] 0 (fun g i wx => g = 0 ∧ i = .int .i64 0 ∧ wx = wr)
        case atStart => exact ⟨rfl, rfl, rfl⟩
        case round =>
          obtain ⟨_, rfl, rfl⟩ := hrel
          go_wp2_with fail
          go_loopg [14] 0 (fun g i wx => g = 0 ∧ i = .int .i64 0 ∧ wx = wr)
          case atStart => exact ⟨rfl, rfl, rfl⟩
          case round =>
            obtain ⟨_, rfl, rfl⟩ := hrel
            go_wp2_with fail
            go_ret
            exact ⟨rfl, Hb.out⟩
theorem infoInts : (Tryz.prog.info? 38).map (fun i => (i.zero, i.size, i.bytes)) = some (some (.slice none 0 0), 1, 24) := by kernel_rfl
set_option maxRecDepth 100000 in
set_option maxHeartbeats 1000000 in
theorem flatInts_none (w : World) : Calls Tryz.prog 45 #[.slice none 0 0] w fun e w' => e = .returned (.bool true) ∧ Below w.heap.size w w' := by
  obtain ⟨i1, ri, rz0, rz1, rz2⟩ := info_parts infoInts
  go_enter Tryz.func45, Tryz.ntmps45
  go_wp2_with fail
  go_loopg [3] 0 (fun g i wx => g = 0 ∧ i = .int .i64 0 ∧ wx = w)
  case atStart => exact ⟨rfl, rfl, rfl⟩
  case round =>
    obtain ⟨_, rfl, rfl⟩ := hrel
    go_wp2_with (at_make; refine wpList_make_full _ rfl _ _ _ rfl wr.heap.size 38 i1 (.slice none 0 0) 1 Tryz.underlying57 ri rz0 rz1 .i64 .i64 _ _ 0 rfl rfl rfl rfl (by rw [rz2]; omega) (by unfold maxLen; omega) (Nat.le_refl _) ?_; intro w1 hown1 hgrow1)
    have hb := (Below.refl wr.heap.size wr).grown hgrow1 (Nat.le_refl _) (fun j e => by cases e)
    have Hb := Lib.hid hb
    clear hb hown1 hgrow1
    go_loopg [6] 0 (fun g i wx => g = 0 ∧ i = .int .i64 0 ∧ wx = w1)
    case atStart => exact ⟨rfl, rfl, rfl⟩
    case round =>
      obtain ⟨_, rfl, rfl⟩ := hrel
      go_wp2_with fail
      go_loopg [9] 0 (fun g i wx => g = 0 ∧ i = .int .i64 0 ∧ wx = wr)
      case atStart => exact ⟨rfl, rfl, rfl⟩
      case round =>
        obtain ⟨_, rfl, rfl⟩ := hrel
        go_wp2_with fail
        go_loopg [11] 0 (fun g i wx => g = 0 ∧ i = .int .i64 0 ∧ wx = wr)
        case atStart => exact ⟨rfl, rfl, rfl⟩
        case round =>
          obtain ⟨_, rfl, rfl⟩ := hrel
          go_wp2_with fail
          go_loopg [14] 0 (fun g i wx => g = 0 ∧ i = .int .i64 0 ∧ wx = wr)
          case atStart => exact ⟨rfl, rfl, rfl⟩
          case round =>
            obtain ⟨_, rfl, rfl⟩ := hrel
            go_wp2_with fail
            go_ret
            exact ⟨rfl, Hb.out⟩
theorem infoLongs : (Tryz.prog.info? 136).map (fun i => (i.zero, i.size, i.bytes)) = some (some (.slice none 0 0), 1, 24) := by kernel_rfl
set_option maxRecDepth 100000 in
set_option maxHeartbeats 1000000 in
theorem flatLongs_none (w : World) : Calls Tryz.prog 46 #[.slice none 0 0] w fun e w' => e = .returned (.bool true) ∧ Below w.heap.size w w' := by
  obtain ⟨i1, ri, rz0, rz1, rz2⟩ := info_parts infoLongs
  go_enter Tryz.func46, Tryz.ntmps46
  go_wp2_with fail
  go_loopg [3] 0 (fun g i wx => g = 0 ∧ i = .int .i64 0 ∧ wx = w)
  case atStart => exact ⟨rfl, rfl, rfl⟩
  case round =>
    obtain ⟨_, rfl, rfl⟩ := hrel
    go_wp2_with (at_make; refine wpList_make_full _ rfl _ _ _ rfl wr.heap.size 136 i1 (.slice none 0 0) 1 Tryz.underlying58 ri rz0 rz1 .i64 .i64 _ _ 0 rfl rfl rfl rfl (by rw [rz2]; omega) (by unfold maxLen; omega) (Nat.le_refl _) ?_; intro w1 hown1 hgrow1)
    have hb := (Below.refl wr.heap.size wr).grown hgrow1 (Nat.le_refl _) (fun j e => by cases e)
    have Hb := Lib.hid hb
    clear hb hown1 hgrow1
    go_loopg [6] 0 (fun g i wx => g = 0 ∧ i = .int .i64 0 ∧ wx = w1)
    case atStart => exact ⟨rfl, rfl, rfl⟩
    case round =>
      obtain ⟨_, rfl, rfl⟩ := hrel
      go_wp2_with fail
      go_loopg [9] 0 (fun g i wx => g = 0 ∧ i = .int .i64 0 ∧ wx = wr)
      case atStart => exact ⟨rfl, rfl, rfl⟩
      case round =>
        obtain ⟨_, rfl, rfl⟩ := hrel
        go_wp2_with fail
        go_loopg [11] 0 (fun g i wx => g = 0 ∧ i = .int .i64 0 ∧ wx = wr)
        case atStart => exact ⟨rfl, rfl, rfl⟩
        case round =>
          obtain ⟨_, rfl, rfl⟩ := hrel
          go_wp2_with fail
          go_loopg [14] 0 (fun g i wx => g = 0 ∧ i = .int .i64 0 ∧ wx = wr)
          case atStart => exact ⟨rfl, rfl, rfl⟩
          case round =>
            obtain ⟨_, rfl, rfl⟩ := hrel
            go_wp2_with fail
            go_ret
            exact ⟨rfl, Hb.out⟩
theorem infoTexts : (Tryz.prog.info? 137).map (fun i => (i.zero, i.size, i.bytes)) = some (some (.slice none 0 0), 1, 24) := by kernel_rfl
set_option maxRecDepth 100000 in
set_option maxHeartbeats 1000000 in
theorem flatTexts_none (w : World) : Calls Tryz.prog 47 #[.slice none 0 0] w fun e w' => e = .returned (.bool true) ∧ Below w.heap.size w w' := by
  obtain ⟨i1, ri, rz0, rz1, rz2⟩ := info_parts infoTexts
  go_enter Tryz.func47, Tryz.ntmps47
  go_wp2_with fail
  go_loopg [3] 0 (fun g i wx => g = 0 ∧ i = .int .i64 0 ∧ wx = w)
  case atStart => exact ⟨rfl, rfl, rfl⟩
  case round =>
    obtain ⟨_, rfl, rfl⟩ := hrel
    go_wp2_with (at_make; refine wpList_make_full _ rfl _ _ _ rfl wr.heap.size 137 i1 (.slice none 0 0) 1 Tryz.underlying59 ri rz0 rz1 .i64 .i64 _ _ 0 rfl rfl rfl rfl (by rw [rz2]; omega) (by unfold maxLen; omega) (Nat.le_refl _) ?_; intro w1 hown1 hgrow1)
    have hb := (Below.refl wr.heap.size wr).grown hgrow1 (Nat.le_refl _) (fun j e => by cases e)
    have Hb := Lib.hid hb
    clear hb hown1 hgrow1
    go_loopg [6] 0 (fun g i wx => g = 0 ∧ i = .int .i64 0 ∧ wx = w1)
    case atStart => exact ⟨rfl, rfl, rfl⟩
    case round =>
      obtain ⟨_, rfl, rfl⟩ := hrel
      go_wp2_with fail
      go_loopg [9] 0 (fun g i wx => g = 0 ∧ i = .int .i64 0 ∧ wx = wr)
      case atStart => exact ⟨rfl, rfl, rfl⟩
      case round =>
        obtain ⟨_, rfl, rfl⟩ := hrel
        go_wp2_with fail
        go_loopg [11] 0 (fun g i wx => g = 0 ∧ i = .int .i64 0 ∧ wx = wr)
        case atStart => exact ⟨rfl, rfl, rfl⟩
        case round =>
          obtain ⟨_, rfl, rfl⟩ := hrel
          go_wp2_with fail
          go_loopg [14] 0 (fun g i wx => g = 0 ∧ i = .int .i64 0 ∧ wx = wr)
          case atStart => exact ⟨rfl, rfl, rfl⟩
          case round =>
            obtain ⟨_, rfl, rfl⟩ := hrel
            go_wp2_with fail
            go_ret
            exact ⟨rfl, Hb.out⟩
theorem infoTruths : (Tryz.prog.info? 139).map (fun i => (i.zero, i.size, i.bytes)) = some (some (.slice none 0 0), 1, 24) := by kernel_rfl
set_option maxRecDepth 100000 in
set_option maxHeartbeats 1000000 in
theorem flatTruths_none (w : World) : Calls Tryz.prog 49 #[.slice none 0 0] w fun e w' => e = .returned (.bool true) ∧ Below w.heap.size w w' := by
  obtain ⟨i1, ri, rz0, rz1, rz2⟩ := info_parts infoTruths
  go_enter Tryz.func49, Tryz.ntmps49
  go_wp2_with fail
  go_loopg [3] 0 (fun g i wx => g = 0 ∧ i = .int .i64 0 ∧ wx = w)
  case atStart => exact ⟨rfl, rfl, rfl⟩
  case round =>
    obtain ⟨_, rfl, rfl⟩ := hrel
    go_wp2_with (at_make; refine wpList_make_full _ rfl _ _ _ rfl wr.heap.size 139 i1 (.slice none 0 0) 1 Tryz.underlying60 ri rz0 rz1 .i64 .i64 _ _ 0 rfl rfl rfl rfl (by rw [rz2]; omega) (by unfold maxLen; omega) (Nat.le_refl _) ?_; intro w1 hown1 hgrow1)
    have hb := (Below.refl wr.heap.size wr).grown hgrow1 (Nat.le_refl _) (fun j e => by cases e)
    have Hb := Lib.hid hb
    clear hb hown1 hgrow1
    go_loopg [6] 0 (fun g i wx => g = 0 ∧ i = .int .i64 0 ∧ wx = w1)
    case atStart => exact ⟨rfl, rfl, rfl⟩
    case round =>
      obtain ⟨_, rfl, rfl⟩ := hrel
      go_wp2_with fail
      go_loopg [9] 0 (fun g i wx => g = 0 ∧ i = .int .i64 0 ∧ wx = wr)
      case atStart => exact ⟨rfl, rfl, rfl⟩
      case round =>
        obtain ⟨_, rfl, rfl⟩ := hrel
        go_wp2_with fail
        go_loopg [11] 0 (fun g i wx => g = 0 ∧ i = .int .i64 0 ∧ wx = wr)
        case atStart => exact ⟨rfl, rfl, rfl⟩
        case round =>
          obtain ⟨_, rfl, rfl⟩ := hrel
          go_wp2_with fail
          go_loopg [14] 0 (fun g i wx => g = 0 ∧ i = .int .i64 0 ∧ wx = wr)
          case atStart => exact ⟨rfl, rfl, rfl⟩
          case round =>
            obtain ⟨_, rfl, rfl⟩ := hrel
            go_wp2_with fail
            go_ret
            exact ⟨rfl, Hb.out⟩
theorem infoUnits : (Tryz.prog.info? 140).map (fun i => (i.zero, i.size, i.bytes)) = some (some (.slice none 0 0), 1, 24) := by kernel_rfl
set_option maxRecDepth 100000 in
set_option maxHeartbeats 1000000 in
theorem flatUnits_none (w : World) : Calls Tryz.prog 50 #[.slice none 0 0] w fun e w' => e = .returned (.bool true) ∧ Below w.heap.size w w' := by
  obtain ⟨i1, ri, rz0, rz1, rz2⟩ := info_parts infoUnits
  go_enter Tryz.func50, Tryz.ntmps50
  go_wp2_with fail
  go_loopg [3] 0 (fun g i wx => g = 0 ∧ i = .int .i64 0 ∧ wx = w)
  case atStart => exact ⟨rfl, rfl, rfl⟩
  case round =>
    obtain ⟨_, rfl, rfl⟩ := hrel
    go_wp2_with (at_make; refine wpList_make_full _ rfl _ _ _ rfl wr.heap.size 140 i1 (.slice none 0 0) 1 Tryz.underlying61 ri rz0 rz1 .i64 .i64 _ _ 0 rfl rfl rfl rfl (by rw [rz2]; omega) (by unfold maxLen; omega) (Nat.le_refl _) ?_; intro w1 hown1 hgrow1)
    have hb := (Below.refl wr.heap.size wr).grown hgrow1 (Nat.le_refl _) (fun j e => by cases e)
    have Hb := Lib.hid hb
    clear hb hown1 hgrow1
    go_loopg [6] 0 (fun g i wx => g = 0 ∧ i = .int .i64 0 ∧ wx = w1)
    case atStart => exact ⟨rfl, rfl, rfl⟩
    case round =>
      obtain ⟨_, rfl, rfl⟩ := hrel
      go_wp2_with fail
      go_loopg [9] 0 (fun g i wx => g = 0 ∧ i = .int .i64 0 ∧ wx = wr)
      case atStart => exact ⟨rfl, rfl, rfl⟩
      case round =>
        obtain ⟨_, rfl, rfl⟩ := hrel
        go_wp2_with fail
        go_loopg [11] 0 (fun g i wx => g = 0 ∧ i = .int .i64 0 ∧ wx = wr)
        case atStart => exact ⟨rfl, rfl, rfl⟩
        case round =>
          obtain ⟨_, rfl, rfl⟩ := hrel
          go_wp2_with fail
          go_loopg [14] 0 (fun g i wx => g = 0 ∧ i = .int .i64 0 ∧ wx = wr)
          case atStart => exact ⟨rfl, rfl, rfl⟩
          case round =>
            obtain ⟨_, rfl, rfl⟩ := hrel
            go_wp2_with fail
            go_ret
            exact ⟨rfl, Hb.out⟩
theorem infoEntries : (Tryz.prog.info? 142).map (fun i => (i.zero, i.size, i.bytes)) = some (some (.slice none 0 0), 1, 24) := by kernel_rfl
set_option maxRecDepth 100000 in
set_option maxHeartbeats 1000000 in
theorem flatEntries_none (w : World) : Calls Tryz.prog 51 #[.slice none 0 0] w fun e w' => e = .returned (.bool true) ∧ Below w.heap.size w w' := by
  obtain ⟨i1, ri, rz0, rz1, rz2⟩ := info_parts infoEntries
  go_enter Tryz.func51, Tryz.ntmps51
  go_wp2_with fail
  go_loopg [3] 0 (fun g i wx => g = 0 ∧ i = .int .i64 0 ∧ wx = w)
  case atStart => exact ⟨rfl, rfl, rfl⟩
  case round =>
    obtain ⟨_, rfl, rfl⟩ := hrel
    go_wp2_with (at_make; refine wpList_make_full _ rfl _ _ _ rfl wr.heap.size 142 i1 (.slice none 0 0) 1 Tryz.underlying62 ri rz0 rz1 .i64 .i64 _ _ 0 rfl rfl rfl rfl (by rw [rz2]; omega) (by unfold maxLen; omega) (Nat.le_refl _) ?_; intro w1 hown1 hgrow1)
    have hb := (Below.refl wr.heap.size wr).grown hgrow1 (Nat.le_refl _) (fun j e => by cases e)
    have Hb := Lib.hid hb
    clear hb hown1 hgrow1
    go_loopg [6] 0 (fun g i wx => g = 0 ∧ i = .int .i64 0 ∧ wx = w1)
    case atStart => exact ⟨rfl, rfl, rfl⟩
    case round =>
      obtain ⟨_, rfl, rfl⟩ := hrel
      go_wp2_with fail
      go_loopg [9] 0 (fun g i wx => g = 0 ∧ i = .int .i64 0 ∧ wx = wr)
      case atStart => exact ⟨rfl, rfl, rfl⟩
      case round =>
        obtain ⟨_, rfl, rfl⟩ := hrel
        go_wp2_with fail
        go_loopg [11] 0 (fun g i wx => g = 0 ∧ i = .int .i64 0 ∧ wx = wr)
        case atStart => exact ⟨rfl, rfl, rfl⟩
        case round =>
          obtain ⟨_, rfl, rfl⟩ := hrel
          go_wp2_with fail
          go_loopg [14] 0 (fun g i wx => g = 0 ∧ i = .int .i64 0 ∧ wx = wr)
          case atStart => exact ⟨rfl, rfl, rfl⟩
          case round =>
            obtain ⟨_, rfl, rfl⟩ := hrel
            go_wp2_with fail
            go_ret
            exact ⟨rfl, Hb.out⟩
theorem infoIdents : (Tryz.prog.info? 148).map (fun i => (i.zero, i.size, i.bytes)) = some (some (.slice none 0 0), 1, 24) := by kernel_rfl
set_option maxRecDepth 100000 in
set_option maxHeartbeats 1000000 in
theorem flatIdents_none (w : World) : Calls Tryz.prog 52 #[.slice none 0 0] w fun e w' => e = .returned (.bool true) ∧ Below w.heap.size w w' := by
  obtain ⟨i1, ri, rz0, rz1, rz2⟩ := info_parts infoIdents
  go_enter Tryz.func52, Tryz.ntmps52
  go_wp2_with fail
  go_loopg [3] 0 (fun g i wx => g = 0 ∧ i = .int .i64 0 ∧ wx = w)
  case atStart => exact ⟨rfl, rfl, rfl⟩
  case round =>
    obtain ⟨_, rfl, rfl⟩ := hrel
    go_wp2_with (at_make; refine wpList_make_full _ rfl _ _ _ rfl wr.heap.size 148 i1 (.slice none 0 0) 1 Tryz.underlying63 ri rz0 rz1 .i64 .i64 _ _ 0 rfl rfl rfl rfl (by rw [rz2]; omega) (by unfold maxLen; omega) (Nat.le_refl _) ?_; intro w1 hown1 hgrow1)
    have hb := (Below.refl wr.heap.size wr).grown hgrow1 (Nat.le_refl _) (fun j e => by cases e)
    have Hb := Lib.hid hb
    clear hb hown1 hgrow1
    go_loopg [6] 0 (fun g i wx => g = 0 ∧ i = .int .i64 0 ∧ wx = w1)
    case atStart => exact ⟨rfl, rfl, rfl⟩
    case round =>
      obtain ⟨_, rfl, rfl⟩ := hrel
      go_wp2_with fail
      go_loopg [9] 0 (fun g i wx => g = 0 ∧ i = .int .i64 0 ∧ wx = wr)
      case atStart => exact ⟨rfl, rfl, rfl⟩
      case round =>
        obtain ⟨_, rfl, rfl⟩ := hrel
        go_wp2_with fail
        go_loopg [11] 0 (fun g i wx => g = 0 ∧ i = .int .i64 0 ∧ wx = wr)
        case atStart => exact ⟨rfl, rfl, rfl⟩
        case round =>
          obtain ⟨_, rfl, rfl⟩ := hrel
          go_wp2_with fail
          go_loopg [14] 0 (fun g i wx => g = 0 ∧ i = .int .i64 0 ∧ wx = wr)
          case atStart => exact ⟨rfl, rfl, rfl⟩
          case round =>
            obtain ⟨_, rfl, rfl⟩ := hrel
            go_wp2_with fail
            go_ret
            exact ⟨rfl, Hb.out⟩
theorem infoMetas : (Tryz.prog.info? 152).map (fun i => (i.zero, i.size, i.bytes)) = some (some (.slice none 0 0), 1, 24) := by kernel_rfl
set_option maxRecDepth 100000 in
set_option maxHeartbeats 1000000 in
theorem flatMetas_none (w : World) : Calls Tryz.prog 53 #[.slice none 0 0] w fun e w' => e = .returned (.bool true) ∧ Below w.heap.size w w' := by
  obtain ⟨i1, ri, rz0, rz1, rz2⟩ := info_parts infoMetas
  go_enter Tryz.func53, Tryz.ntmps53
  go_wp2_with fail
  go_loopg [3] 0 (fun g i wx => g = 0 ∧ i = .int .i64 0 ∧ wx = w)
  case atStart => exact ⟨rfl, rfl, rfl⟩
  case round =>
    obtain ⟨_, rfl, rfl⟩ := hrel
    go_wp2_with (at_make; refine wpList_make_full _ rfl _ _ _ rfl wr.heap.size 152 i1 (.slice none 0 0) 1 Tryz.underlying64 ri rz0 rz1 .i64 .i64 _ _ 0 rfl rfl rfl rfl (by rw [rz2]; omega) (by unfold maxLen; omega) (Nat.le_refl _) ?_; intro w1 hown1 hgrow1)
    have hb := (Below.refl wr.heap.size wr).grown hgrow1 (Nat.le_refl _) (fun j e => by cases e)
    have Hb := Lib.hid hb
    clear hb hown1 hgrow1
    go_loopg [6] 0 (fun g i wx => g = 0 ∧ i = .int .i64 0 ∧ wx = w1)
    case atStart => exact ⟨rfl, rfl, rfl⟩
    case round =>
      obtain ⟨_, rfl, rfl⟩ := hrel
      go_wp2_with fail
      go_loopg [9] 0 (fun g i wx => g = 0 ∧ i = .int .i64 0 ∧ wx = wr)
      case atStart => exact ⟨rfl, rfl, rfl⟩
      case round =>
        obtain ⟨_, rfl, rfl⟩ := hrel
        go_wp2_with fail
        go_loopg [11] 0 (fun g i wx => g = 0 ∧ i = .int .i64 0 ∧ wx = wr)
        case atStart => exact ⟨rfl, rfl, rfl⟩
        case round =>
          obtain ⟨_, rfl, rfl⟩ := hrel
          go_wp2_with fail
          go_loopg [14] 0 (fun g i wx => g = 0 ∧ i = .int .i64 0 ∧ wx = wr)
          case atStart => exact ⟨rfl, rfl, rfl⟩
          case round =>
            obtain ⟨_, rfl, rfl⟩ := hrel
            go_wp2_with fail
            go_ret
            exact ⟨rfl, Hb.out⟩
theorem infoMarks : (Tryz.prog.info? 156).map (fun i => (i.zero, i.size, i.bytes)) = some (some (.slice none 0 0), 1, 24) := by kernel_rfl
set_option maxRecDepth 100000 in
set_option maxHeartbeats 1000000 in
theorem flatMarks_none (w : World) : Calls Tryz.prog 54 #[.slice none 0 0] w fun e w' => e = .returned (.bool true) ∧ Below w.heap.size w w' := by
  obtain ⟨i1, ri, rz0, rz1, rz2⟩ := info_parts infoMarks
  go_enter Tryz.func54, Tryz.ntmps54
  go_wp2_with fail
  go_loopg [3] 0 (fun g i wx => g = 0 ∧ i = .int .i64 0 ∧ wx = w)
  case atStart => exact ⟨rfl, rfl, rfl⟩
  case round =>
    obtain ⟨_, rfl, rfl⟩ := hrel
    go_wp2_with (at_make; refine wpList_make_full _ rfl _ _ _ rfl wr.heap.size 156 i1 (.slice none 0 0) 1 Tryz.underlying65 ri rz0 rz1 .i64 .i64 _ _ 0 rfl rfl rfl rfl (by rw [rz2]; omega) (by unfold maxLen; omega) (Nat.le_refl _) ?_; intro w1 hown1 hgrow1)
    have hb := (Below.refl wr.heap.size wr).grown hgrow1 (Nat.le_refl _) (fun j e => by cases e)
    have Hb := Lib.hid hb
    clear hb hown1 hgrow1
    go_loopg [6] 0 (fun g i wx => g = 0 ∧ i = .int .i64 0 ∧ wx = w1)
    case atStart => exact ⟨rfl, rfl, rfl⟩
    case round =>
      obtain ⟨_, rfl, rfl⟩ := hrel
      go_wp2_with fail
      go_loopg [9] 0 (fun g i wx => g = 0 ∧ i = .int .i64 0 ∧ wx = wr)
      case atStart => exact ⟨rfl, rfl, rfl⟩
      case round =>
        obtain ⟨_, rfl, rfl⟩ := hrel
        go_wp2_with fail
        go_loopg [11] 0 (fun g i wx => g = 0 ∧ i = .int .i64 0 ∧ wx = wr)
        case atStart => exact ⟨rfl, rfl, rfl⟩
        case round =>
          obtain ⟨_, rfl, rfl⟩ := hrel
          go_wp2_with fail
          go_loopg [14] 0 (fun g i wx => g = 0 ∧ i = .int .i64 0 ∧ wx = wr)
          case atStart => exact ⟨rfl, rfl, rfl⟩
          case round =>
            obtain ⟨_, rfl, rfl⟩ := hrel
            go_wp2_with fail
            go_ret
            exact ⟨rfl, Hb.out⟩
theorem infoSnaps : (Tryz.prog.info? 160).map (fun i => (i.zero, i.size, i.bytes)) = some (some (.slice none 0 0), 1, 24) := by kernel_rfl
set_option maxRecDepth 100000 in
set_option maxHeartbeats 1000000 in
theorem flatSnaps_none (w : World) : Calls Tryz.prog 55 #[.slice none 0 0] w fun e w' => e = .returned (.bool true) ∧ Below w.heap.size w w' := by
  obtain ⟨i1, ri, rz0, rz1, rz2⟩ := info_parts infoSnaps
  go_enter Tryz.func55, Tryz.ntmps55
  go_wp2_with fail
  go_loopg [3] 0 (fun g i wx => g = 0 ∧ i = .int .i64 0 ∧ wx = w)
  case atStart => exact ⟨rfl, rfl, rfl⟩
  case round =>
    obtain ⟨_, rfl, rfl⟩ := hrel
    go_wp2_with (at_make; refine wpList_make_full _ rfl _ _ _ rfl wr.heap.size 160 i1 (.slice none 0 0) 1 Tryz.underlying66 ri rz0 rz1 .i64 .i64 _ _ 0 rfl rfl rfl rfl (by rw [rz2]; omega) (by unfold maxLen; omega) (Nat.le_refl _) ?_; intro w1 hown1 hgrow1)
    have hb := (Below.refl wr.heap.size wr).grown hgrow1 (Nat.le_refl _) (fun j e => by cases e)
    have Hb := Lib.hid hb
    clear hb hown1 hgrow1
    go_loopg [6] 0 (fun g i wx => g = 0 ∧ i = .int .i64 0 ∧ wx = w1)
    case atStart => exact ⟨rfl, rfl, rfl⟩
    case round =>
      obtain ⟨_, rfl, rfl⟩ := hrel
      go_wp2_with fail
      go_loopg [9] 0 (fun g i wx => g = 0 ∧ i = .int .i64 0 ∧ wx = wr)
      case atStart => exact ⟨rfl, rfl, rfl⟩
      case round =>
        obtain ⟨_, rfl, rfl⟩ := hrel
        go_wp2_with fail
        go_loopg [11] 0 (fun g i wx => g = 0 ∧ i = .int .i64 0 ∧ wx = wr)
        case atStart => exact ⟨rfl, rfl, rfl⟩
        case round =>
          obtain ⟨_, rfl, rfl⟩ := hrel
          go_wp2_with fail
          go_loopg [14] 0 (fun g i wx => g = 0 ∧ i = .int .i64 0 ∧ wx = wr)
          case atStart => exact ⟨rfl, rfl, rfl⟩
          case round =>
            obtain ⟨_, rfl, rfl⟩ := hrel
            go_wp2_with fail
            go_ret
            exact ⟨rfl, Hb.out⟩
theorem infoShapes : (Tryz.prog.info? 165).map (fun i => (i.zero, i.size, i.bytes)) = some (some (.slice none 0 0), 1, 24) := by kernel_rfl
set_option maxRecDepth 100000 in
set_option maxHeartbeats 1000000 in
theorem flatShapes_none (w : World) : Calls Tryz.prog 56 #[.slice none 0 0] w fun e w' => e = .returned (.bool true) ∧ Below w.heap.size w w' := by
  obtain ⟨i1, ri, rz0, rz1, rz2⟩ := info_parts infoShapes
  go_enter Tryz.func56, Tryz.ntmps56
  go_wp2_with fail
  go_loopg [3] 0 (fun g i wx => g = 0 ∧ i = .int .i64 0 ∧ wx = w)
  case atStart => exact ⟨rfl, rfl, rfl⟩
  case round =>
    obtain ⟨_, rfl, rfl⟩ := hrel
    go_wp2_with (at_make; refine wpList_make_full _ rfl _ _ _ rfl wr.heap.size 165 i1 (.slice none 0 0) 1 Tryz.underlying67 ri rz0 rz1 .i64 .i64 _ _ 0 rfl rfl rfl rfl (by rw [rz2]; omega) (by unfold maxLen; omega) (Nat.le_refl _) ?_; intro w1 hown1 hgrow1)
    have hb := (Below.refl wr.heap.size wr).grown hgrow1 (Nat.le_refl _) (fun j e => by cases e)
    have Hb := Lib.hid hb
    clear hb hown1 hgrow1
    go_loopg [6] 0 (fun g i wx => g = 0 ∧ i = .int .i64 0 ∧ wx = w1)
    case atStart => exact ⟨rfl, rfl, rfl⟩
    case round =>
      obtain ⟨_, rfl, rfl⟩ := hrel
      go_wp2_with fail
      go_loopg [9] 0 (fun g i wx => g = 0 ∧ i = .int .i64 0 ∧ wx = wr)
      case atStart => exact ⟨rfl, rfl, rfl⟩
      case round =>
        obtain ⟨_, rfl, rfl⟩ := hrel
        go_wp2_with fail
        go_loopg [11] 0 (fun g i wx => g = 0 ∧ i = .int .i64 0 ∧ wx = wr)
        case atStart => exact ⟨rfl, rfl, rfl⟩
        case round =>
          obtain ⟨_, rfl, rfl⟩ := hrel
          go_wp2_with fail
          go_loopg [14] 0 (fun g i wx => g = 0 ∧ i = .int .i64 0 ∧ wx = wr)
          case atStart => exact ⟨rfl, rfl, rfl⟩
          case round =>
            obtain ⟨_, rfl, rfl⟩ := hrel
            go_wp2_with fail
            go_ret
            exact ⟨rfl, Hb.out⟩
theorem infoLetters : (Tryz.prog.info? 169).map (fun i => (i.zero, i.size, i.bytes)) = some (some (.slice none 0 0), 1, 24) := by kernel_rfl
set_option maxRecDepth 100000 in
set_option maxHeartbeats 1000000 in
theorem flatLetters_none (w : World) : Calls Tryz.prog 57 #[.slice none 0 0] w fun e w' => e = .returned (.bool true) ∧ Below w.heap.size w w' := by
  obtain ⟨i1, ri, rz0, rz1, rz2⟩ := info_parts infoLetters
  go_enter Tryz.func57, Tryz.ntmps57
  go_wp2_with fail
  go_loopg [3] 0 (fun g i wx => g = 0 ∧ i = .int .i64 0 ∧ wx = w)
  case atStart => exact ⟨rfl, rfl, rfl⟩
  case round =>
    obtain ⟨_, rfl, rfl⟩ := hrel
    go_wp2_with (at_make; refine wpList_make_full _ rfl _ _ _ rfl wr.heap.size 169 i1 (.slice none 0 0) 1 Tryz.underlying68 ri rz0 rz1 .i64 .i64 _ _ 0 rfl rfl rfl rfl (by rw [rz2]; omega) (by unfold maxLen; omega) (Nat.le_refl _) ?_; intro w1 hown1 hgrow1)
    have hb := (Below.refl wr.heap.size wr).grown hgrow1 (Nat.le_refl _) (fun j e => by cases e)
    have Hb := Lib.hid hb
    clear hb hown1 hgrow1
    go_loopg [6] 0 (fun g i wx => g = 0 ∧ i = .int .i64 0 ∧ wx = w1)
    case atStart => exact ⟨rfl, rfl, rfl⟩
    case round =>
      obtain ⟨_, rfl, rfl⟩ := hrel
      go_wp2_with fail
      go_loopg [9] 0 (fun g i wx => g = 0 ∧ i = .int .i64 0 ∧ wx = wr)
      case atStart => exact ⟨rfl, rfl, rfl⟩
      case round =>
        obtain ⟨_, rfl, rfl⟩ := hrel
        go_wp2_with fail
        go_loopg [11] 0 (fun g i wx => g = 0 ∧ i = .int .i64 0 ∧ wx = wr)
        case atStart => exact ⟨rfl, rfl, rfl⟩
        case round =>
          obtain ⟨_, rfl, rfl⟩ := hrel
          go_wp2_with fail
          go_loopg [14] 0 (fun g i wx => g = 0 ∧ i = .int .i64 0 ∧ wx = wr)
          case atStart => exact ⟨rfl, rfl, rfl⟩
          case round =>
            obtain ⟨_, rfl, rfl⟩ := hrel
            go_wp2_with fail
            go_ret
            exact ⟨rfl, Hb.out⟩
end Go.Proofs.YtbkecaenjjlmoaaGreatDoor
