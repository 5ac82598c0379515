/- Do lists of a kind of which there are none lie apart: they do. -/
import Derived.Test.YtoddcjpfldpnfaaDoorKitApart
namespace Go.Proofs.YtoddcjpfldpnfaaDoor
open Go.RowKit
theorem infoLimbs : (Tryd.prog.info? 156).map (fun i => (i.zero, i.size, i.bytes)) = some (some (.slice none 0 0), 1, 24) := by kernel_rfl
set_option maxRecDepth 100000 in
set_option maxHeartbeats 1000000 in
theorem flatLimbs_none (w : World) : Calls Tryd.prog 68 #[.slice none 0 0] w fun e w' => e = .returned (.bool true) ∧ Below w.heap.size w w' := by
  obtain ⟨i1, ri, rz0, rz1, rz2⟩ := info_parts infoLimbs
  go_enter Tryd.func68, Tryd.ntmps68
  go_wp2_with fail
  go_loopg [3] 0 (fun g i wx => g = 0 ∧ i = .int .i64 0 ∧ wx = w)
  case atStart => exact ⟨rfl, rfl, rfl⟩
  case round =>
    obtain ⟨_, rfl, rfl⟩ := hrel
    go_wp2_with (at_make; refine wpList_make_full _ rfl _ _ _ rfl wr.heap.size 156 i1 (.slice none 0 0) 1 Tryd.underlying94 ri rz0 rz1 .i64 .i64 _ _ 0 rfl rfl rfl rfl (by rw [rz2]; omega) (by unfold maxLen; omega) (Nat.le_refl _) ?_; intro w1 hown1 hgrow1)
    have hb := (Below.refl wr.heap.size wr).grown hgrow1 (Nat.le_refl _) (fun j e => by cases e)
    have Hb := Lib.hid hb
    clear hb hown1 hgrow1
    go_loopg [6] 0 (fun g i wx => g = 0 ∧ i = .int .i64 0 ∧ wx = w1)
    case atStart => exact ⟨rfl, rfl, rfl⟩
    case round =>
      obtain ⟨_, rfl, rfl⟩ := hrel
      go_wp2_with fail
      go_loopg [9] 0 (fun g i wx => g = 0 ∧ i = .int .i64 0 ∧ wx = wr)
      case atStart => exact ⟨rfl, rfl, rfl⟩
      case round =>
        obtain ⟨_, rfl, rfl⟩ := hrel
        go_wp2_with fail
        go_loopg [11] 0 (fun g i wx => g = 0 ∧ i = .int .i64 0 ∧ wx = wr)
        case atStart => exact ⟨rfl, rfl, rfl⟩
        case round =>
          obtain ⟨_, rfl, rfl⟩ := hrel
          go_wp2_with fail
          go_loopg [14] 0 (fun g i wx => g = 0 ∧ i = .int .i64 0 ∧ wx = wr)
          case atStart => exact ⟨rfl, rfl, rfl⟩
          case round =>
            obtain ⟨_, rfl, rfl⟩ := hrel
            go_wp2_with fail
            go_ret
            exact ⟨rfl, Hb.out⟩
theorem infoWords : (Tryd.prog.info? 158).map (fun i => (i.zero, i.size, i.bytes)) = some (some (.slice none 0 0), 1, 24) := by kernel_rfl
set_option maxRecDepth 100000 in
set_option maxHeartbeats 1000000 in
theorem flatWords_none (w : World) : Calls Tryd.prog 69 #[.slice none 0 0] w fun e w' => e = .returned (.bool true) ∧ Below w.heap.size w w' := by
  obtain ⟨i1, ri, rz0, rz1, rz2⟩ := info_parts infoWords
  go_enter Tryd.func69, Tryd.ntmps69
  go_wp2_with fail
  go_loopg [3] 0 (fun g i wx => g = 0 ∧ i = .int .i64 0 ∧ wx = w)
  case atStart => exact ⟨rfl, rfl, rfl⟩
  case round =>
    obtain ⟨_, rfl, rfl⟩ := hrel
    go_wp2_with (at_make; refine wpList_make_full _ rfl _ _ _ rfl wr.heap.size 158 i1 (.slice none 0 0) 1 Tryd.underlying95 ri rz0 rz1 .i64 .i64 _ _ 0 rfl rfl rfl rfl (by rw [rz2]; omega) (by unfold maxLen; omega) (Nat.le_refl _) ?_; intro w1 hown1 hgrow1)
    have hb := (Below.refl wr.heap.size wr).grown hgrow1 (Nat.le_refl _) (fun j e => by cases e)
    have Hb := Lib.hid hb
    clear hb hown1 hgrow1
    go_loopg [6] 0 (fun g i wx => g = 0 ∧ i = .int .i64 0 ∧ wx = w1)
    case atStart => exact ⟨rfl, rfl, rfl⟩
    case round =>
      obtain ⟨_, rfl, rfl⟩ := hrel
      go_wp2_with fail
      go_loopg [9] 0 (fun g i wx => g = 0 ∧ i = .int .i64 0 ∧ wx = wr)
      case atStart => exact ⟨rfl, rfl, rfl⟩
      case round =>
        obtain ⟨_, rfl, rfl⟩ := hrel
        go_wp2_with fail
        go_loopg [11] 0 (fun g i wx => g = 0 ∧ i = .int .i64 0 ∧ wx = wr)
        case atStart => exact ⟨rfl, rfl, rfl⟩
        case round =>
          obtain ⟨_, rfl, rfl⟩ := hrel
          go_wp2_with fail
          go_loopg [14] 0 (fun g i wx => g = 0 ∧ i = .int .i64 0 ∧ wx = wr)
          case atStart => exact ⟨rfl, rfl, rfl⟩
          case round =>
            obtain ⟨_, rfl, rfl⟩ := hrel
            go_wp2_with fail
            go_ret
            exact ⟨rfl, Hb.out⟩
theorem infoInts : (Tryd.prog.info? 34).map (fun i => (i.zero, i.size, i.bytes)) = some (some (.slice none 0 0), 1, 24) := by kernel_rfl
set_option maxRecDepth 100000 in
set_option maxHeartbeats 1000000 in
theorem flatInts_none (w : World) : Calls Tryd.prog 70 #[.slice none 0 0] w fun e w' => e = .returned (.bool true) ∧ Below w.heap.size w w' := by
  obtain ⟨i1, ri, rz0, rz1, rz2⟩ := info_parts infoInts
  go_enter Tryd.func70, Tryd.ntmps70
  go_wp2_with fail
  go_loopg [3] 0 (fun g i wx => g = 0 ∧ i = .int .i64 0 ∧ wx = w)
  case atStart => exact ⟨rfl, rfl, rfl⟩
  case round =>
    obtain ⟨_, rfl, rfl⟩ := hrel
    go_wp2_with (at_make; refine wpList_make_full _ rfl _ _ _ rfl wr.heap.size 34 i1 (.slice none 0 0) 1 Tryd.underlying96 ri rz0 rz1 .i64 .i64 _ _ 0 rfl rfl rfl rfl (by rw [rz2]; omega) (by unfold maxLen; omega) (Nat.le_refl _) ?_; intro w1 hown1 hgrow1)
    have hb := (Below.refl wr.heap.size wr).grown hgrow1 (Nat.le_refl _) (fun j e => by cases e)
    have Hb := Lib.hid hb
    clear hb hown1 hgrow1
    go_loopg [6] 0 (fun g i wx => g = 0 ∧ i = .int .i64 0 ∧ wx = w1)
    case atStart => exact ⟨rfl, rfl, rfl⟩
    case round =>
      obtain ⟨_, rfl, rfl⟩ := hrel
      go_wp2_with fail
      go_loopg [9] 0 (fun g i wx => g = 0 ∧ i = .int .i64 0 ∧ wx = wr)
      case atStart => exact ⟨rfl, rfl, rfl⟩
      case round =>
        obtain ⟨_, rfl, rfl⟩ := hrel
        go_wp2_with fail
        go_loopg [11] 0 (fun g i wx => g = 0 ∧ i = .int .i64 0 ∧ wx = wr)
        case atStart => exact ⟨rfl, rfl, rfl⟩
        case round =>
          obtain ⟨_, rfl, rfl⟩ := hrel
          go_wp2_with fail
          go_loopg [14] 0 (fun g i wx => g = 0 ∧ i = .int .i64 0 ∧ wx = wr)
          case atStart => exact ⟨rfl, rfl, rfl⟩
          case round =>
            obtain ⟨_, rfl, rfl⟩ := hrel
            go_wp2_with fail
            go_ret
            exact ⟨rfl, Hb.out⟩
theorem infoLongs : (Tryd.prog.info? 159).map (fun i => (i.zero, i.size, i.bytes)) = some (some (.slice none 0 0), 1, 24) := by kernel_rfl
set_option maxRecDepth 100000 in
set_option maxHeartbeats 1000000 in
theorem flatLongs_none (w : World) : Calls Tryd.prog 71 #[.slice none 0 0] w fun e w' => e = .returned (.bool true) ∧ Below w.heap.size w w' := by
  obtain ⟨i1, ri, rz0, rz1, rz2⟩ := info_parts infoLongs
  go_enter Tryd.func71, Tryd.ntmps71
  go_wp2_with fail
  go_loopg [3] 0 (fun g i wx => g = 0 ∧ i = .int .i64 0 ∧ wx = w)
  case atStart => exact ⟨rfl, rfl, rfl⟩
  case round =>
    obtain ⟨_, rfl, rfl⟩ := hrel
    go_wp2_with (at_make; refine wpList_make_full _ rfl _ _ _ rfl wr.heap.size 159 i1 (.slice none 0 0) 1 Tryd.underlying97 ri rz0 rz1 .i64 .i64 _ _ 0 rfl rfl rfl rfl (by rw [rz2]; omega) (by unfold maxLen; omega) (Nat.le_refl _) ?_; intro w1 hown1 hgrow1)
    have hb := (Below.refl wr.heap.size wr).grown hgrow1 (Nat.le_refl _) (fun j e => by cases e)
    have Hb := Lib.hid hb
    clear hb hown1 hgrow1
    go_loopg [6] 0 (fun g i wx => g = 0 ∧ i = .int .i64 0 ∧ wx = w1)
    case atStart => exact ⟨rfl, rfl, rfl⟩
    case round =>
      obtain ⟨_, rfl, rfl⟩ := hrel
      go_wp2_with fail
      go_loopg [9] 0 (fun g i wx => g = 0 ∧ i = .int .i64 0 ∧ wx = wr)
      case atStart => exact ⟨rfl, rfl, rfl⟩
      case round =>
        obtain ⟨_, rfl, rfl⟩ := hrel
        go_wp2_with fail
        go_loopg [11] 0 (fun g i wx => g = 0 ∧ i = .int .i64 0 ∧ wx = wr)
        case atStart => exact ⟨rfl, rfl, rfl⟩
        case round =>
          obtain ⟨_, rfl, rfl⟩ := hrel
          go_wp2_with fail
          go_loopg [14] 0 (fun g i wx => g = 0 ∧ i = .int .i64 0 ∧ wx = wr)
          case atStart => exact ⟨rfl, rfl, rfl⟩
          case round =>
            obtain ⟨_, rfl, rfl⟩ := hrel
            go_wp2_with fail
            go_ret
            exact ⟨rfl, Hb.out⟩
theorem infoTexts : (Tryd.prog.info? 160).map (fun i => (i.zero, i.size, i.bytes)) = some (some (.slice none 0 0), 1, 24) := by kernel_rfl
set_option maxRecDepth 100000 in
set_option maxHeartbeats 1000000 in
theorem flatTexts_none (w : World) : Calls Tryd.prog 72 #[.slice none 0 0] w fun e w' => e = .returned (.bool true) ∧ Below w.heap.size w w' := by
  obtain ⟨i1, ri, rz0, rz1, rz2⟩ := info_parts infoTexts
  go_enter Tryd.func72, Tryd.ntmps72
  go_wp2_with fail
  go_loopg [3] 0 (fun g i wx => g = 0 ∧ i = .int .i64 0 ∧ wx = w)
  case atStart => exact ⟨rfl, rfl, rfl⟩
  case round =>
    obtain ⟨_, rfl, rfl⟩ := hrel
    go_wp2_with (at_make; refine wpList_make_full _ rfl _ _ _ rfl wr.heap.size 160 i1 (.slice none 0 0) 1 Tryd.underlying98 ri rz0 rz1 .i64 .i64 _ _ 0 rfl rfl rfl rfl (by rw [rz2]; omega) (by unfold maxLen; omega) (Nat.le_refl _) ?_; intro w1 hown1 hgrow1)
    have hb := (Below.refl wr.heap.size wr).grown hgrow1 (Nat.le_refl _) (fun j e => by cases e)
    have Hb := Lib.hid hb
    clear hb hown1 hgrow1
    go_loopg [6] 0 (fun g i wx => g = 0 ∧ i = .int .i64 0 ∧ wx = w1)
    case atStart => exact ⟨rfl, rfl, rfl⟩
    case round =>
      obtain ⟨_, rfl, rfl⟩ := hrel
      go_wp2_with fail
      go_loopg [9] 0 (fun g i wx => g = 0 ∧ i = .int .i64 0 ∧ wx = wr)
      case atStart => exact ⟨rfl, rfl, rfl⟩
      case round =>
        obtain ⟨_, rfl, rfl⟩ := hrel
        go_wp2_with fail
        go_loopg [11] 0 (fun g i wx => g = 0 ∧ i = .int .i64 0 ∧ wx = wr)
        case atStart => exact ⟨rfl, rfl, rfl⟩
        case round =>
          obtain ⟨_, rfl, rfl⟩ := hrel
          go_wp2_with fail
          go_loopg [14] 0 (fun g i wx => g = 0 ∧ i = .int .i64 0 ∧ wx = wr)
          case atStart => exact ⟨rfl, rfl, rfl⟩
          case round =>
            obtain ⟨_, rfl, rfl⟩ := hrel
            go_wp2_with fail
            go_ret
            exact ⟨rfl, Hb.out⟩
theorem infoTruths : (Tryd.prog.info? 162).map (fun i => (i.zero, i.size, i.bytes)) = some (some (.slice none 0 0), 1, 24) := by kernel_rfl
set_option maxRecDepth 100000 in
set_option maxHeartbeats 1000000 in
theorem flatTruths_none (w : World) : Calls Tryd.prog 74 #[.slice none 0 0] w fun e w' => e = .returned (.bool true) ∧ Below w.heap.size w w' := by
  obtain ⟨i1, ri, rz0, rz1, rz2⟩ := info_parts infoTruths
  go_enter Tryd.func74, Tryd.ntmps74
  go_wp2_with fail
  go_loopg [3] 0 (fun g i wx => g = 0 ∧ i = .int .i64 0 ∧ wx = w)
  case atStart => exact ⟨rfl, rfl, rfl⟩
  case round =>
    obtain ⟨_, rfl, rfl⟩ := hrel
    go_wp2_with (at_make; refine wpList_make_full _ rfl _ _ _ rfl wr.heap.size 162 i1 (.slice none 0 0) 1 Tryd.underlying99 ri rz0 rz1 .i64 .i64 _ _ 0 rfl rfl rfl rfl (by rw [rz2]; omega) (by unfold maxLen; omega) (Nat.le_refl _) ?_; intro w1 hown1 hgrow1)
    have hb := (Below.refl wr.heap.size wr).grown hgrow1 (Nat.le_refl _) (fun j e => by cases e)
    have Hb := Lib.hid hb
    clear hb hown1 hgrow1
    go_loopg [6] 0 (fun g i wx => g = 0 ∧ i = .int .i64 0 ∧ wx = w1)
    case atStart => exact ⟨rfl, rfl, rfl⟩
    case round =>
      obtain ⟨_, rfl, rfl⟩ := hrel
      go_wp2_with fail
      go_loopg [9] 0 (fun g i wx => g = 0 ∧ i = .int .i64 0 ∧ wx = wr)
      case atStart => exact ⟨rfl, rfl, rfl⟩
      case round =>
        obtain ⟨_, rfl, rfl⟩ := hrel
        go_wp2_with fail
        go_loopg [11] 0 (fun g i wx => g = 0 ∧ i = .int .i64 0 ∧ wx = wr)
        case atStart => exact ⟨rfl, rfl, rfl⟩
        case round =>
          obtain ⟨_, rfl, rfl⟩ := hrel
          go_wp2_with fail
          go_loopg [14] 0 (fun g i wx => g = 0 ∧ i = .int .i64 0 ∧ wx = wr)
          case atStart => exact ⟨rfl, rfl, rfl⟩
          case round =>
            obtain ⟨_, rfl, rfl⟩ := hrel
            go_wp2_with fail
            go_ret
            exact ⟨rfl, Hb.out⟩
theorem infoUnits : (Tryd.prog.info? 163).map (fun i => (i.zero, i.size, i.bytes)) = some (some (.slice none 0 0), 1, 24) := by kernel_rfl
set_option maxRecDepth 100000 in
set_option maxHeartbeats 1000000 in
theorem flatUnits_none (w : World) : Calls Tryd.prog 75 #[.slice none 0 0] w fun e w' => e = .returned (.bool true) ∧ Below w.heap.size w w' := by
  obtain ⟨i1, ri, rz0, rz1, rz2⟩ := info_parts infoUnits
  go_enter Tryd.func75, Tryd.ntmps75
  go_wp2_with fail
  go_loopg [3] 0 (fun g i wx => g = 0 ∧ i = .int .i64 0 ∧ wx = w)
  case atStart => exact ⟨rfl, rfl, rfl⟩
  case round =>
    obtain ⟨_, rfl, rfl⟩ := hrel
    go_wp2_with (at_make; refine wpList_make_full _ rfl _ _ _ rfl wr.heap.size 163 i1 (.slice none 0 0) 1 Tryd.underlying100 ri rz0 rz1 .i64 .i64 _ _ 0 rfl rfl rfl rfl (by rw [rz2]; omega) (by unfold maxLen; omega) (Nat.le_refl _) ?_; intro w1 hown1 hgrow1)
    have hb := (Below.refl wr.heap.size wr).grown hgrow1 (Nat.le_refl _) (fun j e => by cases e)
    have Hb := Lib.hid hb
    clear hb hown1 hgrow1
    go_loopg [6] 0 (fun g i wx => g = 0 ∧ i = .int .i64 0 ∧ wx = w1)
    case atStart => exact ⟨rfl, rfl, rfl⟩
    case round =>
      obtain ⟨_, rfl, rfl⟩ := hrel
      go_wp2_with fail
      go_loopg [9] 0 (fun g i wx => g = 0 ∧ i = .int .i64 0 ∧ wx = wr)
      case atStart => exact ⟨rfl, rfl, rfl⟩
      case round =>
        obtain ⟨_, rfl, rfl⟩ := hrel
        go_wp2_with fail
        go_loopg [11] 0 (fun g i wx => g = 0 ∧ i = .int .i64 0 ∧ wx = wr)
        case atStart => exact ⟨rfl, rfl, rfl⟩
        case round =>
          obtain ⟨_, rfl, rfl⟩ := hrel
          go_wp2_with fail
          go_loopg [14] 0 (fun g i wx => g = 0 ∧ i = .int .i64 0 ∧ wx = wr)
          case atStart => exact ⟨rfl, rfl, rfl⟩
          case round =>
            obtain ⟨_, rfl, rfl⟩ := hrel
            go_wp2_with fail
            go_ret
            exact ⟨rfl, Hb.out⟩
theorem infoEntries : (Tryd.prog.info? 169).map (fun i => (i.zero, i.size, i.bytes)) = some (some (.slice none 0 0), 1, 24) := by kernel_rfl
set_option maxRecDepth 100000 in
set_option maxHeartbeats 1000000 in
theorem flatEntries_none (w : World) : Calls Tryd.prog 76 #[.slice none 0 0] w fun e w' => e = .returned (.bool true) ∧ Below w.heap.size w w' := by
  obtain ⟨i1, ri, rz0, rz1, rz2⟩ := info_parts infoEntries
  go_enter Tryd.func76, Tryd.ntmps76
  go_wp2_with fail
  go_loopg [3] 0 (fun g i wx => g = 0 ∧ i = .int .i64 0 ∧ wx = w)
  case atStart => exact ⟨rfl, rfl, rfl⟩
  case round =>
    obtain ⟨_, rfl, rfl⟩ := hrel
    go_wp2_with (at_make; refine wpList_make_full _ rfl _ _ _ rfl wr.heap.size 169 i1 (.slice none 0 0) 1 Tryd.underlying101 ri rz0 rz1 .i64 .i64 _ _ 0 rfl rfl rfl rfl (by rw [rz2]; omega) (by unfold maxLen; omega) (Nat.le_refl _) ?_; intro w1 hown1 hgrow1)
    have hb := (Below.refl wr.heap.size wr).grown hgrow1 (Nat.le_refl _) (fun j e => by cases e)
    have Hb := Lib.hid hb
    clear hb hown1 hgrow1
    go_loopg [6] 0 (fun g i wx => g = 0 ∧ i = .int .i64 0 ∧ wx = w1)
    case atStart => exact ⟨rfl, rfl, rfl⟩
    case round =>
      obtain ⟨_, rfl, rfl⟩ := hrel
      go_wp2_with fail
      go_loopg [9] 0 (fun g i wx => g = 0 ∧ i = .int .i64 0 ∧ wx = wr)
      case atStart => exact ⟨rfl, rfl, rfl⟩
      case round =>
        obtain ⟨_, rfl, rfl⟩ := hrel
        go_wp2_with fail
        go_loopg [11] 0 (fun g i wx => g = 0 ∧ i = .int .i64 0 ∧ wx = wr)
        case atStart => exact ⟨rfl, rfl, rfl⟩
        case round =>
          obtain ⟨_, rfl, rfl⟩ := hrel
          go_wp2_with fail
          go_loopg [14] 0 (fun g i wx => g = 0 ∧ i = .int .i64 0 ∧ wx = wr)
          case atStart => exact ⟨rfl, rfl, rfl⟩
          case round =>
            obtain ⟨_, rfl, rfl⟩ := hrel
            go_wp2_with fail
            go_ret
            exact ⟨rfl, Hb.out⟩
theorem infoIdents : (Tryd.prog.info? 171).map (fun i => (i.zero, i.size, i.bytes)) = some (some (.slice none 0 0), 1, 24) := by kernel_rfl
set_option maxRecDepth 100000 in
set_option maxHeartbeats 1000000 in
theorem flatIdents_none (w : World) : Calls Tryd.prog 77 #[.slice none 0 0] w fun e w' => e = .returned (.bool true) ∧ Below w.heap.size w w' := by
  obtain ⟨i1, ri, rz0, rz1, rz2⟩ := info_parts infoIdents
  go_enter Tryd.func77, Tryd.ntmps77
  go_wp2_with fail
  go_loopg [3] 0 (fun g i wx => g = 0 ∧ i = .int .i64 0 ∧ wx = w)
  case atStart => exact ⟨rfl, rfl, rfl⟩
  case round =>
    obtain ⟨_, rfl, rfl⟩ := hrel
    go_wp2_with (at_make; refine wpList_make_full _ rfl _ _ _ rfl wr.heap.size 171 i1 (.slice none 0 0) 1 Tryd.underlying102 ri rz0 rz1 .i64 .i64 _ _ 0 rfl rfl rfl rfl (by rw [rz2]; omega) (by unfold maxLen; omega) (Nat.le_refl _) ?_; intro w1 hown1 hgrow1)
    have hb := (Below.refl wr.heap.size wr).grown hgrow1 (Nat.le_refl _) (fun j e => by cases e)
    have Hb := Lib.hid hb
    clear hb hown1 hgrow1
    go_loopg [6] 0 (fun g i wx => g = 0 ∧ i = .int .i64 0 ∧ wx = w1)
    case atStart => exact ⟨rfl, rfl, rfl⟩
    case round =>
      obtain ⟨_, rfl, rfl⟩ := hrel
      go_wp2_with fail
      go_loopg [9] 0 (fun g i wx => g = 0 ∧ i = .int .i64 0 ∧ wx = wr)
      case atStart => exact ⟨rfl, rfl, rfl⟩
      case round =>
        obtain ⟨_, rfl, rfl⟩ := hrel
        go_wp2_with fail
        go_loopg [11] 0 (fun g i wx => g = 0 ∧ i = .int .i64 0 ∧ wx = wr)
        case atStart => exact ⟨rfl, rfl, rfl⟩
        case round =>
          obtain ⟨_, rfl, rfl⟩ := hrel
          go_wp2_with fail
          go_loopg [14] 0 (fun g i wx => g = 0 ∧ i = .int .i64 0 ∧ wx = wr)
          case atStart => exact ⟨rfl, rfl, rfl⟩
          case round =>
            obtain ⟨_, rfl, rfl⟩ := hrel
            go_wp2_with fail
            go_ret
            exact ⟨rfl, Hb.out⟩
theorem infoMetas : (Tryd.prog.info? 175).map (fun i => (i.zero, i.size, i.bytes)) = some (some (.slice none 0 0), 1, 24) := by kernel_rfl
set_option maxRecDepth 100000 in
set_option maxHeartbeats 1000000 in
theorem flatMetas_none (w : World) : Calls Tryd.prog 78 #[.slice none 0 0] w fun e w' => e = .returned (.bool true) ∧ Below w.heap.size w w' := by
  obtain ⟨i1, ri, rz0, rz1, rz2⟩ := info_parts infoMetas
  go_enter Tryd.func78, Tryd.ntmps78
  go_wp2_with fail
  go_loopg [3] 0 (fun g i wx => g = 0 ∧ i = .int .i64 0 ∧ wx = w)
  case atStart => exact ⟨rfl, rfl, rfl⟩
  case round =>
    obtain ⟨_, rfl, rfl⟩ := hrel
    go_wp2_with (at_make; refine wpList_make_full _ rfl _ _ _ rfl wr.heap.size 175 i1 (.slice none 0 0) 1 Tryd.underlying103 ri rz0 rz1 .i64 .i64 _ _ 0 rfl rfl rfl rfl (by rw [rz2]; omega) (by unfold maxLen; omega) (Nat.le_refl _) ?_; intro w1 hown1 hgrow1)
    have hb := (Below.refl wr.heap.size wr).grown hgrow1 (Nat.le_refl _) (fun j e => by cases e)
    have Hb := Lib.hid hb
    clear hb hown1 hgrow1
    go_loopg [6] 0 (fun g i wx => g = 0 ∧ i = .int .i64 0 ∧ wx = w1)
    case atStart => exact ⟨rfl, rfl, rfl⟩
    case round =>
      obtain ⟨_, rfl, rfl⟩ := hrel
      go_wp2_with fail
      go_loopg [9] 0 (fun g i wx => g = 0 ∧ i = .int .i64 0 ∧ wx = wr)
      case atStart => exact ⟨rfl, rfl, rfl⟩
      case round =>
        obtain ⟨_, rfl, rfl⟩ := hrel
        go_wp2_with fail
        go_loopg [11] 0 (fun g i wx => g = 0 ∧ i = .int .i64 0 ∧ wx = wr)
        case atStart => exact ⟨rfl, rfl, rfl⟩
        case round =>
          obtain ⟨_, rfl, rfl⟩ := hrel
          go_wp2_with fail
          go_loopg [14] 0 (fun g i wx => g = 0 ∧ i = .int .i64 0 ∧ wx = wr)
          case atStart => exact ⟨rfl, rfl, rfl⟩
          case round =>
            obtain ⟨_, rfl, rfl⟩ := hrel
            go_wp2_with fail
            go_ret
            exact ⟨rfl, Hb.out⟩
theorem infoMarks : (Tryd.prog.info? 179).map (fun i => (i.zero, i.size, i.bytes)) = some (some (.slice none 0 0), 1, 24) := by kernel_rfl
set_option maxRecDepth 100000 in
set_option maxHeartbeats 1000000 in
theorem flatMarks_none (w : World) : Calls Tryd.prog 79 #[.slice none 0 0] w fun e w' => e = .returned (.bool true) ∧ Below w.heap.size w w' := by
  obtain ⟨i1, ri, rz0, rz1, rz2⟩ := info_parts infoMarks
  go_enter Tryd.func79, Tryd.ntmps79
  go_wp2_with fail
  go_loopg [3] 0 (fun g i wx => g = 0 ∧ i = .int .i64 0 ∧ wx = w)
  case atStart => exact ⟨rfl, rfl, rfl⟩
  case round =>
    obtain ⟨_, rfl, rfl⟩ := hrel
    go_wp2_with (at_make; refine wpList_make_full _ rfl _ _ _ rfl wr.heap.size 179 i1 (.slice none 0 0) 1 Tryd.underlying104 ri rz0 rz1 .i64 .i64 _ _ 0 rfl rfl rfl rfl (by rw [rz2]; omega) (by unfold maxLen; omega) (Nat.le_refl _) ?_; intro w1 hown1 hgrow1)
    have hb := (Below.refl wr.heap.size wr).grown hgrow1 (Nat.le_refl _) (fun j e => by cases e)
    have Hb := Lib.hid hb
    clear hb hown1 hgrow1
    go_loopg [6] 0 (fun g i wx => g = 0 ∧ i = .int .i64 0 ∧ wx = w1)
    case atStart => exact ⟨rfl, rfl, rfl⟩
    case round =>
      obtain ⟨_, rfl, rfl⟩ := hrel
      go_wp2_with fail
      go_loopg [9] 0 (fun g i wx => g = 0 ∧ i = .int .i64 0 ∧ wx = wr)
      case atStart => exact ⟨rfl, rfl, rfl⟩
      case round =>
        obtain ⟨_, rfl, rfl⟩ := hrel
        go_wp2_with fail
        go_loopg [11] 0 (fun g i wx => g = 0 ∧ i = .int .i64 0 ∧ wx = wr)
        case atStart => exact ⟨rfl, rfl, rfl⟩
        case round =>
          obtain ⟨_, rfl, rfl⟩ := hrel
          go_wp2_with fail
          go_loopg [14] 0 (fun g i wx => g = 0 ∧ i = .int .i64 0 ∧ wx = wr)
          case atStart => exact ⟨rfl, rfl, rfl⟩
          case round =>
            obtain ⟨_, rfl, rfl⟩ := hrel
            go_wp2_with fail
            go_ret
            exact ⟨rfl, Hb.out⟩
theorem infoSnaps : (Tryd.prog.info? 183).map (fun i => (i.zero, i.size, i.bytes)) = some (some (.slice none 0 0), 1, 24) := by kernel_rfl
set_option maxRecDepth 100000 in
set_option maxHeartbeats 1000000 in
theorem flatSnaps_none (w : World) : Calls Tryd.prog 80 #[.slice none 0 0] w fun e w' => e = .returned (.bool true) ∧ Below w.heap.size w w' := by
  obtain ⟨i1, ri, rz0, rz1, rz2⟩ := info_parts infoSnaps
  go_enter Tryd.func80, Tryd.ntmps80
  go_wp2_with fail
  go_loopg [3] 0 (fun g i wx => g = 0 ∧ i = .int .i64 0 ∧ wx = w)
  case atStart => exact ⟨rfl, rfl, rfl⟩
  case round =>
    obtain ⟨_, rfl, rfl⟩ := hrel
    go_wp2_with (at_make; refine wpList_make_full _ rfl _ _ _ rfl wr.heap.size 183 i1 (.slice none 0 0) 1 Tryd.underlying105 ri rz0 rz1 .i64 .i64 _ _ 0 rfl rfl rfl rfl (by rw [rz2]; omega) (by unfold maxLen; omega) (Nat.le_refl _) ?_; intro w1 hown1 hgrow1)
    have hb := (Below.refl wr.heap.size wr).grown hgrow1 (Nat.le_refl _) (fun j e => by cases e)
    have Hb := Lib.hid hb
    clear hb hown1 hgrow1
    go_loopg [6] 0 (fun g i wx => g = 0 ∧ i = .int .i64 0 ∧ wx = w1)
    case atStart => exact ⟨rfl, rfl, rfl⟩
    case round =>
      obtain ⟨_, rfl, rfl⟩ := hrel
      go_wp2_with fail
      go_loopg [9] 0 (fun g i wx => g = 0 ∧ i = .int .i64 0 ∧ wx = wr)
      case atStart => exact ⟨rfl, rfl, rfl⟩
      case round =>
        obtain ⟨_, rfl, rfl⟩ := hrel
        go_wp2_with fail
        go_loopg [11] 0 (fun g i wx => g = 0 ∧ i = .int .i64 0 ∧ wx = wr)
        case atStart => exact ⟨rfl, rfl, rfl⟩
        case round =>
          obtain ⟨_, rfl, rfl⟩ := hrel
          go_wp2_with fail
          go_loopg [14] 0 (fun g i wx => g = 0 ∧ i = .int .i64 0 ∧ wx = wr)
          case atStart => exact ⟨rfl, rfl, rfl⟩
          case round =>
            obtain ⟨_, rfl, rfl⟩ := hrel
            go_wp2_with fail
            go_ret
            exact ⟨rfl, Hb.out⟩
theorem infoShapes : (Tryd.prog.info? 188).map (fun i => (i.zero, i.size, i.bytes)) = some (some (.slice none 0 0), 1, 24) := by kernel_rfl
set_option maxRecDepth 100000 in
set_option maxHeartbeats 1000000 in
theorem flatShapes_none (w : World) : Calls Tryd.prog 81 #[.slice none 0 0] w fun e w' => e = .returned (.bool true) ∧ Below w.heap.size w w' := by
  obtain ⟨i1, ri, rz0, rz1, rz2⟩ := info_parts infoShapes
  go_enter Tryd.func81, Tryd.ntmps81
  go_wp2_with fail
  go_loopg [3] 0 (fun g i wx => g = 0 ∧ i = .int .i64 0 ∧ wx = w)
  case atStart => exact ⟨rfl, rfl, rfl⟩
  case round =>
    obtain ⟨_, rfl, rfl⟩ := hrel
    go_wp2_with (at_make; refine wpList_make_full _ rfl _ _ _ rfl wr.heap.size 188 i1 (.slice none 0 0) 1 Tryd.underlying106 ri rz0 rz1 .i64 .i64 _ _ 0 rfl rfl rfl rfl (by rw [rz2]; omega) (by unfold maxLen; omega) (Nat.le_refl _) ?_; intro w1 hown1 hgrow1)
    have hb := (Below.refl wr.heap.size wr).grown hgrow1 (Nat.le_refl _) (fun j e => by cases e)
    have Hb := Lib.hid hb
    clear hb hown1 hgrow1
    go_loopg [6] 0 (fun g i wx => g = 0 ∧ i = .int .i64 0 ∧ wx = w1)
    case atStart => exact ⟨rfl, rfl, rfl⟩
    case round =>
      obtain ⟨_, rfl, rfl⟩ := hrel
      go_wp2_with fail
      go_loopg [9] 0 (fun g i wx => g = 0 ∧ i = .int .i64 0 ∧ wx = wr)
      case atStart => exact ⟨rfl, rfl, rfl⟩
      case round =>
        obtain ⟨_, rfl, rfl⟩ := hrel
        go_wp2_with fail
        go_loopg [11] 0 (fun g i wx => g = 0 ∧ i = .int .i64 0 ∧ wx = wr)
        case atStart => exact ⟨rfl, rfl, rfl⟩
        case round =>
          obtain ⟨_, rfl, rfl⟩ := hrel
          go_wp2_with fail
          go_loopg [14] 0 (fun g i wx => g = 0 ∧ i = .int .i64 0 ∧ wx = wr)
          case atStart => exact ⟨rfl, rfl, rfl⟩
          case round =>
            obtain ⟨_, rfl, rfl⟩ := hrel
            go_wp2_with fail
            go_ret
            exact ⟨rfl, Hb.out⟩
theorem infoLetters : (Tryd.prog.info? 192).map (fun i => (i.zero, i.size, i.bytes)) = some (some (.slice none 0 0), 1, 24) := by kernel_rfl
set_option maxRecDepth 100000 in
set_option maxHeartbeats 1000000 in
theorem flatLetters_none (w : World) : Calls Tryd.prog 82 #[.slice none 0 0] w fun e w' => e = .returned (.bool true) ∧ Below w.heap.size w w' := by
  obtain ⟨i1, ri, rz0, rz1, rz2⟩ := info_parts infoLetters
  go_enter Tryd.func82, Tryd.ntmps82
  go_wp2_with fail
  go_loopg [3] 0 (fun g i wx => g = 0 ∧ i = .int .i64 0 ∧ wx = w)
  case atStart => exact ⟨rfl, rfl, rfl⟩
  case round =>
    obtain ⟨_, rfl, rfl⟩ := hrel
    go_wp2_with (at_make; refine wpList_make_full _ rfl _ _ _ rfl wr.heap.size 192 i1 (.slice none 0 0) 1 Tryd.underlying107 ri rz0 rz1 .i64 .i64 _ _ 0 rfl rfl rfl rfl (by rw [rz2]; omega) (by unfold maxLen; omega) (Nat.le_refl _) ?_; intro w1 hown1 hgrow1)
    have hb := (Below.refl wr.heap.size wr).grown hgrow1 (Nat.le_refl _) (fun j e => by cases e)
    have Hb := Lib.hid hb
    clear hb hown1 hgrow1
    go_loopg [6] 0 (fun g i wx => g = 0 ∧ i = .int .i64 0 ∧ wx = w1)
    case atStart => exact ⟨rfl, rfl, rfl⟩
    case round =>
      obtain ⟨_, rfl, rfl⟩ := hrel
      go_wp2_with fail
      go_loopg [9] 0 (fun g i wx => g = 0 ∧ i = .int .i64 0 ∧ wx = wr)
      case atStart => exact ⟨rfl, rfl, rfl⟩
      case round =>
        obtain ⟨_, rfl, rfl⟩ := hrel
        go_wp2_with fail
        go_loopg [11] 0 (fun g i wx => g = 0 ∧ i = .int .i64 0 ∧ wx = wr)
        case atStart => exact ⟨rfl, rfl, rfl⟩
        case round =>
          obtain ⟨_, rfl, rfl⟩ := hrel
          go_wp2_with fail
          go_loopg [14] 0 (fun g i wx => g = 0 ∧ i = .int .i64 0 ∧ wx = wr)
          case atStart => exact ⟨rfl, rfl, rfl⟩
          case round =>
            obtain ⟨_, rfl, rfl⟩ := hrel
            go_wp2_with fail
            go_ret
            exact ⟨rfl, Hb.out⟩
end Go.Proofs.YtoddcjpfldpnfaaDoor
