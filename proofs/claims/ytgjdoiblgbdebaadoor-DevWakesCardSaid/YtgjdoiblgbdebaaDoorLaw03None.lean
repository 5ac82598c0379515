/- Of no disk: each call tells so. -/
/- The statement's helper 'none': of no disk, nil or one that New did not tell. -/
import Derived.Test.YtgjdoiblgbdebaaDoorDevStat
import Derived.Test.YtgjdoiblgbdebaaDoorDevRot
import Derived.Test.YtgjdoiblgbdebaaDoorDevCalls
import Derived.Test.YtgjdoiblgbdebaaDoorLaw03Do
namespace Go.Proofs.YtgjdoiblgbdebaaDoor
open Go.RowKit
section
variable {w : World} (σ : SenD)
/-- No disk stays none, where its block stays. -/
theorem NoDev.below {w2 : World} {v : Value} (h : NoDev w v) (hb : Below w.heap.size w w2) : NoDev w2 v := by
  rcases h with h | ⟨g, h1, h2⟩
  · exact .inl h
  · exact .inr ⟨g, h1, cell_below h2 hb⟩
theorem NoDev.ptr {v : Value} (h : NoDev w v) : ∃ p, v = .pointer p := by
  rcases h with rfl | ⟨g, rfl, _⟩
  · exact ⟨_, rfl⟩
  · exact ⟨_, rfl⟩
set_option maxRecDepth 100000 in
theorem read_none (v : Value) (hv : NoDev w v) (hG : GlD σ w) (n : Int) :
    Calls Tryd.prog 23 #[v, .int .i64 n] w fun e w' => e = .returned (.tuple #[.slice none 0 0, .int .i64 1]) ∧ w = w' := by
  have HT := Lib.hid (reaches_no σ hG v hv n)
  have HE := Lib.hid (errno_ni σ w hG)
  unfold DErr.val errK at *
  go_enter Tryd.func23, Tryd.ntmps23
  go_wp2_with fail
  refine HT.out.mono ?_
  rintro e w' ⟨rfl, rfl⟩
  go_wp2_with fail
  refine HE.out.mono ?_
  rintro e w' ⟨rfl, rfl⟩
  go_wp2_with fail
  go_ret2
  exact ⟨rfl, rfl⟩
set_option maxRecDepth 100000 in
theorem stored_none (v : Value) (hv : NoDev w v) (n : Int) :
    Calls Tryd.prog 20 #[v, .int .i64 n] w fun e w' => e = .returned (.slice none 0 0) ∧ w = w' := by
  have HT := Lib.hid (has_no v hv n)
  go_enter Tryd.func20, Tryd.ntmps20
  go_wp2_with fail
  refine HT.out.mono ?_
  rintro e w' ⟨rfl, rfl⟩
  go_wp2_with fail
  go_ret
  exact ⟨rfl, rfl⟩
set_option maxRecDepth 100000 in
theorem arm_none (v : Value) (hv : NoDev w v) (hG : GlD σ w) (n : Int) :
    Calls Tryd.prog 35 #[v, .int .i64 n] w fun e w' => e = .returned (.tuple #[]) ∧ w = w' := by
  have HT := Lib.hid (up_no σ hG v hv)
  unfold DErr.val errK at *
  go_enter Tryd.func35, Tryd.ntmps35
  go_wp2_with fail
  refine HT.out.mono ?_
  rintro e w' ⟨rfl, rfl⟩
  go_wp2_with fail
  go_end0
  exact ⟨rfl, rfl⟩
set_option maxRecDepth 100000 in
theorem sync_none (v : Value) (hv : NoDev w v) (hG : GlD σ w) :
    Calls Tryd.prog 18 #[v] w fun e w' => e = .returned (.int .i64 1) ∧ Below w.heap.size w w' := by
  obtain ⟨p, rfl⟩ := hv.ptr
  have hbn := below_new w (.cells #[.pointer p] 25)
  have HT := Lib.hid (up_no σ (hG.below hbn) (.pointer p) (hv.below hbn))
  have HE := Lib.hid (errno_ni σ _ (hG.below hbn))
  have HB := Lib.hid hbn
  have b1 : (w.alloc (.cells #[.pointer p] 25)).cell? ⟨w.heap.size, 0, none⟩ = some (.pointer p) := cell_row _ _ _
  clear hbn hv hG
  unfold DErr.val errK at *
  go_enter Tryd.func18, Tryd.ntmps18
  go_wp2_with fail
  refine HT.out.mono ?_
  rintro e w' ⟨rfl, rfl⟩
  go_wp2_with fail
  refine HE.out.mono ?_
  rintro e w' ⟨rfl, rfl⟩
  go_wp2_with fail
  go_ret
  exact ⟨rfl, HB.out⟩
set_option maxRecDepth 100000 in
theorem crash_none (v : Value) (hv : NoDev w v) (hG : GlD σ w) :
    Calls Tryd.prog 21 #[v] w fun e w' => e = .returned (.int .i64 1) ∧ w = w' := by
  have HT := Lib.hid (up_no σ hG v hv)
  have HE := Lib.hid (errno_ni σ w hG)
  unfold DErr.val errK at *
  go_enter Tryd.func21, Tryd.ntmps21
  go_wp2_with fail
  refine HT.out.mono ?_
  rintro e w' ⟨rfl, rfl⟩
  go_wp2_with fail
  refine HE.out.mono ?_
  rintro e w' ⟨rfl, rfl⟩
  go_wp2_with fail
  go_ret
  exact ⟨rfl, rfl⟩
set_option maxRecDepth 100000 in
theorem write_none (v : Value) (hv : NoDev w v) (hG : GlD σ w) (n : Int) :
    Calls Tryd.prog 16 #[v, .int .i64 n, .slice none 0 0] w fun e w' => e = .returned (.int .i64 1) ∧ Below w.heap.size w w' := by
  obtain ⟨p, rfl⟩ := hv.ptr
  have HT := Lib.hid (fun w' (hb : Below w.heap.size w w') => takes_no σ (hG.below hb) (.pointer p) (hv.below hb) n (.slice none 0 0))
  have HE := Lib.hid (fun w' (hb : Below w.heap.size w w') => errno_ni σ w' (hG.below hb))
  have hb1 := below_new w (.cells #[.pointer p] 25)
  have hb2 := hb1.alloc hb1.size (.cells #[.int .i64 n] 3)
  have hb3 := hb2.alloc hb2.size (.cells #[.slice none 0 0] 33)
  obtain ⟨b1, b2, b3⟩ := boxes3 w (.pointer p) (.int .i64 n) (.slice none 0 0) 25 3 33
  have HB := Lib.hid hb3
  clear hb1 hb2 hb3 hG hv
  unfold DErr.val errK at *
  go_enter Tryd.func16, Tryd.ntmps16
  go_wp2_with fail
  refine (HT.out _ HB.out).mono ?_
  rintro e w' ⟨rfl, rfl⟩
  go_wp2_with fail
  refine (HE.out _ HB.out).mono ?_
  rintro e w' ⟨rfl, rfl⟩
  go_wp2_with fail
  go_ret
  exact ⟨rfl, HB.out⟩
/-- What Stat tells of no disk. -/
abbrev noStat : Value := .agg #[.int .i64 0, .int .i64 0, .int .i64 0, .int .i64 0, .int .i64 0, .bool false]
set_option maxRecDepth 100000 in
theorem stat_none (v : Value) (hv : NoDev w v) :
    Calls Tryd.prog 19 #[v] w fun e w' => e = .returned noStat ∧ Below w.heap.size w w' := by
  have hbn := below_new w (.cells #[.int .i64 0, .int .i64 0, .int .i64 0, .int .i64 0, .int .i64 0, .bool false] 44)
  have HT := Lib.hid (told_no _ v (hv.below hbn))
  have HS := Lib.hid (BlockIs.made w 44 #[.int .i64 0, .int .i64 0, .int .i64 0, .int .i64 0, .int .i64 0, .bool false])
  have Hb := Lib.hid hbn
  clear hbn hv
  go_enter Tryd.func19, Tryd.ntmps19
  go_wp2_with fail
  refine HT.out.mono ?_
  rintro e w' ⟨rfl, rfl⟩
  go_wp2_with fail
  have sizeStat : (Tryd.prog.info? 44).map (·.size) = some 6 := by kernel_rfl
  exact bodyPost_ret (v := noStat) (results_cell_row rfl _ _ w.heap.size 44 #[.int .i64 0, .int .i64 0, .int .i64 0, .int .i64 0, .int .i64 0, .bool false] (0, 0) _ rfl HS.out Tryd.underlying44 rfl (by rw [sizeStat]; rfl)) rfl ⟨rfl, Hb.out⟩
set_option maxRecDepth 100000 in
theorem wake_none (v : Value) (hv : NoDev w v) (a b c : Int) :
    Calls Tryd.prog 22 #[v, .int .i64 a, .int .i64 b, .int .i64 c] w fun e w' => e = .returned (.int .i64 1) ∧ Below w.heap.size w w' := by
  obtain ⟨p, rfl⟩ := hv.ptr
  have hb1 := below_new w (.cells #[.int .i64 a] 3)
  have hb2 := hb1.alloc hb1.size (.cells #[.int .i64 b] 3)
  have HT := Lib.hid (told_no _ (.pointer p) (hv.below hb2))
  have HB := Lib.hid hb2
  clear hb1 hb2 hv
  go_enter Tryd.func22, Tryd.ntmps22
  go_wp2_with fail
  refine HT.out.mono ?_
  rintro e w' ⟨rfl, rfl⟩
  go_wp2_with fail
  go_ret
  exact ⟨rfl, HB.out⟩
set_option maxRecDepth 100000 in
theorem spoil_no (hG : GlD σ w) (v c : Value) (hv : NoDev w v) (n : Int) :
    Calls Tryd.prog 59 #[v, .int .i64 n, c] w fun e w' => e = .returned (DErr.ni.val σ) ∧ w = w' := by
  have HT := Lib.hid (told_no w v hv)
  have g1 := hG.ni
  unfold DErr.val errK at *
  go_enter Tryd.func59, Tryd.ntmps59
  go_wp2_with fail
  refine HT.out.mono ?_
  rintro e w' ⟨rfl, rfl⟩
  go_wp2_with fail
  go_ret
  exact ⟨rfl, rfl⟩
set_option maxRecDepth 100000 in
theorem rot_none (v : Value) (hv : NoDev w v) (hG : GlD σ w) (n bit m : Int) :
    Calls Tryd.prog 27 #[v, .int .i64 n, .int .i64 bit, .int .u32 m] w fun e w' => e = .returned (.int .i64 1) ∧ Below w.heap.size w w' := by
  obtain ⟨p, rfl⟩ := hv.ptr
  have hb1 := below_new w (.cells #[.int .i64 bit] 3)
  have hb2 := hb1.alloc hb1.size (.cells #[.int .u32 m] 34)
  have HS := Lib.hid (spoil_no σ (hG.below hb2) (.pointer p) (.func (.func 60) #[] #[.pointer (some ⟨w.heap.size, 0, none⟩), .pointer (some ⟨w.heap.size + 1, 0, none⟩)]) (hv.below hb2) n)
  have HE := Lib.hid (errno_ni σ _ (hG.below hb2))
  have HB := Lib.hid hb2
  clear hb1 hb2 hv hG
  unfold DErr.val errK at *
  go_enter Tryd.func27, Tryd.ntmps27
  go_wp2_with fail
  refine HS.out.mono ?_
  rintro e w' ⟨rfl, rfl⟩
  go_wp2_with fail
  refine HE.out.mono ?_
  rintro e w' ⟨rfl, rfl⟩
  go_wp2_with fail
  go_ret
  exact ⟨rfl, HB.out⟩
set_option maxRecDepth 100000 in
theorem wipe_none (v : Value) (hv : NoDev w v) (hG : GlD σ w) (n : Int) :
    Calls Tryd.prog 28 #[v, .int .i64 n] w fun e w' => e = .returned (.int .i64 1) ∧ Below w.heap.size w w' := by
  have HS := Lib.hid (spoil_no σ hG v (.func (.func 62) #[] #[]) hv n)
  have HE := Lib.hid (errno_ni σ w hG)
  unfold DErr.val errK at *
  go_enter Tryd.func28, Tryd.ntmps28
  go_wp2_with fail
  refine HS.out.mono ?_
  rintro e w' ⟨rfl, rfl⟩
  go_wp2_with fail
  refine HE.out.mono ?_
  rintro e w' ⟨rfl, rfl⟩
  go_wp2_with fail
  go_ret
  exact ⟨rfl, Below.refl _ _⟩
end
end Go.Proofs.YtgjdoiblgbdebaaDoor
namespace Go.Proofs.YtgjdoiblgbdebaaDoor
open Go.RowKit
set_option maxRecDepth 100000 in
set_option maxHeartbeats 8000000 in
theorem none_any (σ : SenD) (w : World) (hG : GlD σ w) :
    Calls Tryd.prog 15 #[] w fun e w' => e = .returned (.bool true) ∧ Below w.heap.size w w' := by
  have HG := Lib.hid hG
  clear hG
  have hgs := guardStat
  have hes := fun w' => eqStat 0 0 0 0 0 false w'
  go_enter Tryd.func15, Tryd.ntmps15
  go_wp2_with fail
  have hb1 := below_new w (.cells #[.int .i64 0, .int .i64 0, .int .i64 0, .pointer none, .slice none 0 0, .slice none 0 0, .int .i64 0, .bool false] 62)
  have hb2 := hb1.alloc hb1.size (.cells #[.pointer none, .pointer (some ⟨w.heap.size, 0, none⟩)] 25)
  have hB1 := BlockIs.made w 62 #[.int .i64 0, .int .i64 0, .int .i64 0, .pointer none, .slice none 0 0, .slice none 0 0, .int .i64 0, .bool false]
  have hn2 := below_new (w.alloc (.cells #[.int .i64 0, .int .i64 0, .int .i64 0, .pointer none, .slice none 0 0, .slice none 0 0, .int .i64 0, .bool false] 62)) (.cells #[.pointer none, .pointer (some ⟨w.heap.size, 0, none⟩)] 25)
  have hB2 := BlockIs.made (w.alloc (.cells #[.int .i64 0, .int .i64 0, .int .i64 0, .pointer none, .slice none 0 0, .slice none 0 0, .int .i64 0, .bool false] 62)) 25 #[.pointer none, .pointer (some ⟨w.heap.size, 0, none⟩)]
  rw [size1] at hB2
  have H0 := Lib.hid (And.intro hb2 (And.intro (hB1.below hn2 hB1.lt) hB2))
  clear hb1 hb2 hB1 hB2 hn2
  generalize ((w.alloc (.cells #[.int .i64 0, .int .i64 0, .int .i64 0, .pointer none, .slice none 0 0, .slice none 0 0, .int .i64 0, .bool false] 62)).alloc (.cells #[.pointer none, .pointer (some ⟨w.heap.size, 0, none⟩)] 25)) = w0 at *
  go_loopg [2] 2 (fun gk i wx => ∃ q : Nat, gk = 2 - q ∧ q ≤ 2 ∧ i = .int .i64 (q : Int) ∧ Hid (Below w.heap.size w wx ∧ BlockIs wx w.heap.size 62 #[.int .i64 0, .int .i64 0, .int .i64 0, .pointer none, .slice none 0 0, .slice none 0 0, .int .i64 0, .bool false] ∧ BlockIs wx (w.heap.size + 1) 25 #[.pointer none, .pointer (some ⟨w.heap.size, 0, none⟩)]))
  case atStart => exact ⟨0, rfl, by omega, rfl, H0⟩
  case round =>
    obtain ⟨q, hgk, hq, rfl, hR⟩ := hrel
    have Hgk := Lib.hid hgk
    clear hgk
    rcases (show q = 0 ∨ q = 1 ∨ q = 2 by omega) with rfl | rfl | rfl
    · have c0 : wr.cell? ⟨w.heap.size + 1, 0, none⟩ = some (.pointer none) := hR.out.2.2.cell 0
      have hnv : NoDev wr (.pointer none) := .inl rfl
      have HV := Lib.hid hnv
      have HGr := Lib.hid (HG.out.below hR.out.1)
      clear hnv
      go_wp2_with fail
      refine (read_none σ (.pointer none) HV.out HGr.out 0).mono ?_
      rintro e w' ⟨rfl, rfl⟩
      go_wp2_with fail
      refine (arm_none σ (.pointer none) HV.out HGr.out 1).mono ?_
      rintro e w' ⟨rfl, rfl⟩
      go_wp2_with fail
      refine (stored_none (.pointer none) HV.out 0).mono ?_
      rintro e w' ⟨rfl, rfl⟩
      clear c0
      go_wp2_with fail
      refine (stat_none (.pointer none) HV.out).mono ?_
      rintro e w1 ⟨rfl, b1⟩
      have B1 := Lib.hid b1
      clear b1
      go_wp2_with fail
      refine (write_none σ (.pointer none) (HV.out.below B1.out) (HGr.out.below B1.out) 0).mono ?_
      rintro e w2 ⟨rfl, b2⟩
      have B2 := Lib.hid (B1.out.trans (b2.mono B1.out.size))
      clear b2
      go_wp2_with fail
      refine (sync_none σ (.pointer none) (HV.out.below B2.out) (HGr.out.below B2.out)).mono ?_
      rintro e w3 ⟨rfl, b3⟩
      have B3 := Lib.hid (B2.out.trans (b3.mono B2.out.size))
      clear b3
      go_wp2_with fail
      refine (crash_none σ (.pointer none) (HV.out.below B3.out) (HGr.out.below B3.out)).mono ?_
      rintro e w' ⟨rfl, rfl⟩
      go_wp2_with fail
      refine (wake_none (.pointer none) (HV.out.below B3.out) 0 0 0).mono ?_
      rintro e w4 ⟨rfl, b4⟩
      have B4 := Lib.hid (B3.out.trans (b4.mono B3.out.size))
      clear b4
      go_wp2_with fail
      refine (rot_none σ (.pointer none) (HV.out.below B4.out) (HGr.out.below B4.out) 0 0 1).mono ?_
      rintro e w5 ⟨rfl, b5⟩
      have B5 := Lib.hid (B4.out.trans (b5.mono B4.out.size))
      clear b5
      go_wp2_with fail
      refine (wipe_none σ (.pointer none) (HV.out.below B5.out) (HGr.out.below B5.out) 0).mono ?_
      rintro e w6 ⟨rfl, b6⟩
      have B6 := Lib.hid (B5.out.trans (b6.mono B5.out.size))
      clear b6
      go_wp2_with fail
      go_roundg (2 - (0 + 1))
      case measure => rw [Hgk.out]; omega
      case rel => exact ⟨0 + 1, rfl, by omega, by go_num, Lib.hid ⟨hR.out.1.trans (B6.out.mono hR.out.1.size), hR.out.2.1.below B6.out hR.out.2.1.lt, hR.out.2.2.below B6.out hR.out.2.2.lt⟩⟩
    · have c0 : wr.cell? ⟨w.heap.size + 1, 1, none⟩ = some (.pointer (some ⟨w.heap.size, 0, none⟩)) := hR.out.2.2.cell 1
      have hnv : NoDev wr (.pointer (some ⟨w.heap.size, 0, none⟩)) := .inr ⟨w.heap.size, rfl, hR.out.2.1.cell 3⟩
      have HV := Lib.hid hnv
      have HGr := Lib.hid (HG.out.below hR.out.1)
      clear hnv
      go_wp2_with fail
      refine (read_none σ (.pointer (some ⟨w.heap.size, 0, none⟩)) HV.out HGr.out 0).mono ?_
      rintro e w' ⟨rfl, rfl⟩
      go_wp2_with fail
      refine (arm_none σ (.pointer (some ⟨w.heap.size, 0, none⟩)) HV.out HGr.out 1).mono ?_
      rintro e w' ⟨rfl, rfl⟩
      go_wp2_with fail
      refine (stored_none (.pointer (some ⟨w.heap.size, 0, none⟩)) HV.out 0).mono ?_
      rintro e w' ⟨rfl, rfl⟩
      clear c0
      go_wp2_with fail
      refine (stat_none (.pointer (some ⟨w.heap.size, 0, none⟩)) HV.out).mono ?_
      rintro e w1 ⟨rfl, b1⟩
      have B1 := Lib.hid b1
      clear b1
      go_wp2_with fail
      refine (write_none σ (.pointer (some ⟨w.heap.size, 0, none⟩)) (HV.out.below B1.out) (HGr.out.below B1.out) 0).mono ?_
      rintro e w2 ⟨rfl, b2⟩
      have B2 := Lib.hid (B1.out.trans (b2.mono B1.out.size))
      clear b2
      go_wp2_with fail
      refine (sync_none σ (.pointer (some ⟨w.heap.size, 0, none⟩)) (HV.out.below B2.out) (HGr.out.below B2.out)).mono ?_
      rintro e w3 ⟨rfl, b3⟩
      have B3 := Lib.hid (B2.out.trans (b3.mono B2.out.size))
      clear b3
      go_wp2_with fail
      refine (crash_none σ (.pointer (some ⟨w.heap.size, 0, none⟩)) (HV.out.below B3.out) (HGr.out.below B3.out)).mono ?_
      rintro e w' ⟨rfl, rfl⟩
      go_wp2_with fail
      refine (wake_none (.pointer (some ⟨w.heap.size, 0, none⟩)) (HV.out.below B3.out) 0 0 0).mono ?_
      rintro e w4 ⟨rfl, b4⟩
      have B4 := Lib.hid (B3.out.trans (b4.mono B3.out.size))
      clear b4
      go_wp2_with fail
      refine (rot_none σ (.pointer (some ⟨w.heap.size, 0, none⟩)) (HV.out.below B4.out) (HGr.out.below B4.out) 0 0 1).mono ?_
      rintro e w5 ⟨rfl, b5⟩
      have B5 := Lib.hid (B4.out.trans (b5.mono B4.out.size))
      clear b5
      go_wp2_with fail
      refine (wipe_none σ (.pointer (some ⟨w.heap.size, 0, none⟩)) (HV.out.below B5.out) (HGr.out.below B5.out) 0).mono ?_
      rintro e w6 ⟨rfl, b6⟩
      have B6 := Lib.hid (B5.out.trans (b6.mono B5.out.size))
      clear b6
      go_wp2_with fail
      go_roundg (2 - (1 + 1))
      case measure => rw [Hgk.out]; omega
      case rel => exact ⟨1 + 1, rfl, by omega, by go_num, Lib.hid ⟨hR.out.1.trans (B6.out.mono hR.out.1.size), hR.out.2.1.below B6.out hR.out.2.1.lt, hR.out.2.2.below B6.out hR.out.2.2.lt⟩⟩
    · go_wp2_with fail
      go_ret
      exact ⟨rfl, hR.out.1⟩
end Go.Proofs.YtgjdoiblgbdebaaDoor
