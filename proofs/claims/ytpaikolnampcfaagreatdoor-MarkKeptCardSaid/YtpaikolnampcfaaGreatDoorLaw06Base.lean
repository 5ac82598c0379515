/- Damaged. -/
/- What the laws of marks share: blocks beside the disk; the chapter's example. -/
import Derived.Test.YtpaikolnampcfaaGreatDoorMarkDam
import Derived.Test.YtpaikolnampcfaaGreatDoorMarkAwake
import Derived.Test.YtpaikolnampcfaaGreatDoorMarkOpen
namespace Go.Proofs.YtpaikolnampcfaaGreatDoor
open Go.RowKit
section
variable {δ : SenD} {w0 w : World} {T : Nat → Prop} {h : Nat} {D : DM}
set_option maxRecDepth 100000 in
set_option maxHeartbeats 1000000 in
theorem kDamaged_any (σ : Sen) (τ : SenU) (κ : SenK) (hC : GlAt σ w0) (hU : GlU τ w0) (hD : GlD δ w0) (hM : GlK κ w0) (k : OwnT w0 w T h D) :
    Calls Tryz.prog 22 #[.pointer (some ⟨h, 0, none⟩)] w fun e w' => ∃ v, e = .returned v ∧ w'.ownsRow w.heap.size 3 1 v (badK D).length (i64s (badK D)) ∧ Below w.heap.size w w' := by
  have hb := below_new w (.cells #[.int .i64 2, .int .i64 3] 27)
  have HD := Lib.hid (kdamaged_any σ τ κ hC hU hD hM (k.on hb) w.heap.size (BlockIs.made w 27 #[.int .i64 2, .int .i64 3]))
  have Hb := Lib.hid hb
  clear hC hU hD hM k hb
  go_enter Tryz.func22, Tryz.ntmps22
  go_wp2_with fail
  refine HD.out.mono ?_
  rintro e w2 ⟨v, rfl, ho, hb2⟩
  have Ho := Lib.hid (And.intro ho hb2)
  clear ho hb2 HD
  go_wp2_with fail
  go_ret
  exact ⟨_, rfl, own_mono Ho.out.1 Hb.out.size, Hb.out.trans (Ho.out.2.mono Hb.out.size)⟩
end
end Go.Proofs.YtpaikolnampcfaaGreatDoor
namespace Go.Proofs.YtpaikolnampcfaaGreatDoor
open Go.RowKit
/-- A block that is none of the disk's. -/
structure Box (w : World) (T : Nat → Prop) (b : Nat) (t : TypeId) (cs : Array Value) : Prop where
  blk : BlockIs w b t cs
  off : ¬ T b
section
variable {w0 w w' : World} {T : Nat → Prop} {h b : Nat} {D D' : DM} {t : TypeId} {cs : Array Value}
theorem Box.step (k : Box w T b t cs) (s : Stp w0 w T h D' w') : Box w' (grow T w w') b t cs := ⟨(s.block k.blk k.off).1, (s.block k.blk k.off).2⟩
theorem Box.on (k : Box w T b t cs) (hb : Below w.heap.size w w') : Box w' T b t cs := ⟨k.blk.below hb k.blk.lt, k.off⟩
theorem Box.made (k : OwnT w0 w T h D) (t : TypeId) (cs : Array Value) : Box (w.alloc (.cells cs t)) T w.heap.size t cs := ⟨BlockIs.made _ _ _, fun ht => by have := k.foot _ ht; omega⟩
end
/-- What the laws are told of the variables. -/
structure Gls (σ : Sen) (τ : SenU) (δ : SenD) (κ : SenK) (w : World) : Prop where
  c : GlAt σ w
  u : GlU τ w
  d : GlD δ w
  s : GlS δ w
  k : GlK κ w
theorem Gls.below {σ : Sen} {τ : SenU} {δ : SenD} {κ : SenK} {w w' : World} (h : Gls σ τ δ κ w) (hb : Below w.heap.size w w') : Gls σ τ δ κ w' := ⟨h.c.below hb, h.u.below hb, h.d.below hb, h.s.below hb, h.k.below hb⟩
theorem wf2 : wfK 2 := by unfold wfK; decide
theorem wf3 : wfK 3 := by unfold wfK; decide
set_option maxRecDepth 100000 in
set_option maxHeartbeats 8000000 in
theorem awake_any (σ : Sen) (τ : SenU) (δ : SenD) (κ : SenK) (w : World) (hG : Gls σ τ δ κ w) :
    Calls Tryz.prog 8 #[] w fun e w' => e = .returned (.bool true) ∧ Below w.heap.size w w' := by
  obtain ⟨f1, p1, i1, g2, g3, bd, hF⟩ := mark_awake
  have HG := Lib.hid hG
  have HN := Lib.hid (OwnT.new (Below.refl w.heap.size w) 6 (by decide) (by decide))
  have Hms := Lib.hid (And.intro f1 (And.intro p1 (And.intro i1 (And.intro g2 (And.intro g3 (And.intro bd hF))))))
  have F1 := Lib.hid (few_formatK (Few.new (B := 6)))
  obtain ⟨D1, hD1⟩ : ∃ D, formatK (DM.new 6) = D := ⟨_, rfl⟩
  obtain ⟨D0, hD0⟩ : ∃ D, DM.new 6 = D := ⟨_, rfl⟩
  have F0 := Lib.hid (Few.new (B := 6))
  rw [hD0] at hD1 F0 HN
  rw [hD0, hD1] at Hms F1
  have Hq1 := Lib.hid hD1
  clear f1 p1 i1 g2 g3 bd hF hG hD0 hD1
  go_enter Tryz.func8, Tryz.ntmps8
  go_wp2_with fail
  refine HN.out.mono ?_
  rintro e w1 ⟨h, rfl, k1, hb1⟩
  have hbm := below_new w1 (.cells #[.int .i64 1, .int .i64 4, .int .i64 2, .int .i64 2, .int .i64 0] 26)
  have K2 := Lib.hid (k1.on hbm)
  have M2 := Lib.hid (Box.made k1 26 #[.int .i64 1, .int .i64 4, .int .i64 2, .int .i64 2, .int .i64 0])
  have HF := kformat_any κ HG.out.d HG.out.k K2.out F0.out (by decide)
  rw [Hq1.out] at HF
  have HFm := Lib.hid HF
  obtain ⟨w2, hw2⟩ : ∃ w2, w1.alloc (.cells #[.int .i64 1, .int .i64 4, .int .i64 2, .int .i64 2, .int .i64 0] 26) = w2 := ⟨_, rfl⟩
  rw [hw2] at K2 M2 HFm
  have Hw2 := Lib.hid hw2
  clear k1 hb1 hbm HF HN hw2
  rw [Hms.out.1] at HFm
  go_wp2_with fail
  rw [Hw2.out]
  refine HFm.out.mono ?_
  rintro e w3 ⟨rfl, hS⟩
  have M3 := Lib.hid (M2.out.step hS)
  have K3 := Lib.hid hS.own
  have HP := kput_any κ HG.out.d HG.out.k hS.own F1.out (by decide) 2 wf2 m06
  rw [Hms.out.2.1] at HP
  have HPm := Lib.hid HP
  rw [show m06.val = .agg #[.int .i64 1, .int .i64 4, .int .i64 2, .int .i64 2, .int .i64 0] from rfl] at HPm
  clear hS HP HFm
  obtain ⟨⟨c0, c1, c2, c3, c4⟩, _⟩ := cells_five M3.out.blk
  go_wp2_with fail
  refine HPm.out.mono ?_
  rintro e w4 ⟨rfl, hS⟩
  have M4 := Lib.hid (M3.out.step hS)
  have HW := wipe_stp HG.out.d HG.out.s hS.own 3
  rw [Hms.out.2.2.1] at HW
  have HWm := Lib.hid HW
  clear hS HW HPm c0 c1 c2 c3 c4
  go_wp2_with fail
  refine HWm.out.mono ?_
  rintro e w5 ⟨rfl, hS⟩
  have M5 := Lib.hid (M4.out.step hS)
  have K5 := Lib.hid hS.own
  have HGt := kGet_any σ τ κ HG.out.c HG.out.u HG.out.d HG.out.k hS.own 2 wf2
  rw [Hms.out.2.2.2.1] at HGt
  have HGm := Lib.hid HGt
  rw [show m06.val = .agg #[.int .i64 1, .int .i64 4, .int .i64 2, .int .i64 2, .int .i64 0] from rfl] at HGm
  clear hS HGt HWm
  go_wp2_with fail
  refine HGm.out.mono ?_
  rintro e w6 ⟨rfl, hb6⟩
  have hb7 := hb6.trans ((below_new w6 (.cells #[.int .i64 1, .int .i64 4, .int .i64 2, .int .i64 2, .int .i64 0] 26)).mono hb6.size)
  have K7 := Lib.hid (K5.out.on hb7)
  have M7 := Lib.hid (M5.out.blk.below hb7 M5.out.blk.lt)
  have X7 := Lib.hid (BlockIs.made w6 26 #[.int .i64 1, .int .i64 4, .int .i64 2, .int .i64 2, .int .i64 0])
  have HHt := kGet_any σ τ κ HG.out.c HG.out.u HG.out.d HG.out.k K7.out 3 wf3
  rw [Hms.out.2.2.2.2.1] at HHt
  have HHm := Lib.hid HHt
  rw [show noMark.val = .agg #[.int .i64 0, .int .i64 0, .int .i64 0, .int .i64 0, .int .i64 0] from rfl] at HHm
  obtain ⟨w7, hw7⟩ : ∃ w7, w6.alloc (.cells #[.int .i64 1, .int .i64 4, .int .i64 2, .int .i64 2, .int .i64 0] 26) = w7 := ⟨_, rfl⟩
  rw [hw7] at K7 M7 X7 HHm
  have Hw7 := Lib.hid hw7
  clear hb6 hb7 HHt hw7 HGm K5 M5
  go_wp2_with fail
  rw [Hw7.out]
  refine HHm.out.mono ?_
  rintro e w8 ⟨rfl, hb8⟩
  have hb9 := hb8.trans ((below_new w8 (.cells #[.int .i64 0, .int .i64 0, .int .i64 0, .int .i64 0, .int .i64 0] 26)).mono hb8.size)
  have K9 := Lib.hid (K7.out.on hb9)
  have M9 := Lib.hid (M7.out.below hb9 M7.out.lt)
  have X9 := Lib.hid (X7.out.below hb9 X7.out.lt)
  have Y9 := Lib.hid (BlockIs.made w8 26 #[.int .i64 0, .int .i64 0, .int .i64 0, .int .i64 0, .int .i64 0])
  have HDt := kDamaged_any σ τ κ HG.out.c HG.out.u HG.out.d HG.out.k K9.out
  rw [Hms.out.2.2.2.2.2.1] at HDt
  have HDm := Lib.hid HDt
  obtain ⟨w9, hw9⟩ : ∃ w9, w8.alloc (.cells #[.int .i64 0, .int .i64 0, .int .i64 0, .int .i64 0, .int .i64 0] 26) = w9 := ⟨_, rfl⟩
  rw [hw9] at K9 M9 X9 Y9 HDm
  have Hw9 := Lib.hid hw9
  clear hb8 hb9 HDt hw9 HHm K7 M7 X7
  go_wp2_with fail
  rw [Hw9.out]
  refine HDm.out.mono ?_
  rintro e w10 ⟨v, rfl, ho, hb10⟩
  obtain ⟨g, cap, rfl, hg⟩ := own_form8 ho (by decide)
  have l0 : w10.cell? ⟨g, 0, none⟩ = some (.int .i64 3) := ho.cells (g := g) rfl 0 _ rfl
  have B10 := Lib.hid (K9.out.below.trans (hb10.mono K9.out.below.size))
  obtain ⟨⟨m0, m1, m2, m3, m4⟩, _⟩ := cells_five (M9.out.below hb10 M9.out.lt)
  obtain ⟨⟨x0, x1, x2, x3, x4⟩, _⟩ := cells_five (X9.out.below hb10 X9.out.lt)
  obtain ⟨⟨y0, y1, y2, y3, y4⟩, _⟩ := cells_five (Y9.out.below hb10 Y9.out.lt)
  clear ho hb10 HDm
  rw [show [(3 : Int)].length = 1 from rfl]
  go_wp2_with fail
  go_ret
  exact ⟨rfl, B10.out⟩
end Go.Proofs.YtpaikolnampcfaaGreatDoor
