/- The package seg's own errors, as they are laid, and their numbers; a fault that is panicked with. -/
/- seg.must, seg.tried: what is panicked with, and what is told of it. -/
/- Is an entry right? -/
import Derived.Test.YtpdfmpegcejmkaaGreatDoorSegAs
import Derived.WalkLawsBesides
import Derived.Defers
import Derived.Recover
import Derived.Test.YtpdfmpegcejmkaaGreatDoorCodeAdd
namespace Go.Proofs.YtpdfmpegcejmkaaGreatDoor
open Go.RowKit
/-- Where the package's own errors are. -/
structure SenQ where
  en : Addr
  sg : Addr
  mn : Addr
  od : Addr
  ix : Addr
  bd : Addr
  ft : Addr
def SenQ.has (σ : SenQ) (a : Addr) : Prop := a = σ.en ∨ a = σ.sg ∨ a = σ.mn ∨ a = σ.od ∨ a = σ.ix ∨ a = σ.bd ∨ a = σ.ft
structure GlQ (σ : SenQ) (w : World) : Prop where
  en : w.cell? ⟨9, 0, none⟩ = some (errK σ.en)
  od : w.cell? ⟨0, 0, none⟩ = some (errK σ.od)
  ix : w.cell? ⟨3, 0, none⟩ = some (errK σ.ix)
  bd : w.cell? ⟨1, 0, none⟩ = some (errK σ.bd)
  ft : w.cell? ⟨2, 0, none⟩ = some (errK σ.ft)
  ty : w.cell? ⟨10, 0, none⟩ = some (.iface 256 (.agg #[tyE]))
  there : ∀ a, σ.has a → There w a
  en_od : σ.en ≠ σ.od
  en_ix : σ.en ≠ σ.ix
  en_bd : σ.en ≠ σ.bd
  en_ft : σ.en ≠ σ.ft
  sg_od : σ.sg ≠ σ.od
  sg_ix : σ.sg ≠ σ.ix
  sg_bd : σ.sg ≠ σ.bd
  sg_ft : σ.sg ≠ σ.ft
  mn_od : σ.mn ≠ σ.od
  mn_ix : σ.mn ≠ σ.ix
  mn_bd : σ.mn ≠ σ.bd
  mn_ft : σ.mn ≠ σ.ft
  ix_od : σ.ix ≠ σ.od
  bd_od : σ.bd ≠ σ.od
  bd_ix : σ.bd ≠ σ.ix
  ft_od : σ.ft ≠ σ.od
  ft_ix : σ.ft ≠ σ.ix
  ft_bd : σ.ft ≠ σ.bd
theorem GlQ.below {σ : SenQ} {w w' : World} (h : GlQ σ w) (hb : Below w.heap.size w w') : GlQ σ w' :=
  ⟨cell_below h.en hb, cell_below h.od hb, cell_below h.ix hb, cell_below h.bd hb, cell_below h.ft hb, cell_below h.ty hb, fun a ha => (h.there a ha).below hb, h.en_od, h.en_ix, h.en_bd, h.en_ft, h.sg_od, h.sg_ix, h.sg_bd, h.sg_ft, h.mn_od, h.mn_ix, h.mn_bd, h.mn_ft, h.ix_od, h.bd_od, h.bd_ix, h.ft_od, h.ft_ix, h.ft_bd⟩
/-- Those two that a head and a foot alone reach. -/
structure GlM (σ : SenQ) (w : World) : Prop where
  sg : w.cell? ⟨5, 0, none⟩ = some (errK σ.sg)
  mn : w.cell? ⟨4, 0, none⟩ = some (errK σ.mn)
theorem GlM.below {σ : SenQ} {w w' : World} (h : GlM σ w) (hb : Below w.heap.size w w') : GlM σ w' := ⟨cell_below h.sg hb, cell_below h.mn hb⟩
/-- The number that is told of an error. -/
def SenQ.code (σ : SenQ) (a : Addr) : Int := if a = σ.od then 12 else if a = σ.ix then 4 else if a = σ.bd then 4 else if a = σ.ft then 5 else 2
/-- An error of the package's, of this number. -/
def GErr (σ : SenQ) (c : Int) (v : Value) : Prop := (∃ a, v = errK a ∧ σ.has a ∧ c = σ.code a) ∨ (c ≠ 0 ∧ v = gtoldV c)
/-- A panic with the fault of a number, of an error of the package's. -/
def Faults (σ : SenQ) (c : Int) (e : Ending) : Prop := ∃ n v, e = .panicked [{ v := gfaultV n v, recovered := false }] ∧ GErr σ c v
section
variable {σ : SenQ} {w : World}
theorem GlQ.err_en (h : GlQ σ w) : GErr σ 2 (errK σ.en) := .inl ⟨_, rfl, .inl rfl, by unfold SenQ.code; rw [if_neg h.en_od, if_neg h.en_ix, if_neg h.en_bd, if_neg h.en_ft]⟩
theorem GlQ.err_sg (h : GlQ σ w) : GErr σ 2 (errK σ.sg) := .inl ⟨_, rfl, .inr (.inl rfl), by unfold SenQ.code; rw [if_neg h.sg_od, if_neg h.sg_ix, if_neg h.sg_bd, if_neg h.sg_ft]⟩
theorem GlQ.err_mn (h : GlQ σ w) : GErr σ 2 (errK σ.mn) := .inl ⟨_, rfl, .inr (.inr (.inl rfl)), by unfold SenQ.code; rw [if_neg h.mn_od, if_neg h.mn_ix, if_neg h.mn_bd, if_neg h.mn_ft]⟩
theorem GlQ.err_od (_h : GlQ σ w) : GErr σ 12 (errK σ.od) := .inl ⟨_, rfl, .inr (.inr (.inr (.inl rfl))), by unfold SenQ.code; rw [if_pos rfl]⟩
theorem GlQ.err_ix (h : GlQ σ w) : GErr σ 4 (errK σ.ix) := .inl ⟨_, rfl, .inr (.inr (.inr (.inr (.inl rfl)))), by unfold SenQ.code; rw [if_neg h.ix_od, if_pos rfl]⟩
theorem GlQ.err_bd (h : GlQ σ w) : GErr σ 4 (errK σ.bd) := .inl ⟨_, rfl, .inr (.inr (.inr (.inr (.inr (.inl rfl))))), by unfold SenQ.code; rw [if_neg h.bd_od, if_neg h.bd_ix, if_pos rfl]⟩
theorem GlQ.err_ft (h : GlQ σ w) : GErr σ 5 (errK σ.ft) := .inl ⟨_, rfl, .inr (.inr (.inr (.inr (.inr (.inr (rfl)))))), by unfold SenQ.code; rw [if_neg h.ft_od, if_neg h.ft_ix, if_neg h.ft_bd, if_pos rfl]⟩
theorem GErr.ne {c : Int} {v : Value} (h : GErr σ c v) : c ≠ 0 := by
  rcases h with ⟨a, _, _, rfl⟩ | ⟨h, _⟩
  · unfold SenQ.code; split <;> (try split) <;> (try split) <;> (try split) <;> decide
  · exact h
end
set_option maxRecDepth 100000 in
set_option maxHeartbeats 4000000 in
theorem gerrno_any (σ : SenQ) (w : World) (hG : GlQ σ w) (n c : Int) (v : Value) (hv : GErr σ c v) :
    Calls Tryz.prog 71 #[gfaultV n v] w fun e w' => e = .returned (.int .i64 c) ∧ Below w.heap.size w w' := by
  have hbn := below_new w (.cells #[.int .i64 0] 152)
  have HG := Lib.hid (hG.below hbn)
  have Hk := Lib.hid hbn
  have HT := Lib.hid (BlockIs.made w 152 #[.int .i64 0])
  clear hbn hG
  rcases hv with ⟨a, rfl, ha, rfl⟩ | ⟨_, rfl⟩
  · have HM := Lib.hid (gas_miss n a w.heap.size _ HG.out.ty)
    have HA := Lib.hid ha
    have HS := Lib.hid (fun W b => gis_same n b W)
    have HO := Lib.hid (fun W b (h : a ≠ b) (h1 : There W a) (h2 : There W b) => gis_other n a b W h h1 h2)
    unfold gfaultV at *
    clear ha
    by_cases hod : a = σ.od
    · have hc : σ.code a = 12 := by unfold SenQ.code; rw [if_pos hod]
      rw [hc]
      have Hod := Lib.hid hod
      clear hc hod
      go_enter Tryz.func71, Tryz.ntmps71
      go_wp2_with fail
      generalize w.alloc (.cells #[.int .i64 0] 152) = w1 at *
      refine HM.out.mono ?_
      rintro e w2 ⟨rfl, b2⟩
      have B2 := Lib.hid b2
      clear b2 HM
      have g0 := (HG.out.below B2.out).od
      unfold errK at g0
      rw [← Hod.out] at g0
      go_wp2_with fail
      refine (HS.out _ _).mono ?_
      rintro e w3 ⟨rfl, b3⟩
      have B3 := Lib.hid (B2.out.trans (b3.mono B2.out.size))
      clear b3 g0
      go_wp2_with fail
      go_ret
      exact ⟨rfl, Hk.out.trans (B3.out.mono Hk.out.size)⟩
    · by_cases hix : a = σ.ix
      · have hc : σ.code a = 4 := by unfold SenQ.code; rw [if_neg hod, if_pos hix]
        rw [hc]
        have Hod := Lib.hid hod
        have Hix := Lib.hid hix
        clear hc hod hix
        go_enter Tryz.func71, Tryz.ntmps71
        go_wp2_with fail
        generalize w.alloc (.cells #[.int .i64 0] 152) = w1 at *
        refine HM.out.mono ?_
        rintro e w2 ⟨rfl, b2⟩
        have B2 := Lib.hid b2
        clear b2 HM
        have g0 := (HG.out.below B2.out).od
        unfold errK at g0
        go_wp2_with fail
        refine (HO.out _ _ Hod.out ((HG.out.below B2.out).there _ HA.out) ((HG.out.below B2.out).there _ (.inr (.inr (.inr (.inl rfl)))))).mono ?_
        rintro e w3 ⟨rfl, b3⟩
        have B3 := Lib.hid (B2.out.trans (b3.mono B2.out.size))
        clear b3 g0
        have g1 := (HG.out.below B3.out).ix
        unfold errK at g1
        rw [← Hix.out] at g1
        go_wp2_with fail
        refine (HS.out _ _).mono ?_
        rintro e w4 ⟨rfl, b4⟩
        have B4 := Lib.hid (B3.out.trans (b4.mono B3.out.size))
        clear b4 g1
        go_wp2_with fail
        go_ret
        exact ⟨rfl, Hk.out.trans (B4.out.mono Hk.out.size)⟩
      · by_cases hbd : a = σ.bd
        · have hc : σ.code a = 4 := by unfold SenQ.code; rw [if_neg hod, if_neg hix, if_pos hbd]
          rw [hc]
          have Hod := Lib.hid hod
          have Hix := Lib.hid hix
          have Hbd := Lib.hid hbd
          clear hc hod hix hbd
          go_enter Tryz.func71, Tryz.ntmps71
          go_wp2_with fail
          generalize w.alloc (.cells #[.int .i64 0] 152) = w1 at *
          refine HM.out.mono ?_
          rintro e w2 ⟨rfl, b2⟩
          have B2 := Lib.hid b2
          clear b2 HM
          have g0 := (HG.out.below B2.out).od
          unfold errK at g0
          go_wp2_with fail
          refine (HO.out _ _ Hod.out ((HG.out.below B2.out).there _ HA.out) ((HG.out.below B2.out).there _ (.inr (.inr (.inr (.inl rfl)))))).mono ?_
          rintro e w3 ⟨rfl, b3⟩
          have B3 := Lib.hid (B2.out.trans (b3.mono B2.out.size))
          clear b3 g0
          have g1 := (HG.out.below B3.out).ix
          unfold errK at g1
          go_wp2_with fail
          refine (HO.out _ _ Hix.out ((HG.out.below B3.out).there _ HA.out) ((HG.out.below B3.out).there _ (.inr (.inr (.inr (.inr (.inl rfl))))))).mono ?_
          rintro e w4 ⟨rfl, b4⟩
          have B4 := Lib.hid (B3.out.trans (b4.mono B3.out.size))
          clear b4 g1
          have g2 := (HG.out.below B4.out).bd
          unfold errK at g2
          rw [← Hbd.out] at g2
          go_wp2_with fail
          refine (HS.out _ _).mono ?_
          rintro e w5 ⟨rfl, b5⟩
          have B5 := Lib.hid (B4.out.trans (b5.mono B4.out.size))
          clear b5 g2
          go_wp2_with fail
          go_ret
          exact ⟨rfl, Hk.out.trans (B5.out.mono Hk.out.size)⟩
        · by_cases hft : a = σ.ft
          · have hc : σ.code a = 5 := by unfold SenQ.code; rw [if_neg hod, if_neg hix, if_neg hbd, if_pos hft]
            rw [hc]
            have Hod := Lib.hid hod
            have Hix := Lib.hid hix
            have Hbd := Lib.hid hbd
            have Hft := Lib.hid hft
            clear hc hod hix hbd hft
            go_enter Tryz.func71, Tryz.ntmps71
            go_wp2_with fail
            generalize w.alloc (.cells #[.int .i64 0] 152) = w1 at *
            refine HM.out.mono ?_
            rintro e w2 ⟨rfl, b2⟩
            have B2 := Lib.hid b2
            clear b2 HM
            have g0 := (HG.out.below B2.out).od
            unfold errK at g0
            go_wp2_with fail
            refine (HO.out _ _ Hod.out ((HG.out.below B2.out).there _ HA.out) ((HG.out.below B2.out).there _ (.inr (.inr (.inr (.inl rfl)))))).mono ?_
            rintro e w3 ⟨rfl, b3⟩
            have B3 := Lib.hid (B2.out.trans (b3.mono B2.out.size))
            clear b3 g0
            have g1 := (HG.out.below B3.out).ix
            unfold errK at g1
            go_wp2_with fail
            refine (HO.out _ _ Hix.out ((HG.out.below B3.out).there _ HA.out) ((HG.out.below B3.out).there _ (.inr (.inr (.inr (.inr (.inl rfl))))))).mono ?_
            rintro e w4 ⟨rfl, b4⟩
            have B4 := Lib.hid (B3.out.trans (b4.mono B3.out.size))
            clear b4 g1
            have g2 := (HG.out.below B4.out).bd
            unfold errK at g2
            go_wp2_with fail
            refine (HO.out _ _ Hbd.out ((HG.out.below B4.out).there _ HA.out) ((HG.out.below B4.out).there _ (.inr (.inr (.inr (.inr (.inr (.inl rfl)))))))).mono ?_
            rintro e w5 ⟨rfl, b5⟩
            have B5 := Lib.hid (B4.out.trans (b5.mono B4.out.size))
            clear b5 g2
            have g3 := (HG.out.below B5.out).ft
            unfold errK at g3
            rw [← Hft.out] at g3
            go_wp2_with fail
            refine (HS.out _ _).mono ?_
            rintro e w6 ⟨rfl, b6⟩
            have B6 := Lib.hid (B5.out.trans (b6.mono B5.out.size))
            clear b6 g3
            go_wp2_with fail
            go_ret
            exact ⟨rfl, Hk.out.trans (B6.out.mono Hk.out.size)⟩
          · have hc : σ.code a = 2 := by unfold SenQ.code; rw [if_neg hod, if_neg hix, if_neg hbd, if_neg hft]
            rw [hc]
            have Hod := Lib.hid hod
            have Hix := Lib.hid hix
            have Hbd := Lib.hid hbd
            have Hft := Lib.hid hft
            clear hc hod hix hbd hft
            go_enter Tryz.func71, Tryz.ntmps71
            go_wp2_with fail
            generalize w.alloc (.cells #[.int .i64 0] 152) = w1 at *
            refine HM.out.mono ?_
            rintro e w2 ⟨rfl, b2⟩
            have B2 := Lib.hid b2
            clear b2 HM
            have g0 := (HG.out.below B2.out).od
            unfold errK at g0
            go_wp2_with fail
            refine (HO.out _ _ Hod.out ((HG.out.below B2.out).there _ HA.out) ((HG.out.below B2.out).there _ (.inr (.inr (.inr (.inl rfl)))))).mono ?_
            rintro e w3 ⟨rfl, b3⟩
            have B3 := Lib.hid (B2.out.trans (b3.mono B2.out.size))
            clear b3 g0
            have g1 := (HG.out.below B3.out).ix
            unfold errK at g1
            go_wp2_with fail
            refine (HO.out _ _ Hix.out ((HG.out.below B3.out).there _ HA.out) ((HG.out.below B3.out).there _ (.inr (.inr (.inr (.inr (.inl rfl))))))).mono ?_
            rintro e w4 ⟨rfl, b4⟩
            have B4 := Lib.hid (B3.out.trans (b4.mono B3.out.size))
            clear b4 g1
            have g2 := (HG.out.below B4.out).bd
            unfold errK at g2
            go_wp2_with fail
            refine (HO.out _ _ Hbd.out ((HG.out.below B4.out).there _ HA.out) ((HG.out.below B4.out).there _ (.inr (.inr (.inr (.inr (.inr (.inl rfl)))))))).mono ?_
            rintro e w5 ⟨rfl, b5⟩
            have B5 := Lib.hid (B4.out.trans (b5.mono B4.out.size))
            clear b5 g2
            have g3 := (HG.out.below B5.out).ft
            unfold errK at g3
            go_wp2_with fail
            refine (HO.out _ _ Hft.out ((HG.out.below B5.out).there _ HA.out) ((HG.out.below B5.out).there _ (.inr (.inr (.inr (.inr (.inr (.inr (rfl))))))))).mono ?_
            rintro e w6 ⟨rfl, b6⟩
            have B6 := Lib.hid (B5.out.trans (b6.mono B5.out.size))
            clear b6 g3
            go_wp2_with fail
            go_ret
            exact ⟨rfl, Hk.out.trans (B6.out.mono Hk.out.size)⟩
  · have HA := Lib.hid (gas_hit n c 0 w.heap.size _ HG.out.ty HT.out)
    unfold gfaultV gtoldV at *
    go_enter Tryz.func71, Tryz.ntmps71
    go_wp2_with fail
    refine HA.out.mono ?_
    rintro e w2 ⟨rfl, hB2, hg2⟩
    have hb2 := Lib.hid (below_grown Hk.out hg2 Hk.out.size (Nat.le_refl _))
    have d0 : w2.cell? ⟨w.heap.size, 0, none⟩ = some (.int .i64 c) := hB2.cell 0
    clear hB2 hg2 HA
    go_wp2_with fail
    go_ret
    exact ⟨rfl, hb2.out⟩
end Go.Proofs.YtpdfmpegcejmkaaGreatDoor
namespace Go.Proofs.YtpdfmpegcejmkaaGreatDoor
open Go.RowKit
set_option maxRecDepth 100000 in
theorem gmust_nil (n : Int) (w : World) : Calls Tryz.prog 72 #[.int .i64 n, .nilIface] w fun e w' => e = .returned (.tuple #[]) ∧ w = w' := by
  go_enter Tryz.func72, Tryz.ntmps72
  go_wp2_with fail
  go_end0
  exact ⟨rfl, rfl⟩
set_option maxRecDepth 100000 in
theorem gmust_err (σ : SenQ) (n c : Int) (v : Value) (hv : GErr σ c v) (w : World) : Calls Tryz.prog 72 #[.int .i64 n, v] w fun e w' => e = .panicked [{ v := gfaultV n v, recovered := false }] ∧ w = w' := by
  obtain ⟨t, x, rfl⟩ : ∃ t x, v = .iface t x := by rcases hv with ⟨a, rfl, _⟩ | ⟨_, rfl⟩ <;> exact ⟨_, _, rfl⟩
  clear hv
  go_enter Tryz.func72, Tryz.ntmps72
  go_wp2_with fail
  exact ⟨rfl, rfl, rfl⟩
theorem bodyPostS_end {P : Program} {fn : Func} {c₀ : Frame} {cs : List Frame} {R : Ending → FrameMode → World → Prop} {a : Act} {w : World} {v : Value} {u' : FrameMode}
    (hv : (results fn a.tmps).run P w = .ok v w) (hd : a.defers = []) (hR : R (.returned v) u' w) : bodyPostS P fn c₀ cs R .normal a ({ c₀ with mode := u' } :: cs) w :=
  ⟨hd, u', rfl, v, hv, hR⟩
theorem gassert (x : Value) (w : World) : (Instr.typeAssert (.iface 108 x) 20 108 true).run Tryz.prog w = .ok (.tuple #[x, .bool true]) w := by kernel_rfl
set_option maxRecDepth 100000 in
theorem gcatch_idle (p : Addr) (w : World) :
    CallsD Tryz.prog 70 #[.pointer (some p)] .returning w fun e u' w' => e = .returned (.tuple #[]) ∧ u' = .returning ∧ w' = w := by
  refine callsD_of_wpS Tryz.func70 rfl fun c₀ cs hu => ?_
  have hc : ({ c₀ with mode := .returning } : Frame) = c₀ := by cases c₀; simp_all
  simp only [Tryz.ntmps70, List.size_toArray, List.length_cons, List.length_nil, Nat.reduceAdd, Nat.reduceSub, Array.replicate_succ, Array.replicate_zero, List.push_toArray, List.append_toArray, List.nil_append, List.cons_append]
  apply wpS_seq
  apply wpS_region
  simp [wpOpsS, go_sem, recoverD, hu, Exit.thenS]
  refine wpS_of_wp ?_
  rw [← hc]
  go_wp2_with fail
  exact bodyPostS_end (results_none rfl _ _ _) rfl ⟨rfl, rfl, rfl⟩
set_option maxRecDepth 100000 in
set_option maxHeartbeats 1000000 in
theorem gcatch_any (σ : SenQ) (p : Nat) (n c : Int) (v x : Value) (w : World) (hG : GlQ σ w) (hp : BlockIs w p 35 #[x]) (hv : GErr σ c v) :
    CallsD Tryz.prog 70 #[.pointer (some ⟨p, 0, none⟩)] (.panicking [{ v := gfaultV n v, recovered := false }]) w fun e u' w' => e = .returned (.tuple #[]) ∧ u' = .panicking [{ v := gfaultV n v, recovered := true }] ∧ BlockIs w' p 35 #[.int .i64 c] ∧ w.grownBy w' (some p) := by
  have ha := gassert
  have HE := Lib.hid (fun W (h : GlQ σ W) => gerrno_any σ W h n c v hv)
  have HG := Lib.hid hG
  have HP := Lib.hid hp
  obtain ⟨u, y, rfl⟩ : ∃ u y, v = .iface u y := by rcases hv with ⟨a, rfl, _⟩ | ⟨_, rfl⟩ <;> exact ⟨_, _, rfl⟩
  clear hG hp hv
  unfold gfaultV at *
  refine callsD_of_wpS Tryz.func70 rfl fun c₀ cs hu => ?_
  simp only [Tryz.ntmps70, List.size_toArray, List.length_cons, List.length_nil, Nat.reduceAdd, Nat.reduceSub, Array.replicate_succ, Array.replicate_zero, List.push_toArray, List.append_toArray, List.nil_append, List.cons_append]
  apply wpS_seq
  apply wpS_region
  simp [wpOpsS, go_sem, recoverD, hu, Exit.thenS]
  refine wpS_of_wp ?_
  go_wp2_with fail
  have hb1 := below_new w (.cells #[.int .i64 n, .iface u y] 108)
  refine (HE.out _ (HG.out.below hb1)).mono ?_
  rintro e w2 ⟨rfl, b2⟩
  have hb2 := hb1.trans (b2.mono hb1.size)
  have P2 := HP.out.below hb2 HP.out.lt
  have c0 : w2.cell? ⟨p, 0, none⟩ = some x := P2.cell 0
  have f0 := P2.free 0
  have PZ := Lib.hid (P2.set1 0 (.int .i64 c))
  have GZ := Lib.hid (grown_at (grown_below hb2 (some p)) 0 (.int .i64 c))
  clear hb1 b2 hb2 P2 HE HP HG
  go_wp2_with fail
  exact bodyPostS_end (results_none rfl _ _ _) rfl ⟨rfl, rfl, PZ.out, GZ.out⟩
set_option maxRecDepth 100000 in
set_option maxHeartbeats 1000000 in
/-- What is done by a closure is told, by its number, if it panics with a fault. -/
theorem tried_any (σ : SenQ) (w : World) (F : FuncId) (cap : Array Value) (hcall : ∀ w, (callFunc F cap).run Tryz.prog w = .ok (.enter F cap) w) (row : Option Nat) (hrow : ∀ b, row = some b → b < w.heap.size) (Q : Int → World → Prop)
    (hdo : ∀ w1, Below w.heap.size w w1 → w.heap.size < w1.heap.size → Calls Tryz.prog F cap w1 fun e w2 => ∃ c, ((c = 0 ∧ e = .returned (.tuple #[])) ∨ Faults σ c e) ∧ w1.grownBy w2 row ∧ GlQ σ w2 ∧ Q c w2) :
    Calls Tryz.prog 38 #[.func (.func F) #[] cap] w fun e w' => ∃ c w2, e = .returned (.int .i64 c) ∧ Q c w2 ∧ w.grownBy w2 row ∧ w2.grownBy w' (some w.heap.size) ∧ w.heap.size < w2.heap.size := by
  have hmf : ∀ (fn : Fn) (first cap : Array Value) (w : World), (Instr.makeFunc fn first cap).run Tryz.prog w = .ok (.func fn first cap) w := fun _ _ _ _ => rfl
  have HD := Lib.hid (hdo _ (below_new w (.cells #[.int .i64 0] 35)) (by simp))
  have HB := Lib.hid (BlockIs.made w 35 #[.int .i64 0])
  have HN := Lib.hid (below_new w (.cells #[.int .i64 0] 35))
  have HS := Lib.hid (show (w.alloc (.cells #[.int .i64 0] 35)).heap.size = w.heap.size + 1 by simp)
  have HR := Lib.hid hrow
  clear hdo hrow
  go_enter_defers Tryz.func38, Tryz.ntmps38
  go_wp2_with fail
  refine HD.out.mono ?_
  rintro e w2 ⟨c, he, hg2, hG2, hQ⟩
  have P2 := HB.out.kept hg2 (fun e => by have := HR.out _ e.symm; omega)
  have W2 := Lib.hid (show w.grownBy w2 row from (grown_below HN.out row).trans hg2)
  have L2 := Lib.hid (show w.heap.size < w2.heap.size by have := hg2.size; have := HS.out; omega)
  have HQ := Lib.hid hQ
  have HP := Lib.hid P2
  have HG := Lib.hid hG2
  clear hg2 hG2 hQ P2 HD
  rcases he with ⟨rfl, rfl⟩ | ⟨n, v, rfl, hv⟩
  · have c0 : w2.cell? ⟨w.heap.size, 0, none⟩ = some (.int .i64 0) := HP.out.cell 0
    have f0 := HP.out.free 0
    have PZ := HP.out.set1 0 (.int .i64 0)
    have GZ := Lib.hid (grown_at (World.grownBy.refl w2 (some w.heap.size)) 0 (.int .i64 0))
    go_wp2_with fail
    generalize w2.setCell ⟨w.heap.size, 0, none⟩ (.int .i64 0) = w3 at *
    have z0 : w3.cell? ⟨w.heap.size, 0, none⟩ = some (.int .i64 0) := PZ.cell 0
    refine leaves_cons (f := 70) (args := #[.pointer (some ⟨w.heap.size, 0, none⟩)]) (by simp) (by simp [go_sem]) ?_
    refine (gcatch_idle ⟨w.heap.size, 0, none⟩ _).mono ?_
    rintro e u' w4 ⟨rfl, rfl, rfl⟩
    simp [Leaves, settle, results, Tryz.results38, go_sem, z0]
    exact ⟨w2, HQ.out, W2.out, GZ.out, L2.out⟩
  · have HV := Lib.hid hv
    clear hv
    go_wp2_with fail
    refine leaves_cons (f := 70) (args := #[.pointer (some ⟨w.heap.size, 0, none⟩)]) (by simp) (by simp [go_sem]) ?_
    refine (gcatch_any σ w.heap.size n c v _ w2 HG.out HP.out HV.out).mono ?_
    rintro e u' w4 ⟨rfl, rfl, p4, g4⟩
    have z0 : w4.cell? ⟨w.heap.size, 0, none⟩ = some (.int .i64 c) := p4.cell 0
    simp [Leaves, settle, results, Tryz.results38, go_sem, z0]
    exact ⟨w2, HQ.out, W2.out, g4, L2.out⟩
end Go.Proofs.YtpdfmpegcejmkaaGreatDoor
namespace Go.Proofs.YtpdfmpegcejmkaaGreatDoor
open Go.RowKit
set_option maxRecDepth 100000 in
set_option maxHeartbeats 1000000 in
theorem right_any (w : World) (e : Ent) (A : Option Addr) (c : Nat) (hl : e.body.length ≤ 9223372036854775807) :
    Calls Tryz.prog 25 #[.agg #[.int .i64 e.index, .int .i64 e.term, .int .i64 e.kind, .slice A e.body.length c]] w fun r w' => r = .returned (.bool (rightB e)) ∧ Below w.heap.size w w' := by
  obtain ⟨x, t, k, body⟩ := e
  simp only at hl ⊢
  have hn := below_new w (.cells #[.int .i64 x, .int .i64 t, .int .i64 k, .slice A body.length c] 50)
  by_cases hk : 1 ≤ k ∧ k ≤ 3
  · go_enter Tryz.func25, Tryz.ntmps25
    go_wp2
    all_goals
      go_ret
      refine ⟨ret_bool ?_, hn⟩
      simp only [beq_iff_eq] at *
      unfold rightB
      first | exact (decide_eq_false (by simp only; omega)).symm | (rw [decide_eq_decide]; simp only; omega)
  · go_enter Tryz.func25, Tryz.ntmps25
    go_wp2
    all_goals
      go_ret
      refine ⟨ret_bool ?_, hn⟩
      unfold rightB
      first | exact (decide_eq_false (by simp only; omega)).symm | (rw [decide_eq_decide]; simp only; omega)
end Go.Proofs.YtpdfmpegcejmkaaGreatDoor
