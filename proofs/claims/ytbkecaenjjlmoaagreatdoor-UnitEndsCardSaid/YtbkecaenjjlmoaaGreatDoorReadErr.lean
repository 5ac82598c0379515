/- A reader's error. -/
import Derived.Test.YtbkecaenjjlmoaaGreatDoorReadAs
import Derived.Test.YtbkecaenjjlmoaaGreatDoorReadIs
import Derived.Deep.RegionHeld3
namespace Go.Proofs.YtbkecaenjjlmoaaGreatDoor
open Go.RowKit
def errCode (l : Bool) : Int := if l then 3 else 4
theorem Env.drew {σ : Sen} {w0 w : World} {g : Nat} (h : Env σ w0 g w) : Env σ w0 g w.drew := ⟨h.gl, h.bl.drew, h.lo⟩
set_option maxRecDepth 100000 in
theorem cerrno_any (σ : Sen) (w0 w : World) (g : Nat) (pos : Int) (a : Addr) (long : Bool) (hE : Env σ w0 g w) (ha : σ.has a) (hlong : long = true ↔ a = σ.mu) :
    Calls Tryz.prog 98 #[.agg #[.int .i64 pos, .iface 230 (.pointer (some a))]] w fun e w' => e = .returned (.int .i64 (errCode long)) ∧ Below w.heap.size w w' := by
  have hbn := below_new w (.cells #[.int .i64 pos, .iface 230 (.pointer (some a))] 193)
  have hE1 := hE.below hbn
  have cm := hE1.at_.mu
  have hta := hE1.at_.there a ha
  have htm := hE1.at_.there σ.mu (.inr (.inr (.inr (.inl rfl))))
  unfold errV at cm
  clear hE hE1
  cases hl : long with
  | true =>
    have e : a = σ.mu := hlong.1 hl
    clear hlong
    subst hl e
    go_enter Tryz.func98, Tryz.ntmps98
    go_wp2_with fail
    refine (cis_same pos σ.mu _).mono ?_
    rintro e w2 ⟨rfl, hb2⟩
    go_wp2_with fail
    go_ret
    exact ⟨rfl, hbn.trans (hb2.mono hbn.size)⟩
  | false =>
    have hne : a ≠ σ.mu := fun e => by rw [hlong.2 e] at hl; cases hl
    clear hlong
    subst hl
    have HI := Lib.hid (cis_other pos a σ.mu _ hne hta htm)
    clear hta htm
    go_enter Tryz.func98, Tryz.ntmps98
    go_wp2_with fail
    refine HI.out.mono ?_
    rintro e w2 ⟨rfl, hb2⟩
    go_wp2_with fail
    go_ret
    exact ⟨rfl, hbn.trans (hb2.mono hbn.size)⟩
def errPos : RSt → Int
  | .ok _ => 0
  | .bad p _ => p
def errNo : RSt → Int
  | .ok _ => 0
  | .bad _ l => errCode l
theorem rerr_nil (w : World) :
    Calls Tryz.prog 65 #[.pointer none] w fun e w' => e = .returned (.tuple #[.int .i64 0, .int .i64 1]) ∧ w = w' := by
  go_enter Tryz.func65, Tryz.ntmps65
  go_wp2
  go_ret2
  exact ⟨rfl, rfl⟩
set_option maxRecDepth 100000 in
set_option maxHeartbeats 2000000 in
theorem rerr_any (σ : Sen) (w0 w : World) (g : Nat) (bs : List Int) (s : RSt) (h : RdAt σ w g bs s) (hE : Env σ w0 g w) :
    Calls Tryz.prog 65 #[.pointer (some ⟨g, 0, none⟩)] w fun e w' => e = .returned (.tuple #[.int .i64 (errPos s), .int .i64 (errNo s)]) ∧ Below w.heap.size w w' := by
  obtain ⟨x, cap, k, ev, hI⟩ := h
  obtain ⟨c0, c1, c2, c3⟩ := reader_cells hI.blk
  have hgl := hI.blk.lt
  have hbn := below_new w (.cells #[.int .i64 0, .nilIface] 193)
  have hB := BlockIs.made w 193 #[.int .i64 0, .nilIface]
  have hsz : (w.alloc (.cells #[.int .i64 0, .nilIface] 193)).heap.size = w.heap.size + 1 := by simp
  have d3 := cell_below c3 hbn
  have hE1 := hE.below hbn
  cases s with
  | ok j =>
    obtain ⟨rfl, rfl⟩ := hI.err
    have Hk := Lib.hid (And.intro hB (And.intro hbn hsz))
    clear hI c0 c1 hB hE hE1 hbn hsz
    go_enter Tryz.func65, Tryz.ntmps65
    go_wp2_with fail
    refine (as_nil _ _).mono ?_
    rintro e w' ⟨rfl, rfl⟩
    go_wp2_with fail
    go_ret2
    exact ⟨rfl, Hk.out.2.1⟩
  | bad pos long =>
    obtain ⟨a, rfl, ha, hlong⟩ := hI.err
    unfold faultV errV at *
    have HA := Lib.hid (as_hit pos a w.heap.size (.int .i64 0) .nilIface _ hE1.at_.ty hB)
    have Hk := Lib.hid (And.intro hB (And.intro hbn hsz))
    have HE := Lib.hid hE1
    clear hI c0 c1 hB hE hE1 hbn hsz
    go_enter Tryz.func65, Tryz.ntmps65
    go_wp2_with fail
    clear c2 c3 d3
    generalize w.alloc (.cells #[.int .i64 0, .nilIface] 193) = w1 at *
    refine HA.out.mono ?_
    rintro e w2 ⟨rfl, hB2, hg2⟩
    have hE2 : Env σ w0 g w2 := ⟨HE.out.gl, below_grown HE.out.bl hg2 HE.out.bl.size (by have := HE.out.lo; omega), HE.out.lo⟩
    have hb2 : Below w.heap.size w w2 := below_grown Hk.out.2.1 hg2 Hk.out.2.1.size (Nat.le_refl _)
    have HB2 := Lib.hid hB2
    have Hhl := Lib.hid hlong
    clear hB2 hlong
    go_wp2_with fail
    have d0 : w2.cell? ⟨w.heap.size, 0, none⟩ = some (.int .i64 (pos : Int)) := HB2.out.cell 0
    have d1 : w2.cell? ⟨w.heap.size, 1, none⟩ = some (.iface 230 (.pointer (some a))) := HB2.out.cell 1
    have hk3 : ∀ w3, Below w2.heap.size w2 w3 → w3.cell? ⟨w.heap.size, 0, none⟩ = some (.int .i64 (pos : Int)) ∧ w3.cell? ⟨w.heap.size, 1, none⟩ = some (.iface 230 (.pointer (some a))) := fun w3 hb3 => ⟨cell_below d0 hb3, cell_below d1 hb3⟩
    have Hk3 := Lib.hid hk3
    clear hk3
    go_region_held3 (fun w' => w'.cell? ⟨w.heap.size, 0, none⟩ = some (.int .i64 (pos : Int)) ∧ w'.cell? ⟨w.heap.size, 1, none⟩ = some (.iface 230 (.pointer (some a)))) (first | exact ⟨d0, d1⟩ | exact ⟨k1, k2⟩)
      (first | (go_at_call 98; (with_reducible refine (cerrno_any σ w0 _ g pos a long ?_ ha Hhl.out).mono ?_); (first | exact hE2 | exact hE2.drew); rintro e w3 ⟨rfl, hb3'⟩; have hb3 : Below w2.heap.size w2 w3 := (by first | exact hb3' | exact undrew hb3'); have k1 := (Hk3.out w3 hb3).1; have k2 := (Hk3.out w3 hb3).2))
    all_goals
      go_wp2_with fail
      go_ret2
      exact ⟨rfl, hb2.trans (hb3.mono hb2.size)⟩
end Go.Proofs.YtbkecaenjjlmoaaGreatDoor
