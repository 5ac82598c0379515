/- UnitOpens: the law's walk. -/
/- UnitEnds: what its walk needs. -/
import Derived.Test.YtbkecaenjjlmoaaGreatDoorLaw04Base
import Derived.Test.YtbkecaenjjlmoaaGreatDoorRef4Open
import Derived.Test.YtbkecaenjjlmoaaGreatDoorKitThree
import Derived.Test.YtbkecaenjjlmoaaGreatDoorKitC
import Derived.Deep.RegionHeld3
import Derived.IntWalk
import Derived.BigRegion
import Derived.ArgAppend
namespace Go.Proofs.YtbkecaenjjlmoaaGreatDoor
open Go.RowKit
theorem lent_to {w w' : World} {v : Value} {zs : List Int} (h : LentAt w v zs) (hb : Below w.heap.size w w') : LentAt w' v zs := by
  obtain ⟨g, cap, cs, rfl, h1, h2, h3, h4, h5⟩ := h
  exact ⟨g, cap, cs, rfl, h1, h2, (hb.block g (Array.getElem?_eq_some_iff.1 h3).1).trans h3, h4, h5⟩
theorem lent_reads {w : World} {g cap : Nat} {zs : List Int} (h : LentAt w (.slice (some ⟨g, 0, none⟩) zs.length cap) zs) : BytesAt w (some ⟨g, 0, none⟩) zs := by
  obtain ⟨g', cap', cs, e, h1, h2, h3, h4, h5⟩ := h
  obtain ⟨rfl, rfl⟩ : g = g' ∧ cap = cap' := by simpa using e
  refine bytesAt_cells h5 (fun i hi => ?_)
  rw [cell_of_row _ _ _ _ _ _ h3, Nat.zero_add]
  have h6 : (cs.toList.take (zs.length + 12))[i]? = cs[i]? := by
    rw [List.getElem?_take_of_lt (by omega)]; simp
  rw [← h6, h4]
  unfold u8s
  rw [List.getElem?_map, List.getElem?_append_left hi, List.getD_eq_getElem?_getD, List.getElem?_eq_getElem hi]; rfl
theorem open_facts {b : List Int} (hb : ∀ z ∈ b, 0 ≤ z ∧ z < 256) : (∀ z ∈ (openB b).1.body, 0 ≤ z ∧ z < 256) ∧ (openB b).1.body.length ≤ 239 := by
  by_cases h : (openB b).2 = 0
  · refine ⟨fun z hz => ?_, (open_some h).1.2.2⟩
    have h3 : (openB b).1.body = (unitOf b).body := by
      unfold openB at h ⊢
      split at h
      · exact absurd h (by decide)
      · next h5 =>
        rw [if_neg h5]
        split at h
        · exact absurd h (by decide)
        · next h6 =>
          rw [if_neg h6]
          split at h
          · next h7 => rw [if_pos h7]
          · exact absurd h (by decide)
    rw [h3] at hz
    have hz := List.mem_of_mem_take hz
    rcases List.mem_append.1 hz with h | h
    · exact hb z (List.mem_of_mem_drop (List.mem_of_mem_take h))
    · exact hb z (List.mem_of_mem_drop (List.mem_of_mem_take h))
  · rw [open_else h]
    exact ⟨(fun z hz => by cases hz), Nat.zero_le _⟩
theorem as_facts {b : List Int} (hb : ∀ z ∈ b, 0 ≤ z ∧ z < 256) (k n : Int) : (∀ z ∈ (asB b k n).1, 0 ≤ z ∧ z < 256) ∧ (asB b k n).1.length ≤ 239 := by
  unfold asB
  split
  · exact ⟨(fun z hz => by cases hz), Nat.zero_le _⟩
  · split
    · exact ⟨(fun z hz => by cases hz), Nat.zero_le _⟩
    · exact open_facts hb
/-- Both units' cells. -/
def Box2 (p q : Nat) (u : UnitV) (X Y : Option Addr) (k j : Nat) (w : World) : Prop :=
  w.cell? ⟨p, 0, none⟩ = some (.int .i64 u.kind) ∧ w.cell? ⟨p, 1, none⟩ = some (.int .i64 u.num) ∧ w.cell? ⟨p, 2, none⟩ = some (.slice X u.body.length k) ∧ w.cell? ⟨q, 0, none⟩ = some (.int .i64 u.kind) ∧ w.cell? ⟨q, 1, none⟩ = some (.int .i64 u.num) ∧ w.cell? ⟨q, 2, none⟩ = some (.slice Y u.body.length j)
theorem Box2.below {p q : Nat} {u : UnitV} {X Y : Option Addr} {k j : Nat} {w w' : World} (h : Box2 p q u X Y k j w) (hb : Below w.heap.size w w') : Box2 p q u X Y k j w' := by
  obtain ⟨h1, h2, h3, h4, h5, h6⟩ := h
  exact ⟨cell_below h1 hb, cell_below h2 hb, cell_below h3 hb, cell_below h4 hb, cell_below h5 hb, cell_below h6 hb⟩
theorem Box2.blocks {p q : Nat} {u : UnitV} {X Y : Option Addr} {k j : Nat} {w w' : World} (h : Box2 p q u X Y k j w) (hp : w'.heap[p]? = w.heap[p]?) (hq : w'.heap[q]? = w.heap[q]?) : Box2 p q u X Y k j w' := by
  obtain ⟨h1, h2, h3, h4, h5, h6⟩ := h
  have k1 := fun i => World.cell?_of_block (a := ⟨p, i, none⟩) hp
  have k2 := fun i => World.cell?_of_block (a := ⟨q, i, none⟩) hq
  exact ⟨(k1 0).trans h1, (k1 1).trans h2, (k1 2).trans h3, (k2 0).trans h4, (k2 1).trans h5, (k2 2).trans h6⟩
set_option maxRecDepth 100000 in
set_option maxHeartbeats 32000000 in
theorem unitOpens_gen (σ : Sen) (τ : SenU) (w : World) (hC : GlAt σ w) (hU : GlU τ w) (A : Option Addr) (b : List Int) (c : Nat) (hb : BytesAt w A b) (hbc : b.length ≤ c) (hm : c ≤ 9223372036854775807) (hA0 : A = none → c = 0) (kd num : Int) :
    Calls Tryz.prog 3 #[.slice A b.length c, .int .i64 kd, .int .i64 num] w fun e w' => e = .returned (.bool true) ∧ Below w.heap.size w w' := by
  have HG := Lib.hid (show GlAt σ w ∧ GlU τ w ∧ BytesAt w A b from ⟨hC, hU, hb⟩)
  by_cases hlen : 5000 < b.length
  · have hli : (5000 : Int) < (b.length : Int) := by omega
    have HA := Lib.hid (awake_any σ τ w hC hU)
    clear hC hU hb
    go_enter Tryz.func3, Tryz.ntmps3
    go_wp2_with fail
    refine HA.out.mono ?_
    rintro e w1 ⟨rfl, hb1⟩
    have B1 := Lib.hid hb1
    clear hb1
    go_wp2_with fail
    go_ret
    exact ⟨rfl, B1.out⟩
  · have hli : ¬ (5000 : Int) < (b.length : Int) := by omega
    have HLn := Lib.hid (lentBytes_any b A c w hb (by omega) hA0)
    have Hop := Lib.hid (fun w A c hb hbc hm hC hU => uopen_any σ τ w hC hU A b c hb hbc hm)
    have Hro := Lib.hid (fun w A c hb hbc hm => ropen_any w A b c hb hbc hm)
    have Has := Lib.hid (fun w A c hb hbc hm hC hU => uas_any σ τ w hC hU A b c hb hbc hm kd num)
    have Hra := Lib.hid (fun w A c hb hbc hm => ras_any w A b c hb hbc hm kd num)
    have Hof := Lib.hid (open_facts hb.1)
    have Haf := Lib.hid (as_facts hb.1 kd num)
    obtain ⟨r, hop⟩ : ∃ r, openB b = r := ⟨_, rfl⟩
    rw [hop] at Hop Hro Hof
    obtain ⟨u, code⟩ := r
    obtain ⟨a, has⟩ : ∃ a, asB b kd num = a := ⟨_, rfl⟩
    rw [has] at Has Hra Haf
    obtain ⟨ys, ac⟩ := a
    have Hc := Lib.hid (show b.length ≤ c ∧ c ≤ 9223372036854775807 ∧ b.length ≤ 5000 from ⟨hbc, by omega, by omega⟩)
    unfold UnitV.val at *
    clear hC hU hb hbc hm hA0 hop has hlen
    go_enter Tryz.func3, Tryz.ntmps3
    go_wp2_with fail
    refine HLn.out.mono ?_
    rintro e w1 ⟨v, rfl, hL, hb1⟩
    obtain ⟨g, cap, cs, rfl, x1, x2, x3, x4, x5⟩ := hL
    have HL := Lib.hid (show LentAt w1 (.slice (some ⟨g, 0, none⟩) b.length cap) b from ⟨g, cap, cs, rfl, x1, x2, x3, x4, x5⟩)
    have HZ := Lib.hid (lent_reads HL.out)
    have Hcap := Lib.hid (show b.length ≤ cap ∧ cap ≤ 9223372036854775807 from ⟨by omega, by omega⟩)
    have B1 := Lib.hid hb1
    clear HLn hb1 x1 x2 x3 x4 x5
    go_wp2_with fail
    refine (Hop.out w1 (some ⟨g, 0, none⟩) cap HZ.out Hcap.out.1 Hcap.out.2 (HG.out.1.below B1.out) (HG.out.2.1.below B1.out)).mono ?_
    rintro e w2 ⟨X, k, rfl, ho2, hb2⟩
    have hb3 := below_new w2 (.cells #[.int .i64 u.kind, .int .i64 u.num, .slice X u.body.length k] 27)
    have P3 := Lib.hid (row3_cells w2 (.int .i64 u.kind) (.int .i64 u.num) (.slice X u.body.length k) 27)
    obtain ⟨w3, hw3⟩ : ∃ w3, w2.alloc (.cells #[.int .i64 u.kind, .int .i64 u.num, .slice X u.body.length k] 27) = w3 := ⟨_, rfl⟩
    have hs3 : w3.heap.size = w2.heap.size + 1 := by rw [← hw3, World.size_alloc]
    rw [hw3] at hb3 P3
    have B3 := Lib.hid (hb2.trans (hb3.mono hb2.size))
    have O2 := Lib.hid (And.intro ho2 (And.intro hb2 (And.intro hb3 hs3)))
    have Hw3 := Lib.hid hw3
    clear hb2 hb3 ho2 hw3 hs3
    go_wp2_with fail
    rw [Hw3.out]
    refine (Hro.out w3 A c (HG.out.2.2.below (B1.out.trans (B3.out.mono B1.out.size))) Hc.out.1 Hc.out.2.1).mono ?_
    rintro e w4 ⟨Y, j, rfl, ho4, hb4⟩
    have hb5 := below_new w4 (.cells #[.int .i64 u.kind, .int .i64 u.num, .slice Y u.body.length j] 27)
    have P5 := Lib.hid (row3_cells w4 (.int .i64 u.kind) (.int .i64 u.num) (.slice Y u.body.length j) 27)
    obtain ⟨w5, hw5⟩ : ∃ w5, w4.alloc (.cells #[.int .i64 u.kind, .int .i64 u.num, .slice Y u.body.length j] 27) = w5 := ⟨_, rfl⟩
    have hs5 : w5.heap.size = w4.heap.size + 1 := by rw [← hw5, World.size_alloc]
    rw [hw5] at hb5 P5
    have B35 := Lib.hid (hb4.trans (hb5.mono hb4.size))
    have B5 := Lib.hid (B3.out.trans (B35.out.mono B3.out.size))
    have O4 := Lib.hid (And.intro ho4 (And.intro hb4 (And.intro hb5 hs5)))
    have Q5 : Hid (Box2 w2.heap.size w4.heap.size u X Y k j w5) := Lib.hid ⟨cell_below P3.out.1 B35.out, cell_below P3.out.2.1 B35.out, cell_below P3.out.2.2 B35.out, P5.out.1, P5.out.2.1, P5.out.2.2⟩
    have Hw5 := Lib.hid hw5
    clear hb4 hb5 ho4 hw5 hs5 P3 P5
    go_wp2_with fail
    rw [Hw5.out]
    refine (Has.out w5 (some ⟨g, 0, none⟩) cap (HZ.out.below B5.out) Hcap.out.1 Hcap.out.2 (HG.out.1.below (B1.out.trans (B5.out.mono B1.out.size))) (HG.out.2.1.below (B1.out.trans (B5.out.mono B1.out.size)))).mono ?_
    rintro e w6 ⟨v, rfl, ho6, hb6⟩
    have ho6 : w6.ownsRow w5.heap.size 5 1 v ys.length (u8s ys) := ho6
    obtain ⟨Z6, c6, rfl, _, _⟩ := own_slice ho6
    have B6 := Lib.hid (B5.out.trans (hb6.mono B5.out.size))
    have O6 := Lib.hid (And.intro ho6 hb6)
    clear ho6 hb6
    go_wp2_with fail
    refine (Hra.out w6 A c (HG.out.2.2.below (B1.out.trans (B6.out.mono B1.out.size))) Hc.out.1 Hc.out.2.1).mono ?_
    rintro e w7 ⟨v, rfl, ho7, hb7⟩
    have ho7 : w7.ownsRow w6.heap.size 5 1 v ys.length (u8s ys) := ho7
    obtain ⟨Z7, c7, rfl, _, _⟩ := own_slice ho7
    have B7 := Lib.hid (B6.out.trans (hb7.mono B6.out.size))
    have O7 := Lib.hid (And.intro ho7 hb7)
    clear ho7 hb7
    go_wp2_with fail
    refine (Has.out w7 (some ⟨g, 0, none⟩) cap (HZ.out.below B7.out) Hcap.out.1 Hcap.out.2 (HG.out.1.below (B1.out.trans (B7.out.mono B1.out.size))) (HG.out.2.1.below (B1.out.trans (B7.out.mono B1.out.size)))).mono ?_
    rintro e w8 ⟨v, rfl, ho8, hb8⟩
    have ho8 : w8.ownsRow w7.heap.size 5 1 v ys.length (u8s ys) := ho8
    obtain ⟨Z8, c8, rfl, _, _⟩ := own_slice ho8
    have B8 := Lib.hid (B7.out.trans (hb8.mono B7.out.size))
    have B58 := Lib.hid (O6.out.2.trans ((O7.out.2.trans (hb8.mono O7.out.2.size)).mono O6.out.2.size))
    have O8 := Lib.hid (And.intro ho8 hb8)
    clear ho8 hb8
    have Q8 := Lib.hid (Q5.out.below B58.out)
    have HQ := Lib.hid (Below.refl w8.heap.size w8)
    have HR3 := rows_three O2.out.1 O2.out.2.1 (O2.out.2.2.1.trans (B35.out.mono O2.out.2.2.1.size)) O6.out.1 O6.out.2 O7.out.2 O8.out.1 O8.out.2
    have HAp := Lib.hid (fun w9 h9 => apart_three (w1 := w9) HR3 (by have h1 : ys.length ≤ 239 := Haf.out.2; have h2 : u.body.length ≤ 239 := Hof.out.2; omega) B8.out h9)
    have hxu := (own_reads O2.out.1 Hof.out.1).below (O2.out.2.2.1.trans ((B35.out.trans (B58.out.mono B35.out.size)).mono O2.out.2.2.1.size))
    have hxv := (own_reads O4.out.1 Hof.out.1).below (O4.out.2.2.1.trans (B58.out.mono O4.out.2.2.1.size))
    have HSu := Lib.hid (fun w9 (h9 : Below w8.heap.size w8 w9) => sameUnit_any w9 u u X Y k j (hxu.below h9) (hxv.below h9) (by have h2 : u.body.length ≤ 239 := Hof.out.2; omega))
    rw [sameU_self] at HSu
    have hx6 := (own_reads O6.out.1 Haf.out.1).below (O7.out.2.trans (O8.out.2.mono O7.out.2.size))
    have hx7 := (own_reads O7.out.1 Haf.out.1).below O8.out.2
    have HSB := Lib.hid (fun w9 (h9 : Below w8.heap.size w8 w9) => sameBytes_any ys ys Z6 Z7 c6 c7 w9 (hx6.below h9) (hx7.below h9) (by have h1 : ys.length ≤ 239 := Haf.out.2; omega))
    rw [show sameB ys ys = true from decide_eq_true rfl] at HSB
    have HKp := Lib.hid (fun W (hv : Below w1.heap.size w1 W) => keptBytes_any b _ A c W (lent_to HL.out hv) (HG.out.2.2.below (B1.out.trans (hv.mono B1.out.size))) (by have := Hc.out; omega))
    have HAw := Lib.hid (fun W (hv : Below w1.heap.size w1 W) => awake_any σ τ W (HG.out.1.below (B1.out.trans (hv.mono B1.out.size))) (HG.out.2.1.below (B1.out.trans (hv.mono B1.out.size))))
    have HB8 := Lib.hid B8.out
    clear hxu hxv hx6 hx7 HR3
    unfold UnitV.val at *
    have K7 := Lib.hid Q8.out
    obtain ⟨d0, d1, d2, e0, e1, e2⟩ := Q8.out
    go_wp2_with fail
    refine (HSu.out w8 HQ.out).mono ?_
    rintro e w9 ⟨rfl, hq⟩
    have Q9 := Lib.hid hq
    clear hq d0 d1 d2 e0 e1 e2
    go_wp2_with fail
    refine (HSB.out w9 Q9.out).mono ?_
    rintro e w10 ⟨rfl, nq, rfl⟩
    have Q10 := Lib.hid (drewN_below Q9.out nq)
    obtain ⟨d0, d1, d2, e0, e1, e2⟩ := Q8.out.below Q10.out
    generalize w9.drewN nq = w10 at *
    go_wp2_with fail
    refine (HAp.out w10 Q10.out).mono ?_
    rintro e w11 ⟨rfl, hv, _⟩
    have V11 := Lib.hid hv
    clear hv d0 d1 d2 e0 e1 e2
    go_wp2_with fail
    refine (HKp.out w11 V11.out).mono ?_
    rintro e w12 ⟨rfl, nk, rfl⟩
    have V12 := Lib.hid (drewN_below V11.out nk)
    generalize w11.drewN nk = w12 at *
    go_wp2_with fail
    refine (HAw.out w12 V12.out).mono ?_
    rintro e w13 ⟨rfl, hv⟩
    have V13 := Lib.hid (V12.out.trans (hv.mono V12.out.size))
    clear hv
    go_wp2_with fail
    go_ret
    exact ⟨rfl, B1.out.trans (V13.out.mono B1.out.size)⟩
theorem unitOpens_any (σ : Sen) (τ : SenU) (w : World) (hC : GlAt σ w) (hU : GlU τ w) (A : Option Addr) (b : List Int) (c : Nat) (hb : BytesAt w A b) (hbc : b.length ≤ c) (hm : c ≤ 140737488351232) (hA0 : A = none → c = 0) (kd num : Int) :
    Calls Tryz.prog 3 #[.slice A b.length c, .int .i64 kd, .int .i64 num] w fun e w' => e = .returned (.bool true) ∧ Below w.heap.size w w' := unitOpens_gen σ τ w hC hU A b c hb hbc (by omega) hA0 kd num
end Go.Proofs.YtbkecaenjjlmoaaGreatDoor
namespace Go.Proofs.YtbkecaenjjlmoaaGreatDoor
open Go.RowKit
theorem own_up {w : World} {B g n cap : Nat} {xs : List Int} (h : w.ownsRow 0 5 1 (.slice (some ⟨g, 0, none⟩) n cap) n (u8s xs)) (hB : B ≤ g) : w.ownsRow B 5 1 (.slice (some ⟨g, 0, none⟩) n cap) n (u8s xs) := by
  obtain ⟨h1, h2⟩ := h
  refine ⟨h1, ?_⟩
  rcases h2 with ⟨h2, _⟩ | ⟨g', cap', cur, e, h3, h4⟩
  · cases h2
  · obtain ⟨rfl, rfl⟩ : g = g' ∧ cap = cap' := by simpa using e
    exact .inr ⟨g, cap, cur, rfl, hB, h4⟩
/-- A row of bytes of the law's own, whichever they are. -/
def RowB (w0 w : World) (g cap n : Nat) : Prop := ∃ zs : List Int, zs.length = n ∧ (∀ z ∈ zs, 0 ≤ z ∧ z < 256) ∧ w.ownsRow w0.heap.size 5 1 (.slice (some ⟨g, 0, none⟩) n cap) n (u8s zs) ∧ Below w0.heap.size w0 w
theorem RowB.set {w0 w : World} {g cap n : Nat} (h : RowB w0 w g cap n) (k : Nat) (V : Int) (hV : 0 ≤ V ∧ V < 256) : RowB w0 (w.setCell ⟨g, k, none⟩ (.int .u8 V)) g cap n := by
  obtain ⟨zs, hl, hr, ho, hb⟩ := h
  obtain ⟨s1, s2⟩ := ho.stored k (.int .u8 V)
  refine ⟨zs.set k V, by rw [List.length_set]; exact hl, fun z hz => ?_, own_same s1 rfl (by unfold u8s; rw [List.map_set]), below_grown hb s2 hb.size (ho.lt g rfl).1⟩
  rcases List.mem_or_eq_of_mem_set hz with hz | rfl
  · exact hr z hz
  · exact hV
theorem RowB.below {w0 w w' : World} {g cap n : Nat} (h : RowB w0 w g cap n) (hb' : Below w.heap.size w w') : RowB w0 w' g cap n := by
  obtain ⟨zs, hl, hr, ho, hb⟩ := h
  exact ⟨zs, hl, hr, ownsRow_below ho hb', hb.trans (hb'.mono hb.size)⟩
theorem RowB.bl {w0 w : World} {g cap n : Nat} (h : RowB w0 w g cap n) : Below w0.heap.size w0 w := by
  obtain ⟨zs, hl, hr, ho, hb⟩ := h; exact hb
theorem RowB.cell {w0 w : World} {g cap n : Nat} (h : RowB w0 w g cap n) (k : Nat) (hk : k < n) : (∃ z : Int, w.cell? ⟨g, k, none⟩ = some (.int .u8 z)) ∧ w.frozen? ⟨g, k, none⟩ = false := by
  obtain ⟨zs, hl, hr, ho, hb⟩ := h
  refine ⟨⟨zs.getD k 0, ?_⟩, ho.frozenAt k⟩
  have h1 := (own_reads ho hr).one k (by omega)
  rw [Nat.zero_add] at h1
  exact h1
theorem RowB.reads {w0 w : World} {g cap n : Nat} (h : RowB w0 w g cap n) : ∃ zs : List Int, zs.length = n ∧ BytesAt w (some ⟨g, 0, none⟩) zs ∧ n ≤ cap ∧ cap ≤ 9223372036854775807 := by
  obtain ⟨zs, hl, hr, ho, hb⟩ := h
  obtain ⟨X, c, e, h1, h2⟩ := own_slice ho
  obtain ⟨rfl, rfl⟩ : some ⟨g, 0, none⟩ = X ∧ cap = c := by simpa using e
  exact ⟨zs, hl, own_reads ho hr, h1, by unfold maxLen at h2; omega⟩
theorem u8_bd (x : Int) : 0 ≤ IntKind.u8.wrap x ∧ IntKind.u8.wrap x < 256 := by rw [IntKind.wrap_u8]; omega
/-- 'append([]byte{}, b...)' of the law's own. -/
theorem rowB_clone {w w3 : World} {g cap n : Nat} {zs : List Int} (hl : zs.length = n) (hr : ∀ z ∈ zs, 0 ≤ z ∧ z < 256) (ho : w3.ownsRow 0 5 1 (.slice (some ⟨g, 0, none⟩) n cap) n (u8s zs)) (hg : w.heap.size ≤ g) (hgr : (w.alloc (.cells #[] 5)).grownBy w3 (some w.heap.size)) : RowB w w3 g cap n :=
  ⟨zs, hl, hr, own_up ho hg, below_grown (below_new w _) hgr (below_new w _).size (Nat.le_refl _)⟩
set_option maxRecDepth 100000 in
set_option maxHeartbeats 8000000 in
theorem resealed_any (w : World) (A : Option Addr) (b : List Int) (c : Nat) (hb : BytesAt w A b) (hl : b.length = 256) (_hc : 256 ≤ c) (_hm : c ≤ 9223372036854775807) :
    Calls Tryz.prog 17 #[.slice A 256 c] w fun e w' => ∃ g cap, e = .returned (.slice (some ⟨g, 0, none⟩) 256 cap) ∧ RowB w w' g cap 256 := by
  have hbn := below_new w (.cells #[] 5)
  have H1 := Lib.hid (And.intro (hb.below hbn) (BlockIs.made w 5 #[]))
  have Hl := Lib.hid hl
  obtain ⟨b0, off, rfl⟩ := hb.some_ (by intro e; rw [e] at hl; exact absurd hl (by decide))
  clear hb hbn hl
  go_enter Tryz.func17, Tryz.ntmps17
  have Hb0 := Lib.hid (H1.out.1.1)
  go_wp2_with (refine wpList_clone8 rfl (.tmp 6) (.tmp 7) rfl w.heap.size rfl H1.out.2 (some ⟨b0, off, none⟩) b 256 c rfl Hl.out (by decide) H1.out.1 (by decide) ?_; intro g3 cap3 w3 ho3 hg3 hc3 hm3 hgr3)
  have R3 := Lib.hid (rowB_clone Hl.out Hb0.out ho3 hg3 hgr3)
  clear ho3 hg3 hc3 hm3 hgr3
  obtain ⟨zs, hzl, hzb, hzc, hzm⟩ := R3.out.reads
  have HS := Lib.hid (rsumOf_any w3 (some ⟨g3, 0, none⟩) zs cap3 hzb hzl hzc hzm)
  clear hzb
  refine HS.out.mono ?_
  rintro e w4 ⟨rfl, hb4⟩
  have R4 := Lib.hid (R3.out.below hb4)
  have hxl : ((Mx.sum (unitRow zs)).toNat : Int) < 4294967296 := by have := (Mx.sum (unitRow zs)).isLt; omega
  generalize (Mx.sum (unitRow zs)).toNat = x at *
  clear hb4 hzl
  obtain ⟨⟨z28, c28⟩, f28⟩ := R4.out.cell 28 (by decide)
  go_wp2_with fail
  refine wp_loop_rounds 5 ?_
  rw [rounds_succ]
  go_wp2_with fail
  have R5 : Hid (RowB w (w4.setCell ⟨g3, 28, none⟩ (.int .u8 ((x : Int) % 256))) g3 cap3 256) := Lib.hid (R4.out.set 28 _ (by omega))
  clear c28 f28
  generalize w4.setCell ⟨g3, 28, none⟩ (.int .u8 ((x : Int) % 256)) = w5 at *
  obtain ⟨⟨z29, c29⟩, f29⟩ := R5.out.cell 29 (by decide)
  rw [rounds_succ]
  go_wp2_with fail
  have R6 : Hid (RowB w (w5.setCell ⟨g3, 29, none⟩ (.int .u8 ((x : Int) / 256 % 256))) g3 cap3 256) := Lib.hid (R5.out.set 29 _ (by omega))
  clear c29 f29
  generalize w5.setCell ⟨g3, 29, none⟩ (.int .u8 ((x : Int) / 256 % 256)) = w6 at *
  obtain ⟨⟨z30, c30⟩, f30⟩ := R6.out.cell 30 (by decide)
  rw [rounds_succ]
  go_wp2_with fail
  have R7 : Hid (RowB w (w6.setCell ⟨g3, 30, none⟩ (.int .u8 ((x : Int) / 65536 % 256))) g3 cap3 256) := Lib.hid (R6.out.set 30 _ (by omega))
  clear c30 f30
  generalize w6.setCell ⟨g3, 30, none⟩ (.int .u8 ((x : Int) / 65536 % 256)) = w7 at *
  obtain ⟨⟨z31, c31⟩, f31⟩ := R7.out.cell 31 (by decide)
  rw [rounds_succ]
  go_wp2_with fail
  have R8 : Hid (RowB w (w7.setCell ⟨g3, 31, none⟩ (.int .u8 ((x : Int) / 16777216))) g3 cap3 256) := Lib.hid (R7.out.set 31 _ (by omega))
  clear c31 f31
  generalize w7.setCell ⟨g3, 31, none⟩ (.int .u8 ((x : Int) / 16777216)) = w8 at *
  rw [rounds_succ]
  go_wp2_with fail
  go_ret
  exact ⟨g3, cap3, rfl, R8.out⟩
def blankN (n : Nat) : List Int := List.replicate n 0
theorem made242 (w : World) : (Instr.makeSlice 22 (.int .i64 242) (.int .i64 242)).run Tryz.prog w = .ok (.slice (some ⟨w.heap.size, 0, none⟩) 242 242) (w.alloc (.cells (u8s (blankN 242)).toArray 5)) := by
  obtain ⟨i0, hi, hz0, hz1, hz2⟩ := info_parts infoByte
  have := run_make (P := Tryz.prog) w 22 5 i0 (.int .u8 0) Tryz.underlying22 hi hz0 .i64 .i64 242 242 (by decide) (by decide) (by rw [hz2]; decide) (by decide)
  rw [this]
  have h : madeCells (Value.int .u8 0).cells ((242 : Int).toNat * i0.size) = (u8s (blankN 242)).toArray := by rw [hz1]; kernel_rfl
  rw [h]; rfl
theorem made255 (w : World) : (Instr.makeSlice 22 (.int .i64 255) (.int .i64 255)).run Tryz.prog w = .ok (.slice (some ⟨w.heap.size, 0, none⟩) 255 255) (w.alloc (.cells (u8s (blankN 255)).toArray 5)) := by
  obtain ⟨i0, hi, hz0, hz1, hz2⟩ := info_parts infoByte
  have := run_make (P := Tryz.prog) w 22 5 i0 (.int .u8 0) Tryz.underlying22 hi hz0 .i64 .i64 255 255 (by decide) (by decide) (by rw [hz2]; decide) (by decide)
  rw [this]
  have h : madeCells (Value.int .u8 0).cells ((255 : Int).toNat * i0.size) = (u8s (blankN 255)).toArray := by rw [hz1]; kernel_rfl
  rw [h]; rfl
theorem made256 (w : World) : (Instr.makeSlice 22 (.int .i64 256) (.int .i64 256)).run Tryz.prog w = .ok (.slice (some ⟨w.heap.size, 0, none⟩) 256 256) (w.alloc (.cells (u8s (blankN 256)).toArray 5)) := by
  obtain ⟨i0, hi, hz0, hz1, hz2⟩ := info_parts infoByte
  have := run_make (P := Tryz.prog) w 22 5 i0 (.int .u8 0) Tryz.underlying22 hi hz0 .i64 .i64 256 256 (by decide) (by decide) (by rw [hz2]; decide) (by decide)
  rw [this]
  have h : madeCells (Value.int .u8 0).cells ((256 : Int).toNat * i0.size) = (u8s (blankN 256)).toArray := by rw [hz1]; kernel_rfl
  rw [h]; rfl
theorem blankN_bd (n : Nat) : ∀ z ∈ blankN n, 0 ≤ z ∧ z < 256 := fun z hz => by unfold blankN at hz; rw [List.mem_replicate] at hz; omega
theorem rowB_made (w : World) (n : Nat) (hn : n ≤ 1000) : RowB w (w.alloc (.cells (u8s (blankN n)).toArray 5)) w.heap.size n n := by
  have hl : (u8s (blankN n)).length = n := by rw [u8s_len]; exact List.length_replicate
  exact ⟨blankN n, List.length_replicate, blankN_bd n, ⟨by rw [hl, Nat.mul_one], .inr ⟨w.heap.size, n, (u8s (blankN n)).toArray, rfl, Nat.le_refl _, heap_alloc_new w _, Nat.le_refl _, by unfold maxLen; omega, by rw [List.size_toArray, hl, Nat.mul_one], List.take_of_length_le (by rw [List.toList_toArray, hl]; omega)⟩⟩, below_new w _⟩
/-- The bodies' lengths, the numbers. -/
def sizes11 : List Int := [0, 1, 19, 20, 21, 31, 219, 238, 239, 240, 242]
def nums6 : List Int := [-1, 0, 1, 1099511627776, 1099511627777, 140737488355328]
theorem sizes_at (i : Nat) (hi : i < 11) : ∃ m : Nat, sizes11.getD i 0 = (m : Int) ∧ m ≤ 242 ∧ (i64s sizes11).toArray[i]? = some (.int .i64 (m : Int)) := by
  have : i = 0 ∨ i = 1 ∨ i = 2 ∨ i = 3 ∨ i = 4 ∨ i = 5 ∨ i = 6 ∨ i = 7 ∨ i = 8 ∨ i = 9 ∨ i = 10 := by omega
  rcases this with rfl | rfl | rfl | rfl | rfl | rfl | rfl | rfl | rfl | rfl | rfl
  · exact ⟨0, rfl, by decide, rfl⟩
  · exact ⟨1, rfl, by decide, rfl⟩
  · exact ⟨19, rfl, by decide, rfl⟩
  · exact ⟨20, rfl, by decide, rfl⟩
  · exact ⟨21, rfl, by decide, rfl⟩
  · exact ⟨31, rfl, by decide, rfl⟩
  · exact ⟨219, rfl, by decide, rfl⟩
  · exact ⟨238, rfl, by decide, rfl⟩
  · exact ⟨239, rfl, by decide, rfl⟩
  · exact ⟨240, rfl, by decide, rfl⟩
  · exact ⟨242, rfl, by decide, rfl⟩
theorem nums_at (j : Nat) (hj : j < 6) : ∃ n : Int, (i64s nums6).toArray[j]? = some (.int .i64 n) := by
  have : j = 0 ∨ j = 1 ∨ j = 2 ∨ j = 3 ∨ j = 4 ∨ j = 5 := by omega
  rcases this with rfl | rfl | rfl | rfl | rfl | rfl <;> exact ⟨_, rfl⟩
theorem own_none {w : World} {B n cap : Nat} {X : Option Addr} {xs : List Value} (h : w.ownsRow B 5 1 (.slice X n cap) n xs) : X = none → cap = 0 := by
  rintro rfl
  rcases h.2 with ⟨h2, _⟩ | ⟨g, c, cur, e, _⟩
  · have h3 : n = 0 ∧ cap = 0 := by simpa using h2
    exact h3.2
  · cases e
theorem sealR_two (u : UnitV) (hb : ∀ z ∈ u.body, 0 ≤ z ∧ z < 256) : (∃ ys, sealR u = (ys, 0) ∧ ys.length = 256 ∧ ∀ z ∈ ys, 0 ≤ z ∧ z < 256) ∨ sealR u = ([], 2) := by
  unfold sealR
  split
  · next hu => exact .inl ⟨_, rfl, seal_len hu.2.2, seal_bd hu hb⟩
  · exact .inr rfl
/-- A block's row, whose bytes are known by a name. -/
structure RowY (w3 w : World) (X : Option Addr) (cap n : Nat) (ys : List Int) : Prop where
  len : ys.length = n
  own : w.ownsRow w3.heap.size 5 1 (.slice X n cap) n (u8s ys)
  bl : Below w3.heap.size w3 w
theorem RowY.below {w3 w w' : World} {X : Option Addr} {cap n : Nat} {ys : List Int} (h : RowY w3 w X cap n ys) (hb : Below w.heap.size w w') : RowY w3 w' X cap n ys := ⟨h.len, ownsRow_below h.own hb, h.bl.trans (hb.mono h.bl.size)⟩
theorem RowY.open_ {σ : Sen} {τ : SenU} {w0 w3 w : World} {X : Option Addr} {cap n : Nat} {ys : List Int} (h : RowY w3 w X cap n ys) (hC : GlAt σ w0) (hU : GlU τ w0) (h3 : Below w0.heap.size w0 w3) (hr : ∀ z ∈ ys, 0 ≤ z ∧ z < 256) (kd num : Int) :
    Calls Tryz.prog 3 #[.slice X n cap, .int .i64 kd, .int .i64 num] w fun e w' => e = .returned (.bool true) ∧ Below w.heap.size w w' := by
  have hb := h3.trans (h.bl.mono h3.size)
  obtain ⟨X', c, e, h1, h2⟩ := own_slice h.own
  obtain ⟨rfl, rfl⟩ : X = X' ∧ cap = c := by simpa using e
  have := unitOpens_gen σ τ w (hC.below hb) (hU.below hb) X ys cap (own_reads h.own hr) (by rw [h.len]; exact h1) (by unfold maxLen at h2; omega) (own_none h.own) kd num
  rw [h.len] at this
  exact this
/-- 'append(b, 0)'. -/
theorem RowY.more {w3 w w' : World} {X : Option Addr} {cap n : Nat} {ys : List Int} {v' : Value} (h : RowY w3 w X cap n ys) (h1 : w'.ownsRow w3.heap.size 5 1 v' (n + 1) (u8s ys ++ [.int .u8 0])) (h2 : w'.ownsRow w3.heap.size 5 1 (.slice X n cap) n (u8s ys)) (h3 : (w.alloc (.cells #[.int .u8 0] 5)).grownBy w' (Value.slice X n cap).ownBlock) : ∃ X' c', v' = .slice X' (n + 1) c' ∧ RowY w3 w' X' c' (n + 1) (ys ++ [0]) ∧ RowY w3 w' X cap n ys := by
  have hbn := below_new w (.cells #[.int .u8 0] 5)
  have hb := (h.bl.trans (hbn.mono h.bl.size)).grown h3 (h.bl.trans (hbn.mono h.bl.size)).size (fun k e => (h.own.lt k e).1)
  obtain ⟨X', c', rfl, _, _⟩ := own_slice h1
  refine ⟨X', c', rfl, ⟨by rw [List.length_append, List.length_singleton, h.len], ?_, hb⟩, ⟨h.len, h2, hb⟩⟩
  rw [u8s_snoc]
  exact h1
theorem own_wide {w : World} {B g n cap : Nat} {xs : List Value} (h : w.ownsRow B 5 1 (.slice (some ⟨g, 0, none⟩) n cap) n xs) (hn : n + 1 ≤ cap) : ∃ z, w.ownsRow B 5 1 (.slice (some ⟨g, 0, none⟩) (n + 1) cap) (n + 1) (xs ++ [z]) := by
  obtain ⟨h1, h2⟩ := h
  rcases h2 with ⟨h2, _⟩ | ⟨g', cap', cur, e, h3, h4, h5, h6, h7, h8⟩
  · cases h2
  · obtain ⟨rfl, rfl⟩ : g = g' ∧ cap = cap' := by simpa using e
    have hl : n < cur.toList.length := by rw [Array.length_toList]; omega
    refine ⟨cur.toList[n], by rw [List.length_append, List.length_singleton]; omega, .inr ⟨g, cap, cur, rfl, h3, h4, hn, h6, h7, ?_⟩⟩
    rw [← h8, Nat.mul_one, Nat.mul_one, List.take_succ_eq_append_getElem hl]
/-- append of one byte onto a row that is owned: what was there stays to be looked at. -/
theorem append_keep_run {W : World} {B n cap : Nat} {X : Option Addr} {xs : List Value} (hown : W.ownsRow B 5 1 (.slice X n cap) n xs) (ad : Addr) (c : Nat) (z : Value) (hz : z.oneCell' = true) (hx : ∀ j u, [z][j]? = some u → W.cell? (ad.add j) = some u) (hn : n + 1 ≤ 140737488355328) (hB : B ≤ W.heap.size) (ty : TypeId) :
    ∃ v' w', (Builtin.append_ #[22, 22] ty #[.slice X n cap, .slice (some ad) 1 c]).run Tryz.prog W = .ok v' w' ∧ w'.ownsRow B 5 1 v' (n + 1) (xs ++ [z]) ∧ w'.ownsRow B 5 1 (.slice X n cap) n xs ∧ W.grownBy w' (Value.slice X n cap).ownBlock := by
  obtain ⟨i0, hi, hz0, hz1, hz2⟩ := info_parts infoByte
  have h1z : ∀ u ∈ [z], u.oneCell' = true := fun u hu => by rw [List.mem_singleton] at hu; subst hu; exact hz
  rcases hown.2 with ⟨e, rfl⟩ | ⟨g, cap', cur, e, hbg, hg, hnc, hcm, hcs, ht⟩
  · obtain ⟨v', w', hr, h2, h3, _, _⟩ := run_append_own_at (P := Tryz.prog) W B 22 ty 5 i0 (.int .u8 0) 1 1 Tryz.underlying22 hi hz0 hz1 hz2 rfl (by decide) _ 0 xs hown ad 1 c [z] rfl hx h1z (by unfold maxLen; omega) (by omega) hB
    refine ⟨v', w', hr, h2, ?_, h3⟩
    have hx0 : xs = [] := List.eq_nil_of_length_eq_zero (by simpa using hown.1)
    rw [e, hx0]
    exact World.ownsRow_nil _ _ _ _
  · obtain ⟨rfl, rfl⟩ : X = some ⟨g, 0, none⟩ ∧ cap = cap' := by simpa using e
    by_cases hr : n + 1 ≤ cap
    · have hl : n < cur.toList.length := by rw [Array.length_toList]; omega
      have hrun := run_append_room_cells (P := Tryz.prog) W 22 ty 5 i0 Tryz.underlying22 hi g 0 n cap ad 1 c [z] (by rw [hz1]; rfl) hx h1z hr (fun j hj => by
        obtain rfl : j = 0 := by simp at hj; omega
        rw [hz1, Nat.mul_one, Nat.zero_add, Nat.add_zero, cell_of_row W g n cur 5 (0, 0) hg]
        rw [Array.getElem?_eq_getElem (by omega)]; rfl) (fun j _ => frozen_of_row W g _ cur 5 hg)
      rw [hz1, Nat.mul_one, Nat.zero_add] at hrun
      have hw : W.setCells g n [z] = W.setCell ⟨g, n, none⟩ z := rfl
      rw [hw] at hrun
      obtain ⟨y, hy⟩ := own_wide hown hr
      have s1 := hy.stored n z
      have s2 := hown.stored n z
      have hl2 : xs.length = n := by have := hown.1; omega
      rw [List.set_append_right _ _ (by omega), show n - xs.length = 0 by omega, List.set_cons_zero] at s1
      rw [List.set_eq_of_length_le (by omega)] at s2
      exact ⟨_, _, hrun, s1.1, s2.1, s1.2⟩
    · obtain ⟨v', w', hrun, h2, h3⟩ := run_append_arg_grows (P := Tryz.prog) W 22 ty 5 i0 (.int .u8 0) 1 1 Tryz.underlying22 hi hz0 hz1 hz2 rfl (by decide) ⟨g, 0, none⟩ n cap xs hown.1 (hown.cells (g := g) rfl) ad 1 c [z] rfl hx (by omega) (by unfold maxLen; omega) (by omega)
      exact ⟨v', w', hrun, own_mono h2 hB, hown.kept h3 (.inr (by simp [Value.ownBlock])), ⟨h3.os, h3.tape, h3.output, h3.size, fun k hk _ => h3.block k hk (by simp)⟩⟩
/-- The same, at a step that is guarded. -/
theorem wpList_append_one_g {w : World} {ops : Array Oper} {rest : List Oper} {o : Oper} {a : Act} {Q : Exit → Act → World → Prop} (hw : Region.wanted o (yielded ops a.tmps) = true) (s x : Operand)
    (ho : o.op = .call { callee := .builtin .append, args := #[s, x], argTypes := #[22, 22] }) (B : Nat) (X : Option Addr) (n cap : Nat) (xs : List Value) (hs : a.eval s = .slice X n cap) (hown : w.ownsRow B 5 1 (.slice X n cap) n xs)
    (ad : Addr) (c : Nat) (z : Value) (hx : a.eval x = .slice (some ad) 1 c) (hz : z.oneCell' = true) (hnews : ∀ j u, [z][j]? = some u → w.cell? (ad.add j) = some u) (hn : n + 1 ≤ 140737488355328) (hbase : B ≤ w.heap.size)
    (h : ∀ v' w', w'.ownsRow B 5 1 v' (n + 1) (xs ++ [z]) → w'.ownsRow B 5 1 (.slice X n cap) n xs → w.grownBy w' (Value.slice X n cap).ownBlock → wpList Tryz.prog ops Q rest (a.put o.dst v') w') :
    wpList Tryz.prog ops Q (o :: rest) a w := by
  refine wpList_step fun K hK => ?_
  rw [if_pos hw]
  obtain ⟨v', w', hr, h2, h3, h4⟩ := append_keep_run hown ad c z hz hnews hn hbase o.type
  unfold Oper.wp execOp
  simp only [ho, resolve, invoke, builtin, Sem.run_bind, Sem.run_pure, Result.andThen_ok, List.map_toArray, List.map_cons, List.map_nil, hs, hx, hr]
  exact hK _ _ (h v' w' h2 h3 h4)
theorem RowB.open_ {σ : Sen} {τ : SenU} {w0 wb w : World} {g cap n : Nat} (h : RowB wb w g cap n) (hC : GlAt σ w0) (hU : GlU τ w0) (h3 : Below w0.heap.size w0 w) (kd num : Int) :
    Calls Tryz.prog 3 #[.slice (some ⟨g, 0, none⟩) n cap, .int .i64 kd, .int .i64 num] w fun e w' => e = .returned (.bool true) ∧ Below w.heap.size w w' := by
  obtain ⟨zs, hl, hz, hc, hm⟩ := h.reads
  have := unitOpens_gen σ τ w (hC.below h3) (hU.below h3) (some ⟨g, 0, none⟩) zs cap hz (by omega) hm (fun e => by cases e) kd num
  rw [hl] at this
  exact this
end Go.Proofs.YtbkecaenjjlmoaaGreatDoor
