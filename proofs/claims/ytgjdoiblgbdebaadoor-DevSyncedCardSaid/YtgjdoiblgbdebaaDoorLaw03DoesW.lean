/- One deed, done to both disks: both answer the same. -/
/- One deed, a Write, done to both disks: what is lent stays. -/
import Derived.Test.YtgjdoiblgbdebaaDoorLaw03Two
import Derived.Deep.RegionHeld3
namespace Go.Proofs.YtgjdoiblgbdebaaDoor
open Go.RowKit
/-- What a deed leaves. -/
def Did (w0 : World) (hd hr : Nat) (D : DM) (e : Ending) (w' : World) : Prop := e = .returned (.bool true) ∧ ∃ Td Tr, Two w0 w' Td Tr hd hr D D
theorem beq_same (x : Int) : (x == x) = true := beq_self_eq_true x
abbrev doesV (hd hr : Nat) (x : DeedV) : Array Value := #[.pointer (some ⟨hd, 0, none⟩), .pointer (some ⟨hr, 0, none⟩), .agg #[.int .i64 x.what, .int .i64 x.n, .slice x.A x.bs.length x.c, .int .i64 x.torn, .int .i64 x.part, .int .u32 (x.mask : Int)]]
abbrev deedO (x : DeedV) : Obj := .cells #[.int .i64 x.what, .int .i64 x.n, .slice x.A x.bs.length x.c, .int .i64 x.torn, .int .i64 x.part, .int .u32 (x.mask : Int)] 36
section
variable {σ : SenD} {w0 w : World} {Td Tr : Nat → Prop} {hd hr : Nat} {D : DM}
set_option maxRecDepth 100000 in
set_option maxHeartbeats 2000000 in
theorem does_read (hG : GlD σ w0) (k : Two w0 w Td Tr hd hr D D) (hF : D.Few 1000000) (x : DeedV) (hq : x.what % 9 = 0) :
    Calls Tryd.prog 11 (doesV hd hr x) w (Did w0 hd hr (D.deed x)) := by
  have Hst : Hid (D.deed x = D) := Lib.hid (by unfold DM.deed; rw [if_pos hq])
  have hbn := below_new w (deedO x)
  have k1 := k.on hbn
  have hB := BlockIs.made w 36 #[.int .i64 x.what, .int .i64 x.n, .slice x.A x.bs.length x.c, .int .i64 x.torn, .int .i64 x.part, .int .u32 (x.mask : Int)]
  have K1 := Lib.hid (And.intro k1 hB)
  have HG := Lib.hid hG
  have HF := Lib.hid hF
  have Hq := Lib.hid hq
  have c0 : (w.alloc (deedO x)).cell? ⟨w.heap.size, 0, none⟩ = some (.int .i64 x.what) := hB.cell 0
  have c1 : (w.alloc (deedO x)).cell? ⟨w.heap.size, 1, none⟩ = some (.int .i64 x.n) := hB.cell 1
  have hfree := Lib.hid (Free.mk (k.new (Nat.le_refl w.heap.size)).1 (k.new (Nat.le_refl w.heap.size)).2.1 hB.lt)
  clear k k1 hB hbn hG hF hq
  unfold doesV
  go_enter Tryd.func11, Tryd.ntmps11
  go_wp2_with fail
  unfold deedO at *
  generalize (w.alloc (.cells #[.int .i64 x.what, .int .i64 x.n, .slice x.A x.bs.length x.c, .int .i64 x.torn, .int .i64 x.part, .int .u32 (x.mask : Int)] 36)) = w1 at *
  refine (pick_any x.what 9 _ (by decide) (by decide)).mono ?_
  rintro e w' ⟨rfl, rfl⟩
  rw [Hq.out]
  go_wp2_with fail
  refine (read_any σ K1.out.1.d.at_ (K1.out.1.d.gl HG.out) x.n).mono ?_
  rintro e w2 ⟨v, rfl, ho, hb2⟩
  have K2 := Lib.hid (And.intro (K1.out.1.on hb2) hb2)
  have c12 : w2.cell? ⟨w.heap.size, 1, none⟩ = some (.int .i64 x.n) := cell_below c1 hb2
  clear hb2 c0 c1
  have HR := Lib.hid (read3_any K2.out.1.r HF.out x.n)
  have hbq := beq_same (D.read x.n).2
  generalize hee : D.read x.n = rr at *
  obtain ⟨bb, ee⟩ := rr
  have Hl : Hid (bb.length ≤ 140737488351232) := Lib.hid (by
    obtain ⟨A, _, hb, _⟩ := ho.bytes
    rcases ho with ⟨_, rfl⟩ | ⟨g, t, _, _, hbk, _⟩
    · decide
    · have h3 : bb = (D.read x.n).1 := by rw [hee]
      rw [h3]
      unfold DM.read
      split
      · decide
      · split
        · next hn => 
          unfold DM.has at hn
          rw [((K2.out.1.d.at_.ok).seen (n := x.n.toNat) (by omega)).1]; decide
        · decide)
  clear hee
  rcases ho with ⟨rfl, hbb⟩ | ⟨g, t, rfl, hg, hbk, hz⟩
  · subst hbb
    go_wp2_with fail
    refine HR.out.mono ?_
    rintro e w3 ⟨u, rfl, ⟨A, c, rfl, hbu⟩, hb3⟩
    have K3 := Lib.hid (And.intro (K2.out.1.on hb3) hbu)
    clear hbu hb3
    go_wp2_with fail
    refine (sameBytes_any [] [] none A 0 c w3 (BytesAt.nil _ _) K3.out.2 (by decide)).mono ?_
    rintro e w4 ⟨rfl, n4, rfl⟩
    rw [show sameB [] [] = true from rfl]
    go_wp2_with fail
    refine (overNil_any _).mono ?_
    rintro e w5 ⟨rfl, rfl⟩
    go_wp2_with fail
    go_ret
    exact ⟨rfl, _, _, by rw [Hst.out]; exact K3.out.1.drewN n4⟩
  · have HB := Lib.hid (And.intro hbk (And.intro hg hz))
    clear hbk hg hz
    go_wp2_with fail
    refine HR.out.mono ?_
    rintro e w3 ⟨u, rfl, ⟨A, c, rfl, hbu⟩, hb3⟩
    have K3 := Lib.hid (And.intro (K2.out.1.on hb3) (And.intro hbu (And.intro (HB.out.1.below hb3 HB.out.1.lt) hb3)))
    clear hbu hb3
    have Hbz : Hid (BytesAt w3 (some ⟨g, 0, none⟩) bb) := Lib.hid (bytesAt_cells HB.out.2.2 (fun i hi => by
      rw [Nat.zero_add, K3.out.2.2.1.cell, List.getElem?_toArray]
      unfold u8s
      rw [List.getElem?_map, List.getD_eq_getElem?_getD, List.getElem?_eq_getElem hi]; rfl))
    go_wp2_with fail
    refine (sameBytes_any bb bb (some ⟨g, 0, none⟩) A bb.length c w3 Hbz.out K3.out.2.1 (by have := Hl.out; omega)).mono ?_
    rintro e w4 ⟨rfl, n4, rfl⟩
    rw [show sameB bb bb = true from decide_eq_true rfl]
    go_wp2_with fail
    refine (overRow_any _ g bb.length bb.length (u8s bb).toArray t (show BlockIs (w3.drewN n4) g t _ from K3.out.2.2.1) (by rw [if_pos (by omega), List.size_toArray, u8s_len]; exact Nat.le_refl _) Hl.out (by have := Hl.out; omega)).mono ?_
    rintro e w5 ⟨rfl, hg5⟩
    have H5 := Lib.hid hg5
    clear hg5
    go_wp2_with fail
    go_ret
    exact ⟨rfl, _, _, by rw [Hst.out]; exact (K3.out.1.drewN n4).grown H5.out (fun b e => by cases e; exact K1.out.1.new HB.out.2.1)⟩
-- THE SHORT DEEDS (by gendoes.py)
set_option maxRecDepth 100000 in
set_option maxHeartbeats 4000000 in
theorem does_sync (hG : GlD σ w0) (k : Two w0 w Td Tr hd hr D D) (hF : D.Few 1000000) (x : DeedV) (hq : x.what % 9 = 3) :
    Calls Tryd.prog 11 (doesV hd hr x) w (Did w0 hd hr (D.deed x)) := by
  have Hst : Hid (D.deed x = D.sync.2) := Lib.hid (by unfold DM.deed; rw [if_neg (by omega), if_neg (by omega), if_pos hq])
  have hbn := below_new w (deedO x)
  have k1 := k.on hbn
  have hB := BlockIs.made w 36 #[.int .i64 x.what, .int .i64 x.n, .slice x.A x.bs.length x.c, .int .i64 x.torn, .int .i64 x.part, .int .u32 (x.mask : Int)]
  have K1 := Lib.hid (And.intro k1 (And.intro hB (Free.mk (k.new (Nat.le_refl w.heap.size)).1 (k.new (Nat.le_refl w.heap.size)).2.1 hB.lt)))
  have HG := Lib.hid hG
  have HF := Lib.hid hF
  have Hq := Lib.hid hq
  have c0 : (w.alloc (deedO x)).cell? ⟨w.heap.size, 0, none⟩ = some (.int .i64 x.what) := hB.cell 0
  clear k k1 hB hbn hG hF hq
  unfold doesV
  go_enter Tryd.func11, Tryd.ntmps11
  go_wp2_with fail
  unfold deedO at *
  generalize (w.alloc (.cells #[.int .i64 x.what, .int .i64 x.n, .slice x.A x.bs.length x.c, .int .i64 x.torn, .int .i64 x.part, .int .u32 (x.mask : Int)] 36)) = w1 at *
  refine (pick_any x.what 9 _ (by decide) (by decide)).mono ?_
  rintro e w' ⟨rfl, rfl⟩
  rw [Hq.out]
  have hbq := beq_same D.sync.1
  go_wp2_with fail
  refine (OwnT.sync HG.out K1.out.1.d HF.out).mono ?_
  rintro e w2 ⟨rfl, h2, h3⟩
  have K2 := Lib.hid (K1.out.1.dev h2 h3)
  clear h2 h3 c0
  go_wp2_with fail
  refine (sync3_any K2.out.r HF.out).mono ?_
  rintro e w3 ⟨rfl, h2⟩
  have K3 := Lib.hid (K2.out.ref h2)
  clear h2
  go_wp2_with fail
  go_ret
  exact ⟨rfl, _, _, by rw [Hst.out]; exact K3.out⟩
set_option maxRecDepth 100000 in
set_option maxHeartbeats 4000000 in
theorem does_crash (hG : GlD σ w0) (k : Two w0 w Td Tr hd hr D D) (hF : D.Few 1000000) (x : DeedV) (hq : x.what % 9 = 5) :
    Calls Tryd.prog 11 (doesV hd hr x) w (Did w0 hd hr (D.deed x)) := by
  have Hst : Hid (D.deed x = D.crash.2) := Lib.hid (by unfold DM.deed; rw [if_neg (by omega), if_neg (by omega), if_neg (by omega), if_neg (by omega), if_pos hq])
  have hbn := below_new w (deedO x)
  have k1 := k.on hbn
  have hB := BlockIs.made w 36 #[.int .i64 x.what, .int .i64 x.n, .slice x.A x.bs.length x.c, .int .i64 x.torn, .int .i64 x.part, .int .u32 (x.mask : Int)]
  have K1 := Lib.hid (And.intro k1 (And.intro hB (Free.mk (k.new (Nat.le_refl w.heap.size)).1 (k.new (Nat.le_refl w.heap.size)).2.1 hB.lt)))
  have HG := Lib.hid hG
  have HF := Lib.hid hF
  have Hq := Lib.hid hq
  have c0 : (w.alloc (deedO x)).cell? ⟨w.heap.size, 0, none⟩ = some (.int .i64 x.what) := hB.cell 0
  clear k k1 hB hbn hG hF hq
  unfold doesV
  go_enter Tryd.func11, Tryd.ntmps11
  go_wp2_with fail
  unfold deedO at *
  generalize (w.alloc (.cells #[.int .i64 x.what, .int .i64 x.n, .slice x.A x.bs.length x.c, .int .i64 x.torn, .int .i64 x.part, .int .u32 (x.mask : Int)] 36)) = w1 at *
  refine (pick_any x.what 9 _ (by decide) (by decide)).mono ?_
  rintro e w' ⟨rfl, rfl⟩
  rw [Hq.out]
  have hbq := beq_same D.crash.1
  go_wp2_with fail
  refine (OwnT.crash HG.out K1.out.1.d HF.out).mono ?_
  rintro e w2 ⟨rfl, h2, h3⟩
  have K2 := Lib.hid (K1.out.1.dev h2 h3)
  clear h2 h3 c0
  go_wp2_with fail
  refine (crash3_any K2.out.r HF.out).mono ?_
  rintro e w3 ⟨rfl, h2⟩
  have K3 := Lib.hid (K2.out.ref h2)
  clear h2
  go_wp2_with fail
  go_ret
  exact ⟨rfl, _, _, by rw [Hst.out]; exact K3.out⟩
set_option maxRecDepth 100000 in
set_option maxHeartbeats 4000000 in
theorem does_arm (hG : GlD σ w0) (k : Two w0 w Td Tr hd hr D D) (hF : D.Few 1000000) (x : DeedV) (hq : x.what % 9 = 4) (hn : x.n ≤ 9223372036854775807) :
    Calls Tryd.prog 11 (doesV hd hr x) w (Did w0 hd hr (D.deed x)) := by
  have Hst : Hid (D.deed x = D.arm x.n) := Lib.hid (by unfold DM.deed; rw [if_neg (by omega), if_neg (by omega), if_neg (by omega), if_pos hq])
  have hbn := below_new w (deedO x)
  have k1 := k.on hbn
  have hB := BlockIs.made w 36 #[.int .i64 x.what, .int .i64 x.n, .slice x.A x.bs.length x.c, .int .i64 x.torn, .int .i64 x.part, .int .u32 (x.mask : Int)]
  have K1 := Lib.hid (And.intro k1 (And.intro hB (Free.mk (k.new (Nat.le_refl w.heap.size)).1 (k.new (Nat.le_refl w.heap.size)).2.1 hB.lt)))
  have HG := Lib.hid hG
  have HF := Lib.hid hF
  have Hq := Lib.hid hq
  have c0 : (w.alloc (deedO x)).cell? ⟨w.heap.size, 0, none⟩ = some (.int .i64 x.what) := hB.cell 0
  have c1 : (w.alloc (deedO x)).cell? ⟨w.heap.size, 1, none⟩ = some (.int .i64 x.n) := hB.cell 1
  clear k k1 hB hbn hG hF hq
  unfold doesV
  go_enter Tryd.func11, Tryd.ntmps11
  go_wp2_with fail
  unfold deedO at *
  generalize (w.alloc (.cells #[.int .i64 x.what, .int .i64 x.n, .slice x.A x.bs.length x.c, .int .i64 x.torn, .int .i64 x.part, .int .u32 (x.mask : Int)] 36)) = w1 at *
  refine (pick_any x.what 9 _ (by decide) (by decide)).mono ?_
  rintro e w' ⟨rfl, rfl⟩
  rw [Hq.out]
  go_wp2_with fail
  refine (arm_any σ K1.out.1.d.at_ (K1.out.1.d.gl HG.out) x.n hn).mono ?_
  rintro e w2 ⟨rfl, h2⟩
  have K2 := Lib.hid (And.intro (K1.out.1.dev (K1.out.1.d.next h2) h2.fr) (K1.out.2.1.keep (h2.fr.block _ K1.out.2.2.lt K1.out.2.2.td)))
  have c12 : w2.cell? ⟨w.heap.size, 1, none⟩ = some (.int .i64 x.n) := K2.out.2.cell 1
  clear h2 c0 c1
  go_wp2_with fail
  refine (arm3_any K2.out.1.r x.n hn).mono ?_
  rintro e w3 ⟨rfl, h2⟩
  have K3 := Lib.hid (K2.out.1.ref h2)
  clear h2
  go_wp2_with fail
  go_ret
  exact ⟨rfl, _, _, by rw [Hst.out]; exact K3.out⟩
set_option maxRecDepth 100000 in
set_option maxHeartbeats 4000000 in
theorem does_wipe (hG : GlD σ w0) (k : Two w0 w Td Tr hd hr D D) (hF : D.Few 1000000) (x : DeedV) (hq : x.what % 9 = 8) (hS : GlS σ w0) :
    Calls Tryd.prog 11 (doesV hd hr x) w (Did w0 hd hr (D.deed x)) := by
  have Hst : Hid (D.deed x = (D.wipe x.n).2) := Lib.hid (by unfold DM.deed; rw [if_neg (by omega), if_neg (by omega), if_neg (by omega), if_neg (by omega), if_neg (by omega), if_neg (by omega), if_neg (by omega)])
  have hbn := below_new w (deedO x)
  have k1 := k.on hbn
  have hB := BlockIs.made w 36 #[.int .i64 x.what, .int .i64 x.n, .slice x.A x.bs.length x.c, .int .i64 x.torn, .int .i64 x.part, .int .u32 (x.mask : Int)]
  have K1 := Lib.hid (And.intro k1 (And.intro hB (Free.mk (k.new (Nat.le_refl w.heap.size)).1 (k.new (Nat.le_refl w.heap.size)).2.1 hB.lt)))
  have HG := Lib.hid hG
  have HF := Lib.hid hF
  have Hq := Lib.hid hq
  have c0 : (w.alloc (deedO x)).cell? ⟨w.heap.size, 0, none⟩ = some (.int .i64 x.what) := hB.cell 0
  have c1 : (w.alloc (deedO x)).cell? ⟨w.heap.size, 1, none⟩ = some (.int .i64 x.n) := hB.cell 1
  clear k k1 hB hbn hG hF hq
  unfold doesV
  go_enter Tryd.func11, Tryd.ntmps11
  go_wp2_with fail
  unfold deedO at *
  generalize (w.alloc (.cells #[.int .i64 x.what, .int .i64 x.n, .slice x.A x.bs.length x.c, .int .i64 x.torn, .int .i64 x.part, .int .u32 (x.mask : Int)] 36)) = w1 at *
  refine (pick_any x.what 9 _ (by decide) (by decide)).mono ?_
  rintro e w' ⟨rfl, rfl⟩
  rw [Hq.out]
  have hbq := beq_same ((D.wipe x.n)).1
  go_wp2_with fail
  go_region_held3 (fun w' => w'.cell? ⟨w.heap.size, 1, none⟩ = some (.int .i64 x.n)) (first | exact c1 | exact k1 | exact j1) (first | (go_at_call 28; refine (OwnT.wipe HG.out hS K1.out.1.drew.d x.n).mono ?_; rintro e w2 ⟨rfl, h2, h3⟩; have K2 := Lib.hid (And.intro (K1.out.1.drew.dev h2 h3) (BlockIs.keep (show BlockIs w1.drew w.heap.size _ _ from K1.out.2.1) (h3.block _ K1.out.2.2.lt K1.out.2.2.td))); have k1 : w2.cell? ⟨w.heap.size, 1, none⟩ = some (.int .i64 x.n) := K2.out.2.cell 1; clear h2 h3) | (go_at_call 40; refine (wipe3_any K2.out.1.r x.n).mono ?_; rintro e w3 ⟨rfl, h2⟩; have K3 := Lib.hid (And.intro (K2.out.1.ref h2) (K2.out.2.keep (h2.fr.block _ (World.block_lt_of_cell? _ _ (K2.out.2.cell 0)) K1.out.2.2.tr))); have j1 : w3.cell? ⟨w.heap.size, 1, none⟩ = some (.int .i64 x.n) := K3.out.2.cell 1; clear h2))
  all_goals
    go_wp2_with fail
    go_ret
    exact ⟨rfl, _, _, by rw [Hst.out]; first | exact K3.out.1 | exact K3.out.1.drew⟩
set_option maxRecDepth 100000 in
set_option maxHeartbeats 4000000 in
theorem does_rot (hG : GlD σ w0) (k : Two w0 w Td Tr hd hr D D) (hF : D.Few 1000000) (x : DeedV) (hq : x.what % 9 = 7) (hS : GlS σ w0) (hm : x.mask < 4294967296) :
    Calls Tryd.prog 11 (doesV hd hr x) w (Did w0 hd hr (D.deed x)) := by
  have Hst : Hid (D.deed x = (D.rot x.n x.torn x.mask).2) := Lib.hid (by unfold DM.deed; rw [if_neg (by omega), if_neg (by omega), if_neg (by omega), if_neg (by omega), if_neg (by omega), if_neg (by omega), if_pos hq])
  have hbn := below_new w (deedO x)
  have k1 := k.on hbn
  have hB := BlockIs.made w 36 #[.int .i64 x.what, .int .i64 x.n, .slice x.A x.bs.length x.c, .int .i64 x.torn, .int .i64 x.part, .int .u32 (x.mask : Int)]
  have K1 := Lib.hid (And.intro k1 (And.intro hB (Free.mk (k.new (Nat.le_refl w.heap.size)).1 (k.new (Nat.le_refl w.heap.size)).2.1 hB.lt)))
  have HG := Lib.hid hG
  have HF := Lib.hid hF
  have Hq := Lib.hid hq
  have c0 : (w.alloc (deedO x)).cell? ⟨w.heap.size, 0, none⟩ = some (.int .i64 x.what) := hB.cell 0
  have c1 : (w.alloc (deedO x)).cell? ⟨w.heap.size, 1, none⟩ = some (.int .i64 x.n) := hB.cell 1
  have c3 : (w.alloc (deedO x)).cell? ⟨w.heap.size, 3, none⟩ = some (.int .i64 x.torn) := hB.cell 3
  have c5 : (w.alloc (deedO x)).cell? ⟨w.heap.size, 5, none⟩ = some (.int .u32 (x.mask : Int)) := hB.cell 5
  clear k k1 hB hbn hG hF hq
  unfold doesV
  go_enter Tryd.func11, Tryd.ntmps11
  go_wp2_with fail
  unfold deedO at *
  generalize (w.alloc (.cells #[.int .i64 x.what, .int .i64 x.n, .slice x.A x.bs.length x.c, .int .i64 x.torn, .int .i64 x.part, .int .u32 (x.mask : Int)] 36)) = w1 at *
  refine (pick_any x.what 9 _ (by decide) (by decide)).mono ?_
  rintro e w' ⟨rfl, rfl⟩
  rw [Hq.out]
  have hbq := beq_same ((D.rot x.n x.torn x.mask)).1
  go_wp2_with fail
  go_region_held3 (fun w' => w'.cell? ⟨w.heap.size, 1, none⟩ = some (.int .i64 x.n) ∧ w'.cell? ⟨w.heap.size, 3, none⟩ = some (.int .i64 x.torn) ∧ w'.cell? ⟨w.heap.size, 5, none⟩ = some (.int .u32 (x.mask : Int))) (first | exact ⟨c1, c3, c5⟩ | exact ⟨k1, k3, k5⟩ | exact ⟨j1, j3, j5⟩) (first | (go_at_call 27; refine (OwnT.rot HG.out hS K1.out.1.drew.d x.n x.torn x.mask hm).mono ?_; rintro e w2 ⟨rfl, h2, h3⟩; have K2 := Lib.hid (And.intro (K1.out.1.drew.dev h2 h3) (BlockIs.keep (show BlockIs w1.drew w.heap.size _ _ from K1.out.2.1) (h3.block _ K1.out.2.2.lt K1.out.2.2.td))); have k1 : w2.cell? ⟨w.heap.size, 1, none⟩ = some (.int .i64 x.n) := K2.out.2.cell 1; have k3 : w2.cell? ⟨w.heap.size, 3, none⟩ = some (.int .i64 x.torn) := K2.out.2.cell 3; have k5 : w2.cell? ⟨w.heap.size, 5, none⟩ = some (.int .u32 (x.mask : Int)) := K2.out.2.cell 5; clear h2 h3) | (go_at_call 39; refine (rot3_any K2.out.1.r x.n x.torn x.mask hm).mono ?_; rintro e w3 ⟨rfl, h2⟩; have K3 := Lib.hid (And.intro (K2.out.1.ref h2) (K2.out.2.keep (h2.fr.block _ (World.block_lt_of_cell? _ _ (K2.out.2.cell 0)) K1.out.2.2.tr))); have j1 : w3.cell? ⟨w.heap.size, 1, none⟩ = some (.int .i64 x.n) := K3.out.2.cell 1; have j3 : w3.cell? ⟨w.heap.size, 3, none⟩ = some (.int .i64 x.torn) := K3.out.2.cell 3; have j5 : w3.cell? ⟨w.heap.size, 5, none⟩ = some (.int .u32 (x.mask : Int)) := K3.out.2.cell 5; clear h2))
  all_goals
    go_wp2_with fail
    go_ret
    exact ⟨rfl, _, _, by rw [Hst.out]; first | exact K3.out.1 | exact K3.out.1.drew⟩
set_option maxRecDepth 100000 in
set_option maxHeartbeats 4000000 in
theorem does_wake (hG : GlD σ w0) (k : Two w0 w Td Tr hd hr D D) (hF : D.Few 1000000) (x : DeedV) (hq : x.what % 9 = 6) :
    Calls Tryd.prog 11 (doesV hd hr x) w (Did w0 hd hr (D.deed x)) := by
  have Hst : Hid (D.deed x = (D.wake x.n x.torn x.part).2) := Lib.hid (by unfold DM.deed; rw [if_neg (by omega), if_neg (by omega), if_neg (by omega), if_neg (by omega), if_neg (by omega), if_pos hq])
  have hbn := below_new w (deedO x)
  have k1 := k.on hbn
  have hB := BlockIs.made w 36 #[.int .i64 x.what, .int .i64 x.n, .slice x.A x.bs.length x.c, .int .i64 x.torn, .int .i64 x.part, .int .u32 (x.mask : Int)]
  have K1 := Lib.hid (And.intro k1 (And.intro hB (Free.mk (k.new (Nat.le_refl w.heap.size)).1 (k.new (Nat.le_refl w.heap.size)).2.1 hB.lt)))
  have HG := Lib.hid hG
  have HF := Lib.hid hF
  have Hq := Lib.hid hq
  have c0 : (w.alloc (deedO x)).cell? ⟨w.heap.size, 0, none⟩ = some (.int .i64 x.what) := hB.cell 0
  have c1 : (w.alloc (deedO x)).cell? ⟨w.heap.size, 1, none⟩ = some (.int .i64 x.n) := hB.cell 1
  have c3 : (w.alloc (deedO x)).cell? ⟨w.heap.size, 3, none⟩ = some (.int .i64 x.torn) := hB.cell 3
  have c4 : (w.alloc (deedO x)).cell? ⟨w.heap.size, 4, none⟩ = some (.int .i64 x.part) := hB.cell 4
  clear k k1 hB hbn hG hF hq
  unfold doesV
  go_enter Tryd.func11, Tryd.ntmps11
  go_wp2_with fail
  unfold deedO at *
  generalize (w.alloc (.cells #[.int .i64 x.what, .int .i64 x.n, .slice x.A x.bs.length x.c, .int .i64 x.torn, .int .i64 x.part, .int .u32 (x.mask : Int)] 36)) = w1 at *
  refine (pick_any x.what 9 _ (by decide) (by decide)).mono ?_
  rintro e w' ⟨rfl, rfl⟩
  rw [Hq.out]
  have hbq := beq_same ((D.wake x.n x.torn x.part)).1
  go_wp2_with fail
  go_region_held3 (fun w' => w'.cell? ⟨w.heap.size, 1, none⟩ = some (.int .i64 x.n) ∧ w'.cell? ⟨w.heap.size, 3, none⟩ = some (.int .i64 x.torn) ∧ w'.cell? ⟨w.heap.size, 4, none⟩ = some (.int .i64 x.part)) (first | exact ⟨c1, c3, c4⟩ | exact ⟨k1, k3, k4⟩ | exact ⟨j1, j3, j4⟩) (first | (go_at_call 22; refine (OwnT.wake K1.out.1.drew.d HF.out x.n x.torn x.part).mono ?_; rintro e w2 ⟨rfl, h2, h3⟩; have K2 := Lib.hid (And.intro (K1.out.1.drew.dev h2 h3) (BlockIs.keep (show BlockIs w1.drew w.heap.size _ _ from K1.out.2.1) (h3.block _ K1.out.2.2.lt K1.out.2.2.td))); have k1 : w2.cell? ⟨w.heap.size, 1, none⟩ = some (.int .i64 x.n) := K2.out.2.cell 1; have k3 : w2.cell? ⟨w.heap.size, 3, none⟩ = some (.int .i64 x.torn) := K2.out.2.cell 3; have k4 : w2.cell? ⟨w.heap.size, 4, none⟩ = some (.int .i64 x.part) := K2.out.2.cell 4; clear h2 h3) | (go_at_call 38; refine (wake3_any K2.out.1.r HF.out x.n x.torn x.part).mono ?_; rintro e w3 ⟨rfl, h2⟩; have K3 := Lib.hid (And.intro (K2.out.1.ref h2) (K2.out.2.keep (h2.fr.block _ (World.block_lt_of_cell? _ _ (K2.out.2.cell 0)) K1.out.2.2.tr))); have j1 : w3.cell? ⟨w.heap.size, 1, none⟩ = some (.int .i64 x.n) := K3.out.2.cell 1; have j3 : w3.cell? ⟨w.heap.size, 3, none⟩ = some (.int .i64 x.torn) := K3.out.2.cell 3; have j4 : w3.cell? ⟨w.heap.size, 4, none⟩ = some (.int .i64 x.part) := K3.out.2.cell 4; clear h2))
  all_goals
    go_wp2_with fail
    go_ret
    exact ⟨rfl, _, _, by rw [Hst.out]; first | exact K3.out.1 | exact K3.out.1.drew⟩
-- END OF THE SHORT DEEDS
end
end Go.Proofs.YtgjdoiblgbdebaaDoor
namespace Go.Proofs.YtgjdoiblgbdebaaDoor
open Go.RowKit
theorem lent_bytes {w : World} {g cap : Nat} {zs : List Int} (h : LentAt w (.slice (some ⟨g, 0, none⟩) zs.length cap) zs) : BytesAt w (some ⟨g, 0, none⟩) zs := by
  obtain ⟨g1, cap1, cs, e, h1, h2, h3, h4, h5⟩ := h
  injection e with e1 _ e3
  injection e1 with e1
  injection e1 with e1
  subst e1
  refine bytesAt_cells h5 (fun i hi => ?_)
  have := lent_cell h3 h4 i (by rw [List.length_append, marksTo_len]; omega)
  rw [front_at _ _ _ hi] at this
  rw [Nat.zero_add]; exact this
theorem LentAt.keep {w w' : World} {g cap : Nat} {zs : List Int} (h : LentAt w (.slice (some ⟨g, 0, none⟩) zs.length cap) zs) (hk : w'.heap[g]? = w.heap[g]?) : LentAt w' (.slice (some ⟨g, 0, none⟩) zs.length cap) zs := by
  obtain ⟨g1, cap1, cs, e, h1, h2, h3, h4, h5⟩ := h
  injection e with e1 _ e3
  injection e1 with e1
  injection e1 with e1
  subst e1 e3
  exact ⟨g, cap, cs, rfl, h1, h2, hk.trans h3, h4, h5⟩
section
variable {σ : SenD} {w0 w : World} {Td Tr : Nat → Prop} {hd hr : Nat} {D : DM}
set_option maxRecDepth 100000 in
set_option maxHeartbeats 4000000 in
theorem does_write1 (hG : GlD σ w0) (k : Two w0 w Td Tr hd hr D D) (hF : D.Few 1000000) (x : DeedV) (hx : x.ok w0) (hq : x.what % 9 = 1) :
    Calls Tryd.prog 11 (doesV hd hr x) w (Did w0 hd hr (D.deed x)) := by
  have Hst : Hid (D.deed x = (D.write x.n x.bs).2) := Lib.hid (by unfold DM.deed; rw [if_neg (by omega), if_pos (by omega)])
  have hbn := below_new w (deedO x)
  have k1 := k.on hbn
  have hB := BlockIs.made w 36 #[.int .i64 x.what, .int .i64 x.n, .slice x.A x.bs.length x.c, .int .i64 x.torn, .int .i64 x.part, .int .u32 (x.mask : Int)]
  have K1 := Lib.hid (And.intro k1 (And.intro hB (Free.mk (k.new (Nat.le_refl w.heap.size)).1 (k.new (Nat.le_refl w.heap.size)).2.1 hB.lt)))
  have HG := Lib.hid hG
  have HF := Lib.hid hF
  have Hq := Lib.hid hq
  have Hx := Lib.hid hx
  have c0 : (w.alloc (deedO x)).cell? ⟨w.heap.size, 0, none⟩ = some (.int .i64 x.what) := hB.cell 0
  have c2 : (w.alloc (deedO x)).cell? ⟨w.heap.size, 2, none⟩ = some (.slice x.A x.bs.length x.c) := hB.cell 2
  clear k k1 hB hbn hG hF hq hx
  unfold doesV
  go_enter Tryd.func11, Tryd.ntmps11
  go_wp2_with fail
  unfold deedO at *
  generalize (w.alloc (.cells #[.int .i64 x.what, .int .i64 x.n, .slice x.A x.bs.length x.c, .int .i64 x.torn, .int .i64 x.part, .int .u32 (x.mask : Int)] 36)) = w1 at *
  refine (pick_any x.what 9 _ (by decide) (by decide)).mono ?_
  rintro e w' ⟨rfl, rfl⟩
  rw [Hq.out]
  have hbq := beq_same (D.write x.n x.bs).1
  go_wp2_with fail
  refine (lentBytes_new x.bs x.A x.c w1 (Hx.out.bytes.below K1.out.1.d.below) Hx.out.len Hx.out.nil).mono ?_
  rintro e w2 ⟨v, rfl, hv, hb2, hnew⟩
  obtain ⟨g, cap, cs, rfl, hrest⟩ := id hv
  have hg := hnew g rfl
  have hgl : g < w2.heap.size := (Array.getElem?_eq_some_iff.1 hrest.2.2.1).1
  have K2 := Lib.hid (And.intro (K1.out.1.on hb2) (And.intro (K1.out.2.1.below hb2 K1.out.2.2.lt) (And.intro (K1.out.2.2.on hb2.size) (And.intro hv (Free.mk (K1.out.1.new hg).1 (K1.out.1.new hg).2.1 hgl)))))
  have Hne := Lib.hid (show w.heap.size < g from Nat.lt_of_lt_of_le K1.out.2.2.lt hg)
  have Hg0 := Lib.hid (K1.out.1.new hg).2.2
  clear hv hb2 hnew hrest hg hgl c0 c2
  have c1 : w2.cell? ⟨w.heap.size, 1, none⟩ = some (.int .i64 x.n) := K2.out.2.1.cell 1
  go_wp2_with fail
  refine (OwnT.write HG.out K2.out.1.d HF.out x.n (some ⟨g, 0, none⟩) x.bs cap (lent_bytes K2.out.2.2.2.1) (fun _ a e => by cases e; exact K2.out.2.2.2.2.td) Hx.out.len).mono ?_
  rintro e w3 ⟨rfl, h2, h3⟩
  have K3 := Lib.hid (And.intro (K2.out.1.dev h2 h3) (And.intro (K2.out.2.1.keep (h3.block _ K2.out.2.2.1.lt K2.out.2.2.1.td)) (And.intro (K2.out.2.2.1.dev h3.size) (And.intro (K2.out.2.2.2.1.keep (h3.block _ K2.out.2.2.2.2.lt K2.out.2.2.2.2.td)) (K2.out.2.2.2.2.dev h3.size)))))
  clear h2 h3 c1
  have c2 : w3.cell? ⟨w.heap.size, 2, none⟩ = some (.slice x.A x.bs.length x.c) := K3.out.2.1.cell 2
  go_wp2_with fail
  refine (keptBytes_any x.bs (.slice (some ⟨g, 0, none⟩) x.bs.length cap) x.A x.c w3 K3.out.2.2.2.1 (Hx.out.bytes.below K3.out.1.d.below) Hx.out.len).mono ?_
  rintro e w4 ⟨rfl, n4, rfl⟩
  clear c2
  go_wp2_with fail
  refine (overLent_any (w3.drewN n4) (.slice (some ⟨g, 0, none⟩) x.bs.length cap) x.bs (K3.out.2.2.2.1.keep rfl) Hx.out.len).mono ?_
  rintro e w5 ⟨rfl, hg5⟩
  have K5 := Lib.hid (And.intro ((K3.out.1.drewN n4).grown hg5 (fun b e => by cases e; exact ⟨K3.out.2.2.2.2.td, K3.out.2.2.2.2.tr, Hg0.out⟩)) (K3.out.2.1.keep ((hg5.block w.heap.size K3.out.2.2.1.lt (fun e => by
    injection e with e
    have h1 : w.heap.size = g := e
    have := Hne.out; omega)).trans rfl)))
  clear hg5
  have c1 : w5.cell? ⟨w.heap.size, 1, none⟩ = some (.int .i64 x.n) := K5.out.2.cell 1
  have c2 : w5.cell? ⟨w.heap.size, 2, none⟩ = some (.slice x.A x.bs.length x.c) := K5.out.2.cell 2
  go_wp2_with fail
  refine (write3_any K5.out.1.r HF.out x.n x.A x.bs x.c (Hx.out.bytes.below K5.out.1.d.below) (fun hne a e => (K5.out.1.old (Hx.out.old hne a e)).2) Hx.out.len).mono ?_
  rintro e w6 ⟨rfl, h2⟩
  have K6 := Lib.hid (K5.out.1.ref h2)
  clear h2 c1 c2
  go_wp2_with fail
  go_ret
  exact ⟨rfl, _, _, by rw [Hst.out]; exact K6.out⟩
set_option maxRecDepth 100000 in
set_option maxHeartbeats 4000000 in
theorem does_write2 (hG : GlD σ w0) (k : Two w0 w Td Tr hd hr D D) (hF : D.Few 1000000) (x : DeedV) (hx : x.ok w0) (hq : x.what % 9 = 2) :
    Calls Tryd.prog 11 (doesV hd hr x) w (Did w0 hd hr (D.deed x)) := by
  have Hst : Hid (D.deed x = (D.write x.n x.bs).2) := Lib.hid (by unfold DM.deed; rw [if_neg (by omega), if_pos (by omega)])
  have hbn := below_new w (deedO x)
  have k1 := k.on hbn
  have hB := BlockIs.made w 36 #[.int .i64 x.what, .int .i64 x.n, .slice x.A x.bs.length x.c, .int .i64 x.torn, .int .i64 x.part, .int .u32 (x.mask : Int)]
  have K1 := Lib.hid (And.intro k1 (And.intro hB (Free.mk (k.new (Nat.le_refl w.heap.size)).1 (k.new (Nat.le_refl w.heap.size)).2.1 hB.lt)))
  have HG := Lib.hid hG
  have HF := Lib.hid hF
  have Hq := Lib.hid hq
  have Hx := Lib.hid hx
  have c0 : (w.alloc (deedO x)).cell? ⟨w.heap.size, 0, none⟩ = some (.int .i64 x.what) := hB.cell 0
  have c2 : (w.alloc (deedO x)).cell? ⟨w.heap.size, 2, none⟩ = some (.slice x.A x.bs.length x.c) := hB.cell 2
  clear k k1 hB hbn hG hF hq hx
  unfold doesV
  go_enter Tryd.func11, Tryd.ntmps11
  go_wp2_with fail
  unfold deedO at *
  generalize (w.alloc (.cells #[.int .i64 x.what, .int .i64 x.n, .slice x.A x.bs.length x.c, .int .i64 x.torn, .int .i64 x.part, .int .u32 (x.mask : Int)] 36)) = w1 at *
  refine (pick_any x.what 9 _ (by decide) (by decide)).mono ?_
  rintro e w' ⟨rfl, rfl⟩
  rw [Hq.out]
  have hbq := beq_same (D.write x.n x.bs).1
  go_wp2_with fail
  refine (lentBytes_new x.bs x.A x.c w1 (Hx.out.bytes.below K1.out.1.d.below) Hx.out.len Hx.out.nil).mono ?_
  rintro e w2 ⟨v, rfl, hv, hb2, hnew⟩
  obtain ⟨g, cap, cs, rfl, hrest⟩ := id hv
  have hg := hnew g rfl
  have hgl : g < w2.heap.size := (Array.getElem?_eq_some_iff.1 hrest.2.2.1).1
  have K2 := Lib.hid (And.intro (K1.out.1.on hb2) (And.intro (K1.out.2.1.below hb2 K1.out.2.2.lt) (And.intro (K1.out.2.2.on hb2.size) (And.intro hv (Free.mk (K1.out.1.new hg).1 (K1.out.1.new hg).2.1 hgl)))))
  have Hne := Lib.hid (show w.heap.size < g from Nat.lt_of_lt_of_le K1.out.2.2.lt hg)
  have Hg0 := Lib.hid (K1.out.1.new hg).2.2
  clear hv hb2 hnew hrest hg hgl c0 c2
  have c1 : w2.cell? ⟨w.heap.size, 1, none⟩ = some (.int .i64 x.n) := K2.out.2.1.cell 1
  go_wp2_with fail
  refine (OwnT.write HG.out K2.out.1.d HF.out x.n (some ⟨g, 0, none⟩) x.bs cap (lent_bytes K2.out.2.2.2.1) (fun _ a e => by cases e; exact K2.out.2.2.2.2.td) Hx.out.len).mono ?_
  rintro e w3 ⟨rfl, h2, h3⟩
  have K3 := Lib.hid (And.intro (K2.out.1.dev h2 h3) (And.intro (K2.out.2.1.keep (h3.block _ K2.out.2.2.1.lt K2.out.2.2.1.td)) (And.intro (K2.out.2.2.1.dev h3.size) (And.intro (K2.out.2.2.2.1.keep (h3.block _ K2.out.2.2.2.2.lt K2.out.2.2.2.2.td)) (K2.out.2.2.2.2.dev h3.size)))))
  clear h2 h3 c1
  have c2 : w3.cell? ⟨w.heap.size, 2, none⟩ = some (.slice x.A x.bs.length x.c) := K3.out.2.1.cell 2
  go_wp2_with fail
  refine (keptBytes_any x.bs (.slice (some ⟨g, 0, none⟩) x.bs.length cap) x.A x.c w3 K3.out.2.2.2.1 (Hx.out.bytes.below K3.out.1.d.below) Hx.out.len).mono ?_
  rintro e w4 ⟨rfl, n4, rfl⟩
  clear c2
  go_wp2_with fail
  refine (overLent_any (w3.drewN n4) (.slice (some ⟨g, 0, none⟩) x.bs.length cap) x.bs (K3.out.2.2.2.1.keep rfl) Hx.out.len).mono ?_
  rintro e w5 ⟨rfl, hg5⟩
  have K5 := Lib.hid (And.intro ((K3.out.1.drewN n4).grown hg5 (fun b e => by cases e; exact ⟨K3.out.2.2.2.2.td, K3.out.2.2.2.2.tr, Hg0.out⟩)) (K3.out.2.1.keep ((hg5.block w.heap.size K3.out.2.2.1.lt (fun e => by
    injection e with e
    have h1 : w.heap.size = g := e
    have := Hne.out; omega)).trans rfl)))
  clear hg5
  have c1 : w5.cell? ⟨w.heap.size, 1, none⟩ = some (.int .i64 x.n) := K5.out.2.cell 1
  have c2 : w5.cell? ⟨w.heap.size, 2, none⟩ = some (.slice x.A x.bs.length x.c) := K5.out.2.cell 2
  go_wp2_with fail
  refine (write3_any K5.out.1.r HF.out x.n x.A x.bs x.c (Hx.out.bytes.below K5.out.1.d.below) (fun hne a e => (K5.out.1.old (Hx.out.old hne a e)).2) Hx.out.len).mono ?_
  rintro e w6 ⟨rfl, h2⟩
  have K6 := Lib.hid (K5.out.1.ref h2)
  clear h2 c1 c2
  go_wp2_with fail
  go_ret
  exact ⟨rfl, _, _, by rw [Hst.out]; exact K6.out⟩
theorem does_any (hG : GlD σ w0) (hS : GlS σ w0) (k : Two w0 w Td Tr hd hr D D) (hF : D.Few 1000000) (x : DeedV) (hx : x.ok w0) :
    Calls Tryd.prog 11 (doesV hd hr x) w (Did w0 hd hr (D.deed x)) := by
  have h : x.what % 9 = 0 ∨ x.what % 9 = 1 ∨ x.what % 9 = 2 ∨ x.what % 9 = 3 ∨ x.what % 9 = 4 ∨ x.what % 9 = 5 ∨ x.what % 9 = 6 ∨ x.what % 9 = 7 ∨ x.what % 9 = 8 := by omega
  rcases h with h | h | h | h | h | h | h | h | h
  · exact does_read hG k hF x h
  · exact does_write1 hG k hF x hx h
  · exact does_write2 hG k hF x hx h
  · exact does_sync hG k hF x h
  · exact does_arm hG k hF x h hx.n
  · exact does_crash hG k hF x h
  · exact does_wake hG k hF x h
  · exact does_rot hG k hF x h hS hx.mask
  · exact does_wipe hG k hF x h hS
end
end Go.Proofs.YtgjdoiblgbdebaaDoor
