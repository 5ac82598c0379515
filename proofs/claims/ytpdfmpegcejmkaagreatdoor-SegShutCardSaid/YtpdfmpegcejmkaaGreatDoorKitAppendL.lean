/- seg: how a body is laid. -/
/- What a reader gets of a record's body: plain mathematics. -/
/- append onto bytes that are owned, of any bytes, in a region that does not draw its order. -/
import Derived.Test.YtpdfmpegcejmkaaGreatDoorFlawAs
import Derived.Test.YtpdfmpegcejmkaaGreatDoorUnitLaid
import Derived.Deep.RegionHeld3
import Derived.Test.YtpdfmpegcejmkaaGreatDoorRef8Rec
namespace Go.Proofs.YtpdfmpegcejmkaaGreatDoor
open Go.RowKit
/-- The writer in block g has these bytes; what it has besides is not older than lo. -/
def WrN (lo : Nat) (w : World) (g : Nat) (bs : List Int) : Prop := ∃ S, WrAt w S g (some bs) ∧ ∀ k, S k → lo ≤ k
section
variable {lo g : Nat} {w w' : World} {bs : List Int}
theorem WrN.below (h : WrN lo w g bs) (hb : Below w.heap.size w w') : WrN lo w' g bs := by
  obtain ⟨S, h1, h2⟩ := h
  exact ⟨S, h1.below hb, h2⟩
theorem WrN.lt (h : WrN lo w g bs) : g < w.heap.size := by
  obtain ⟨S, h1, h2⟩ := h
  exact h1.lt
theorem WrN.new (w : World) (t : TypeId) : WrN w.heap.size (w.alloc (.cells #[.pointer none, .bool false] t)) w.heap.size [] :=
  ⟨fun _ => False, ⟨fun _ h => h.elim, ⟨none, [], ⟨t, BlockIs.made w t _⟩, rfl, rfl⟩⟩, fun _ h => h.elim⟩
theorem WrN.put (h : WrN lo w g bs) (hlo : lo ≤ w.heap.size) {q : Nat} {wd n : Int} (hq : BlockIs w q 3 #[.int .i64 n]) (h0 : 0 ≤ top wd) (h1 : 0 ≤ n) (h2 : n ≤ top wd) :
    Calls Tryz.prog 75 #[.pointer (some ⟨g, 0, none⟩), .int .i64 wd, .slice (some ⟨q, 0, none⟩) 1 1] w fun e w' => e = .returned (.tuple #[]) ∧ WrN lo w' g (bs ++ le wd.toNat n) ∧ w.grownBy w' (some g) := by
  obtain ⟨S, k1, k2⟩ := h
  have hn : ∀ z ∈ [n], -9223372036854775808 ≤ z ∧ z ≤ 9223372036854775807 := fun z hz => by
    obtain rfl := List.mem_singleton.1 hz
    rcases top_cases wd with ⟨_, t⟩ | ⟨_, t⟩ | ⟨_, t⟩ | ⟨_, t⟩ | ⟨_, _, _, _, t⟩ <;> omega
  have hI : IntsAt w (some ⟨q, 0, none⟩) [n] := ⟨hn, fun _ => ⟨q, 0, rfl, fun i hi => by
    obtain rfl : i = 0 := by simpa using hi
    exact hq.cell 0⟩⟩
  have hk := field_any w S g _ k1 wd _ 1 [n] hI (by simp)
  rw [fieldsB_one wd n h0 h1 h2] at hk
  refine hk.mono ?_
  rintro e w' ⟨rfl, hP⟩
  exact ⟨rfl, ⟨_, hP.wr, fun k hk => hk.elim (k2 k) (fun h => by have := h.1; omega)⟩, hP.fr⟩
theorem WrN.bytes (h : WrN lo w g bs) (hl : bs.length ≤ 1000000) :
    Calls Tryz.prog 104 #[.pointer (some ⟨g, 0, none⟩)] w fun e w' => ∃ v, e = .returned (.tuple #[v, .bool true]) ∧ w'.ownsRow w.heap.size 5 1 v bs.length (u8s bs) ∧ Below w.heap.size w w' := by
  obtain ⟨S, k1, k2⟩ := h
  exact wbytes_some w S g bs k1 hl
end
/-- An ident's Term and Kind are numbers that fields take. -/
def IdentI.fits (i : IdentI) : Prop := (0 ≤ i.term ∧ i.term ≤ 1099511627776) ∧ (0 ≤ i.kind ∧ i.kind ≤ 255)
/-- Amid a row of idents: the writer, the row. -/
structure IdW (lo g q : Nat) (cs : Array Value) (w : World) (bs : List Int) (W : World) : Prop where
  n : WrN lo W g bs
  f : w.grownBy W (some g)
  q : BlockIs W q 26 cs
  l : lo ≤ W.heap.size
section
variable {lo g q : Nat} {cs : Array Value} {w W W' : World} {bs : List Int}
theorem IdW.below (h : IdW lo g q cs w bs W) (hb : Below W.heap.size W W') : IdW lo g q cs w bs W' := ⟨h.n.below hb, h.f.trans (grown_below hb _), h.q.below hb h.q.lt, Nat.le_trans h.l hb.size⟩
theorem IdW.put (h : IdW lo g q cs w bs W) (hqg : q ≠ g) {y : Nat} {wd n : Int} (hy : BlockIs W y 3 #[.int .i64 n]) (h0 : 0 ≤ top wd) (h1 : 0 ≤ n) (h2 : n ≤ top wd) :
    Calls Tryz.prog 75 #[.pointer (some ⟨g, 0, none⟩), .int .i64 wd, .slice (some ⟨y, 0, none⟩) 1 1] W fun e w' => e = .returned (.tuple #[]) ∧ IdW lo g q cs w (bs ++ le wd.toNat n) w' ∧ W.grownBy w' (some g) := by
  refine (h.n.put h.l hy h0 h1 h2).mono ?_
  rintro e w' ⟨rfl, n2, g2⟩
  exact ⟨rfl, ⟨n2, h.f.trans g2, h.q.kept g2 (fun e => hqg (Option.some.inj e)), Nat.le_trans h.l g2.size⟩, g2⟩
end
-- IDENTS
set_option maxRecDepth 100000 in
set_option maxHeartbeats 4000000 in
theorem gidents1 (lo g q : Nat) (w : World) (bs : List Int) (h : WrN lo w g bs) (hlo : lo ≤ w.heap.size) (a : IdentI) (ha : a.fits) (hq : BlockIs w q 26 #[.int .i64 a.idx, .int .i64 a.term, .int .i64 a.kind]) (hqg : q ≠ g) :
    Calls Tryz.prog 76 #[.pointer (some ⟨g, 0, none⟩), .slice (some ⟨q, 0, none⟩) 1 1] w fun e w' => e = .returned (.tuple #[]) ∧ WrN lo w' g (bs ++ (le 6 a.term ++ le 1 a.kind)) ∧ w.grownBy w' (some g) := by
  have t6 : top 6 = 1099511627776 := rfl
  have t1 : top 1 = 255 := rfl
  have Pa0 := Lib.hid (fun (W : World) (y : Nat) (bs' : List Int) (h : IdW lo g q #[.int .i64 a.idx, .int .i64 a.term, .int .i64 a.kind] w bs' W) (hy : BlockIs W y 3 #[.int .i64 a.term]) => h.put hqg hy (wd := 6) (by decide) ha.1.1 (by rw [t6]; exact ha.1.2))
  have Pa1 := Lib.hid (fun (W : World) (y : Nat) (bs' : List Int) (h : IdW lo g q #[.int .i64 a.idx, .int .i64 a.term, .int .i64 a.kind] w bs' W) (hy : BlockIs W y 3 #[.int .i64 a.kind]) => h.put hqg hy (wd := 1) (by decide) ha.2.1 (by rw [t1]; exact ha.2.2))
  have W0 := Lib.hid (show IdW lo g q #[.int .i64 a.idx, .int .i64 a.term, .int .i64 a.kind] w bs w from ⟨h, World.grownBy.refl _ _, hq, hlo⟩)
  clear h hlo hq hqg ha t6 t1
  go_enter Tryz.func76, Tryz.ntmps76
  go_wp2_with fail
  refine wp_loop_rounds 2 ?_
  have q0 : w.cell? ⟨q, 0, none⟩ = some (.int .i64 a.idx) := W0.out.q.cell 0
  have q1 : w.cell? ⟨q, 1, none⟩ = some (.int .i64 a.term) := W0.out.q.cell 1
  have q2 : w.cell? ⟨q, 2, none⟩ = some (.int .i64 a.kind) := W0.out.q.cell 2
  rw [rounds_succ]
  go_wp2_with fail
  clear q0 q1 q2
  have V0 := Lib.hid (W0.out.below (below_new w (.cells #[.int .i64 a.idx, .int .i64 a.term, .int .i64 a.kind] 26)))
  have J0 := Lib.hid (BlockIs.made w 26 #[.int .i64 a.idx, .int .i64 a.term, .int .i64 a.kind])
  have lg0 := Lib.hid (W0.out.n.lt)
  obtain ⟨m0, hm0⟩ : ∃ w1, w.alloc (.cells #[.int .i64 a.idx, .int .i64 a.term, .int .i64 a.kind] 26) = w1 := ⟨_, rfl⟩
  rw [hm0] at V0 J0
  have Hm0 := Lib.hid hm0
  clear hm0
  have X := Lib.hid ((V0.out.below (below_new m0 (.cells #[.int .i64 a.term] 3))).below (Below.refl _ _).drew)
  have Y := Lib.hid (BlockIs.made m0 3 #[.int .i64 a.term])
  have Jx := Lib.hid ((J0.out.below (below_new m0 (.cells #[.int .i64 a.term] 3)) J0.out.lt).below (Below.refl _ _).drew (Nat.lt_of_lt_of_le J0.out.lt (below_new m0 (.cells #[.int .i64 a.term] 3)).size))
  have KP := Lib.hid (Pa0.out _ _ _ X.out Y.out)
  have Je := Lib.hid (fun (W : World) (hg : (m0.alloc (.cells #[.int .i64 a.term] 3)).drew.grownBy W (some g)) => Jx.out.kept hg (fun e => by have := Option.some.inj e; have := lg0.out; omega))
  have c1 := J0.out.cell 1
  have d1 := Jx.out.cell 1
  rw [Hm0.out]
  go_region_held3 (fun w' => w'.cell? ⟨w.heap.size, 1, none⟩ = some (.int .i64 a.term)) (first | exact c1 | exact d1 | exact e1) (
    (go_at_call 75; refine KP.out.mono ?_; rintro e u00 ⟨rfl, n2, g2⟩; have j2 := Je.out _ g2; have e1 := j2.cell 1))
  have Vu00 := Lib.hid n2
  have Ju00 := Lib.hid j2
  clear c1 d1 e1 n2 g2 j2 Je Jx X Y KP
  go_wp2_with fail
  have X := Lib.hid ((Vu00.out.below (below_new u00 (.cells #[.int .i64 a.kind] 3))).below (Below.refl _ _).drew)
  have Y := Lib.hid (BlockIs.made u00 3 #[.int .i64 a.kind])
  have Jx := Lib.hid ((Ju00.out.below (below_new u00 (.cells #[.int .i64 a.kind] 3)) Ju00.out.lt).below (Below.refl _ _).drew (Nat.lt_of_lt_of_le Ju00.out.lt (below_new u00 (.cells #[.int .i64 a.kind] 3)).size))
  have KP := Lib.hid (Pa1.out _ _ _ X.out Y.out)
  have Je := Lib.hid (fun (W : World) (hg : (u00.alloc (.cells #[.int .i64 a.kind] 3)).drew.grownBy W (some g)) => Jx.out.kept hg (fun e => by have := Option.some.inj e; have := lg0.out; omega))
  have c1 := Ju00.out.cell 2
  have d1 := Jx.out.cell 2
  go_region_held3 (fun w' => w'.cell? ⟨w.heap.size, 2, none⟩ = some (.int .i64 a.kind)) (first | exact c1 | exact d1 | exact e1) (
    (go_at_call 75; refine KP.out.mono ?_; rintro e u01 ⟨rfl, n2, g2⟩; have j2 := Je.out _ g2; have e1 := j2.cell 2))
  have Vu01 := Lib.hid n2
  have Ju01 := Lib.hid j2
  clear c1 d1 e1 n2 g2 j2 Je Jx X Y KP
  go_wp2_with fail
  rw [rounds_succ]
  go_wp2_with fail
  go_end0
  exact ⟨rfl, by have h := Vu01.out.n; rw [List.append_assoc] at h; exact h, Vu01.out.f⟩
set_option maxRecDepth 100000 in
set_option maxHeartbeats 4000000 in
theorem gidents2 (lo g q : Nat) (w : World) (bs : List Int) (h : WrN lo w g bs) (hlo : lo ≤ w.heap.size) (a b : IdentI) (ha : a.fits) (hb : b.fits) (hq : BlockIs w q 26 #[.int .i64 a.idx, .int .i64 a.term, .int .i64 a.kind, .int .i64 b.idx, .int .i64 b.term, .int .i64 b.kind]) (hqg : q ≠ g) :
    Calls Tryz.prog 76 #[.pointer (some ⟨g, 0, none⟩), .slice (some ⟨q, 0, none⟩) 2 2] w fun e w' => e = .returned (.tuple #[]) ∧ WrN lo w' g (bs ++ (le 6 a.term ++ (le 1 a.kind ++ (le 6 b.term ++ le 1 b.kind)))) ∧ w.grownBy w' (some g) := by
  have t6 : top 6 = 1099511627776 := rfl
  have t1 : top 1 = 255 := rfl
  have Pa0 := Lib.hid (fun (W : World) (y : Nat) (bs' : List Int) (h : IdW lo g q #[.int .i64 a.idx, .int .i64 a.term, .int .i64 a.kind, .int .i64 b.idx, .int .i64 b.term, .int .i64 b.kind] w bs' W) (hy : BlockIs W y 3 #[.int .i64 a.term]) => h.put hqg hy (wd := 6) (by decide) ha.1.1 (by rw [t6]; exact ha.1.2))
  have Pa1 := Lib.hid (fun (W : World) (y : Nat) (bs' : List Int) (h : IdW lo g q #[.int .i64 a.idx, .int .i64 a.term, .int .i64 a.kind, .int .i64 b.idx, .int .i64 b.term, .int .i64 b.kind] w bs' W) (hy : BlockIs W y 3 #[.int .i64 a.kind]) => h.put hqg hy (wd := 1) (by decide) ha.2.1 (by rw [t1]; exact ha.2.2))
  have Pb0 := Lib.hid (fun (W : World) (y : Nat) (bs' : List Int) (h : IdW lo g q #[.int .i64 a.idx, .int .i64 a.term, .int .i64 a.kind, .int .i64 b.idx, .int .i64 b.term, .int .i64 b.kind] w bs' W) (hy : BlockIs W y 3 #[.int .i64 b.term]) => h.put hqg hy (wd := 6) (by decide) hb.1.1 (by rw [t6]; exact hb.1.2))
  have Pb1 := Lib.hid (fun (W : World) (y : Nat) (bs' : List Int) (h : IdW lo g q #[.int .i64 a.idx, .int .i64 a.term, .int .i64 a.kind, .int .i64 b.idx, .int .i64 b.term, .int .i64 b.kind] w bs' W) (hy : BlockIs W y 3 #[.int .i64 b.kind]) => h.put hqg hy (wd := 1) (by decide) hb.2.1 (by rw [t1]; exact hb.2.2))
  have W0 := Lib.hid (show IdW lo g q #[.int .i64 a.idx, .int .i64 a.term, .int .i64 a.kind, .int .i64 b.idx, .int .i64 b.term, .int .i64 b.kind] w bs w from ⟨h, World.grownBy.refl _ _, hq, hlo⟩)
  clear h hlo hq hqg ha hb t6 t1
  go_enter Tryz.func76, Tryz.ntmps76
  go_wp2_with fail
  refine wp_loop_rounds 3 ?_
  have q0 : w.cell? ⟨q, 0, none⟩ = some (.int .i64 a.idx) := W0.out.q.cell 0
  have q1 : w.cell? ⟨q, 1, none⟩ = some (.int .i64 a.term) := W0.out.q.cell 1
  have q2 : w.cell? ⟨q, 2, none⟩ = some (.int .i64 a.kind) := W0.out.q.cell 2
  rw [rounds_succ]
  go_wp2_with fail
  clear q0 q1 q2
  have V0 := Lib.hid (W0.out.below (below_new w (.cells #[.int .i64 a.idx, .int .i64 a.term, .int .i64 a.kind] 26)))
  have J0 := Lib.hid (BlockIs.made w 26 #[.int .i64 a.idx, .int .i64 a.term, .int .i64 a.kind])
  have lg0 := Lib.hid (W0.out.n.lt)
  obtain ⟨m0, hm0⟩ : ∃ w1, w.alloc (.cells #[.int .i64 a.idx, .int .i64 a.term, .int .i64 a.kind] 26) = w1 := ⟨_, rfl⟩
  rw [hm0] at V0 J0
  have Hm0 := Lib.hid hm0
  clear hm0
  have X := Lib.hid ((V0.out.below (below_new m0 (.cells #[.int .i64 a.term] 3))).below (Below.refl _ _).drew)
  have Y := Lib.hid (BlockIs.made m0 3 #[.int .i64 a.term])
  have Jx := Lib.hid ((J0.out.below (below_new m0 (.cells #[.int .i64 a.term] 3)) J0.out.lt).below (Below.refl _ _).drew (Nat.lt_of_lt_of_le J0.out.lt (below_new m0 (.cells #[.int .i64 a.term] 3)).size))
  have KP := Lib.hid (Pa0.out _ _ _ X.out Y.out)
  have Je := Lib.hid (fun (W : World) (hg : (m0.alloc (.cells #[.int .i64 a.term] 3)).drew.grownBy W (some g)) => Jx.out.kept hg (fun e => by have := Option.some.inj e; have := lg0.out; omega))
  have c1 := J0.out.cell 1
  have d1 := Jx.out.cell 1
  rw [Hm0.out]
  go_region_held3 (fun w' => w'.cell? ⟨w.heap.size, 1, none⟩ = some (.int .i64 a.term)) (first | exact c1 | exact d1 | exact e1) (
    (go_at_call 75; refine KP.out.mono ?_; rintro e u00 ⟨rfl, n2, g2⟩; have j2 := Je.out _ g2; have e1 := j2.cell 1))
  have Vu00 := Lib.hid n2
  have Ju00 := Lib.hid j2
  clear c1 d1 e1 n2 g2 j2 Je Jx X Y KP
  go_wp2_with fail
  have X := Lib.hid ((Vu00.out.below (below_new u00 (.cells #[.int .i64 a.kind] 3))).below (Below.refl _ _).drew)
  have Y := Lib.hid (BlockIs.made u00 3 #[.int .i64 a.kind])
  have Jx := Lib.hid ((Ju00.out.below (below_new u00 (.cells #[.int .i64 a.kind] 3)) Ju00.out.lt).below (Below.refl _ _).drew (Nat.lt_of_lt_of_le Ju00.out.lt (below_new u00 (.cells #[.int .i64 a.kind] 3)).size))
  have KP := Lib.hid (Pa1.out _ _ _ X.out Y.out)
  have Je := Lib.hid (fun (W : World) (hg : (u00.alloc (.cells #[.int .i64 a.kind] 3)).drew.grownBy W (some g)) => Jx.out.kept hg (fun e => by have := Option.some.inj e; have := lg0.out; omega))
  have c1 := Ju00.out.cell 2
  have d1 := Jx.out.cell 2
  go_region_held3 (fun w' => w'.cell? ⟨w.heap.size, 2, none⟩ = some (.int .i64 a.kind)) (first | exact c1 | exact d1 | exact e1) (
    (go_at_call 75; refine KP.out.mono ?_; rintro e u01 ⟨rfl, n2, g2⟩; have j2 := Je.out _ g2; have e1 := j2.cell 2))
  have Vu01 := Lib.hid n2
  have Ju01 := Lib.hid j2
  clear c1 d1 e1 n2 g2 j2 Je Jx X Y KP
  go_wp2_with fail
  have q0 : u01.cell? ⟨q, 3, none⟩ = some (.int .i64 b.idx) := Vu01.out.q.cell 3
  have q1 : u01.cell? ⟨q, 4, none⟩ = some (.int .i64 b.term) := Vu01.out.q.cell 4
  have q2 : u01.cell? ⟨q, 5, none⟩ = some (.int .i64 b.kind) := Vu01.out.q.cell 5
  rw [rounds_succ]
  go_wp2_with fail
  clear q0 q1 q2
  have V1 := Lib.hid (Vu01.out.below (below_new u01 (.cells #[.int .i64 b.idx, .int .i64 b.term, .int .i64 b.kind] 26)))
  have J1 := Lib.hid (BlockIs.made u01 26 #[.int .i64 b.idx, .int .i64 b.term, .int .i64 b.kind])
  have lg1 := Lib.hid (Vu01.out.n.lt)
  obtain ⟨m1, hm1⟩ : ∃ w1, u01.alloc (.cells #[.int .i64 b.idx, .int .i64 b.term, .int .i64 b.kind] 26) = w1 := ⟨_, rfl⟩
  rw [hm1] at V1 J1
  have Hm1 := Lib.hid hm1
  clear hm1
  have X := Lib.hid ((V1.out.below (below_new m1 (.cells #[.int .i64 b.term] 3))).below (Below.refl _ _).drew)
  have Y := Lib.hid (BlockIs.made m1 3 #[.int .i64 b.term])
  have Jx := Lib.hid ((J1.out.below (below_new m1 (.cells #[.int .i64 b.term] 3)) J1.out.lt).below (Below.refl _ _).drew (Nat.lt_of_lt_of_le J1.out.lt (below_new m1 (.cells #[.int .i64 b.term] 3)).size))
  have KP := Lib.hid (Pb0.out _ _ _ X.out Y.out)
  have Je := Lib.hid (fun (W : World) (hg : (m1.alloc (.cells #[.int .i64 b.term] 3)).drew.grownBy W (some g)) => Jx.out.kept hg (fun e => by have := Option.some.inj e; have := lg1.out; omega))
  have c1 := J1.out.cell 1
  have d1 := Jx.out.cell 1
  rw [Hm1.out]
  go_region_held3 (fun w' => w'.cell? ⟨u01.heap.size, 1, none⟩ = some (.int .i64 b.term)) (first | exact c1 | exact d1 | exact e1) (
    (go_at_call 75; refine KP.out.mono ?_; rintro e u10 ⟨rfl, n2, g2⟩; have j2 := Je.out _ g2; have e1 := j2.cell 1))
  have Vu10 := Lib.hid n2
  have Ju10 := Lib.hid j2
  clear c1 d1 e1 n2 g2 j2 Je Jx X Y KP
  go_wp2_with fail
  have X := Lib.hid ((Vu10.out.below (below_new u10 (.cells #[.int .i64 b.kind] 3))).below (Below.refl _ _).drew)
  have Y := Lib.hid (BlockIs.made u10 3 #[.int .i64 b.kind])
  have Jx := Lib.hid ((Ju10.out.below (below_new u10 (.cells #[.int .i64 b.kind] 3)) Ju10.out.lt).below (Below.refl _ _).drew (Nat.lt_of_lt_of_le Ju10.out.lt (below_new u10 (.cells #[.int .i64 b.kind] 3)).size))
  have KP := Lib.hid (Pb1.out _ _ _ X.out Y.out)
  have Je := Lib.hid (fun (W : World) (hg : (u10.alloc (.cells #[.int .i64 b.kind] 3)).drew.grownBy W (some g)) => Jx.out.kept hg (fun e => by have := Option.some.inj e; have := lg1.out; omega))
  have c1 := Ju10.out.cell 2
  have d1 := Jx.out.cell 2
  go_region_held3 (fun w' => w'.cell? ⟨u01.heap.size, 2, none⟩ = some (.int .i64 b.kind)) (first | exact c1 | exact d1 | exact e1) (
    (go_at_call 75; refine KP.out.mono ?_; rintro e u11 ⟨rfl, n2, g2⟩; have j2 := Je.out _ g2; have e1 := j2.cell 2))
  have Vu11 := Lib.hid n2
  have Ju11 := Lib.hid j2
  clear c1 d1 e1 n2 g2 j2 Je Jx X Y KP
  go_wp2_with fail
  rw [rounds_succ]
  go_wp2_with fail
  go_end0
  exact ⟨rfl, by have h := Vu11.out.n; simp only [List.append_assoc] at h; exact h, Vu11.out.f⟩
end Go.Proofs.YtpdfmpegcejmkaaGreatDoor
namespace Go.Proofs.YtpdfmpegcejmkaaGreatDoor
open Mx
theorem fieldR_two (bs : List Int) (w : Int) (k : Nat) (ht : 0 ≤ top w) :
    ((∃ p l, fieldR bs w (.ok k) = (0, .bad p l)) ∧ (w > (bs.length : Int) - k ∨ unle ((bs.drop k).take w.toNat) > top w)) ∨
    (fieldR bs w (.ok k) = (unle ((bs.drop k).take w.toNat), .ok (k + w.toNat)) ∧ w ≤ (bs.length : Int) - k ∧ unle ((bs.drop k).take w.toNat) ≤ top w) := by
  by_cases h1 : w > (bs.length : Int) - k
  · refine .inl ⟨⟨k, false, ?_⟩, .inl h1⟩
    simp only [fieldR]
    rw [if_pos (.inr h1)]
  · by_cases h2 : unle ((bs.drop k).take w.toNat) > top w
    · refine .inl ⟨⟨k, false, ?_⟩, .inr h2⟩
      simp only [fieldR]
      rw [if_neg (by omega), if_pos h2]
    · refine .inr ⟨?_, by omega, by omega⟩
      simp only [fieldR]
      rw [if_neg (by omega), if_neg h2]
theorem fieldR_bad (bs : List Int) (w : Int) (p : Nat) (l : Bool) : fieldR bs w (.bad p l) = (0, .bad p l) := by simp only [fieldR]
/-- What is told by a reader that went so far. -/
def readE (n : Int) (bs : List Int) (n1 n2 n3 n4 : Int) : RSt → Ent × IdentI × Int
  | .bad _ _ => (noEnt, noIdent, 4)
  | .ok j => if (recordR ⟨n - 1, n1, n2⟩ ⟨n, n3, n4, bs.drop j⟩).2 ≠ 0 then (noEnt, noIdent, 4) else (⟨n, n3, n4, bs.drop j⟩, ⟨n - 1, n1, n2⟩, 0)
theorem record_zero {a : IdentI} {e : Ent} : (recordR a e).2 = 0 ↔ rightB e = true ∧ aheadI a e.index := by
  unfold recordR
  by_cases h : rightB e = false
  · rw [if_pos h]; simp [h]
  · rw [if_neg h]
    by_cases h2 : aheadI a e.index
    · rw [if_neg (fun x => x h2)]; simp [h2, h]
    · rw [if_pos h2]; simp [h2]
theorem parted_no {n : Int} {bs : List Int} (h : bs.length < 14 ∨ unle (bs.take 6) > 1099511627776 ∨ unle ((bs.drop 7).take 6) > 1099511627776) : partedE n bs = (noEnt, noIdent, 4) := by
  unfold partedE
  rw [if_neg]
  rintro ⟨h1, h2, h3⟩
  obtain ⟨_, _, r3, _⟩ := ent_right h2
  obtain ⟨_, k2, _⟩ := known_bd h3.1
  have r3 : unle ((bs.drop 7).take 6) ≤ 1099511627776 := r3.2
  have k2 : unle (bs.take 6) ≤ 1099511627776 := k2.2
  omega
theorem parted_read (n : Int) (bs : List Int) (hb : ∀ z ∈ bs, 0 ≤ z ∧ z < 256) :
    partedE n bs = readE n bs (fieldR bs 6 (.ok 0)).1 (fieldR bs 1 (fieldR bs 6 (.ok 0)).2).1 (fieldR bs 6 (fieldR bs 1 (fieldR bs 6 (.ok 0)).2).2).1 (fieldR bs 1 (fieldR bs 6 (fieldR bs 1 (fieldR bs 6 (.ok 0)).2).2).2).1 (fieldR bs 1 (fieldR bs 6 (fieldR bs 1 (fieldR bs 6 (.ok 0)).2).2).2).2 := by
  have t6 : top 6 = 1099511627776 := rfl
  have t1 : top 1 = 255 := rfl
  have hle1 : ∀ k, unle ((bs.drop k).take 1) ≤ 255 := fun k => by
    cases hq : bs.drop k with
    | nil => simp [unle]
    | cons z l =>
      have hz := hb z (List.mem_of_mem_drop (by rw [hq]; exact List.mem_cons_self))
      simp [unle]; omega
  rcases fieldR_two bs 6 0 (by rw [t6]; decide) with ⟨⟨p, l, e1⟩, h1⟩ | ⟨e1, h1, h1'⟩
  · rw [e1, fieldR_bad, fieldR_bad, fieldR_bad]
    refine parted_no ?_
    rcases h1 with h | h
    · exact .inl (by omega)
    · exact .inr (.inl (by rw [t6] at h; exact h))
  · rw [e1]
    simp only
    rcases fieldR_two bs 1 (0 + (6 : Int).toNat) (by rw [t1]; decide) with ⟨⟨p, l, e2⟩, h2⟩ | ⟨e2, h2, h2'⟩
    · rw [e2, fieldR_bad, fieldR_bad]
      refine parted_no (.inl ?_)
      rcases h2 with h | h
      · have : ((0 + (6 : Int).toNat : Nat) : Int) = 6 := rfl
        omega
      · have := hle1 (0 + (6 : Int).toNat)
        rw [t1] at h
        exact absurd h (Int.not_lt.2 this)
    · rw [e2]
      simp only
      rcases fieldR_two bs 6 (0 + (6 : Int).toNat + (1 : Int).toNat) (by rw [t6]; decide) with ⟨⟨p, l, e3⟩, h3⟩ | ⟨e3, h3, h3'⟩
      · rw [e3, fieldR_bad]
        refine parted_no ?_
        rcases h3 with h | h
        · have : ((0 + (6 : Int).toNat + (1 : Int).toNat : Nat) : Int) = 7 := rfl
          exact .inl (by omega)
        · exact .inr (.inr (by rw [t6] at h; exact h))
      · rw [e3]
        simp only
        rcases fieldR_two bs 1 (0 + (6 : Int).toNat + (1 : Int).toNat + (6 : Int).toNat) (by rw [t1]; decide) with ⟨⟨p, l, e4⟩, h4⟩ | ⟨e4, h4, h4'⟩
        · rw [e4]
          refine parted_no (.inl ?_)
          rcases h4 with h | h
          · have : ((0 + (6 : Int).toNat + (1 : Int).toNat + (6 : Int).toNat : Nat) : Int) = 13 := rfl
            omega
          · have := hle1 (0 + (6 : Int).toNat + (1 : Int).toNat + (6 : Int).toNat)
            rw [t1] at h
            exact absurd h (Int.not_lt.2 this)
        · rw [e4]
          have hl : 14 ≤ bs.length := by
            have : ((0 + (6 : Int).toNat + (1 : Int).toNat + (6 : Int).toNat : Nat) : Int) = 13 := rfl
            omega
          show partedE n bs = if (recordR (bodyA n bs) (bodyE n bs)).2 ≠ 0 then (noEnt, noIdent, 4) else (bodyE n bs, bodyA n bs, 0)
          unfold partedE
          by_cases hr : rightB (bodyE n bs) = true ∧ aheadI (bodyA n bs) n
          · rw [if_pos ⟨hl, hr⟩, if_neg (fun h => h (record_zero.2 hr))]
          · rw [if_neg (fun h => hr h.2), if_pos (fun h => hr (record_zero.1 h))]
end Go.Proofs.YtpdfmpegcejmkaaGreatDoor
namespace Go.Proofs.YtpdfmpegcejmkaaGreatDoor
open Go.RowKit
theorem wpList_append_own8 {w : World} {ops : Array Oper} {rest : List Oper} {o : Oper} {a : Act} {Q : Exit → Act → World → Prop} (hgd : o.guard = none) (s x : Operand)
    (ho : o.op = .call { callee := .builtin .append, args := #[s, x], argTypes := #[27, 27] }) (base : Nat) (v : Value) (n : Nat) (xs : List Int) (hs : a.eval s = v) (hown : w.ownsRow base 5 1 v n (u8s xs))
    (A : Option Addr) (zs : List Int) (m c : Nat) (hx : a.eval x = .slice A m c) (hm : zs.length = m) (hz : BytesAt w A zs) (hA : A = none → c = 0) (hb : n + m ≤ 140737488355328) (hbase : base ≤ w.heap.size)
    (h : ∀ v' w', w'.ownsRow base 5 1 v' (n + m) (u8s (xs ++ zs)) → w.grownBy w' v.ownBlock → (v'.ownBlock = v.ownBlock ∨ ∃ b, v'.ownBlock = some b ∧ w.heap.size ≤ b) → wpList Tryz.prog ops Q rest (a.put o.dst v') w') : wpList Tryz.prog ops Q (o :: rest) a w := by
  obtain ⟨i0, hi, hz0, hz1, hz2⟩ := info_parts infoByte
  subst hm
  cases A with
  | none =>
    have hnil : zs = [] := by
      apply Classical.byContradiction
      intro hne
      obtain ⟨b, off, e⟩ := hz.some_ hne
      cases e
    subst hnil
    obtain rfl : c = 0 := hA rfl
    refine wpList_append_own_none hgd s x 27 ho base 5 i0 1 Tryz.underlying27 hi v n (u8s xs) hs hown hx ?_
    exact h v w (own_same hown (by simp) (by simp)) (World.grownBy.refl _ _) (.inl rfl)
  | some ad =>
    have hsrc : ∀ j u, (u8s zs)[j]? = some u → w.cell? (ad.add j) = some u := fun j u hj => by
      have hne : zs ≠ [] := by intro e; subst e; simp [u8s] at hj
      obtain ⟨b, off, e, hc⟩ := hz.2 hne
      obtain rfl : ad = ⟨b, off, none⟩ := by simpa using e
      simp only [u8s, List.getElem?_map] at hj
      cases hq : zs[j]? with
      | none => simp [hq] at hj
      | some z =>
        obtain rfl : Value.int .u8 z = u := by simpa [hq] using hj
        have h1 := hc j (List.getElem?_eq_some_iff.1 hq).1
        rw [List.getD_eq_getElem?_getD, hq] at h1
        have hadd : (⟨b, off, none⟩ : Addr).add j = ⟨b, off + j, none⟩ := by unfold Addr.add; split <;> simp_all
        rw [hadd]; exact h1
    refine wpList_append_own_at (w := w) hgd s x 27 ho base 5 i0 (.int .u8 0) 1 1 Tryz.underlying27 hi hz0 hz1 hz2 rfl (by decide) v n (u8s xs) hs hown ad zs.length c (u8s zs) hx (by rw [u8s_len, Nat.mul_one]) hsrc (u8s_one zs) (by unfold maxLen; omega) (by omega) hbase ?_
    intro v' w' h1 h2 _ h5
    exact h v' w' (own_same h1 rfl (by rw [u8s_app])) h2 (h5.imp id fun e => ⟨_, e, Nat.le_refl _⟩)
end Go.Proofs.YtpdfmpegcejmkaaGreatDoor
