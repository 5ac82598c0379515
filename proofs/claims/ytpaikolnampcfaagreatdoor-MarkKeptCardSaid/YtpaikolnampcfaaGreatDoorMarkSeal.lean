/- A mark's block: the package's. -/
import Derived.Test.YtpaikolnampcfaaGreatDoorMarkAwake
import Derived.Test.YtpaikolnampcfaaGreatDoorMarkPlace
import Derived.Test.YtpaikolnampcfaaGreatDoorMarkRight
import Derived.Test.YtpaikolnampcfaaGreatDoorUnitCopy
import Derived.Test.YtpaikolnampcfaaGreatDoorUnitSealR
namespace Go.Proofs.YtpaikolnampcfaaGreatDoor
open Go.RowKit
theorem field_put1 {w : World} {S : Nat → Prop} {g : Nat} {bs : List Int} (h : WrAt w S g (some bs)) (wd n : Int) (h0 : 0 ≤ top wd) (h1 : 0 ≤ n) (h2 : n ≤ top wd) :
    Calls Tryz.prog 131 #[.pointer (some ⟨g, 0, none⟩), .int .i64 wd, .slice (some ⟨w.heap.size, 0, none⟩) 1 1] (w.alloc (.cells #[.int .i64 n] 3)) fun e w' => e = .returned (.tuple #[]) ∧ Put (w.alloc (.cells #[.int .i64 n] 3)) S g (some (bs ++ le wd.toNat n)) w' := by
  have hn : ∀ z ∈ [n], -9223372036854775808 ≤ z ∧ z ≤ 9223372036854775807 := fun z hz => by
    obtain rfl := List.mem_singleton.1 hz
    rcases top_cases wd with ⟨_, t⟩ | ⟨_, t⟩ | ⟨_, t⟩ | ⟨_, t⟩ | ⟨_, _, _, _, t⟩ <;> omega
  have hk := field_any _ S g _ (h.below (below_new w (.cells #[.int .i64 n] 3))) wd _ 1 [n] (intsAt_lit w [n] hn) (by simp)
  rw [fieldsB_one wd n h0 h1 h2] at hk
  exact hk
theorem fieldsB_two (x y : Int) (hx : 0 ≤ x ∧ x ≤ 1099511627776) (hy : 0 ≤ y ∧ y ≤ 1099511627776) : fieldsB 6 [x, y] = some (le 6 x ++ le 6 y) := by
  have t6 : top 6 = 1099511627776 := rfl
  unfold fieldsB
  rw [if_neg (by rw [t6]; decide), if_pos]
  · simp
  · unfold inTop
    simp [t6]
    omega
theorem field_put2 {w : World} {S : Nat → Prop} {g : Nat} {bs : List Int} (h : WrAt w S g (some bs)) (x y : Int) (hx : 0 ≤ x ∧ x ≤ 1099511627776) (hy : 0 ≤ y ∧ y ≤ 1099511627776) :
    Calls Tryz.prog 131 #[.pointer (some ⟨g, 0, none⟩), .int .i64 6, .slice (some ⟨w.heap.size, 0, none⟩) 2 2] (w.alloc (.cells #[.int .i64 x, .int .i64 y] 3)) fun e w' => e = .returned (.tuple #[]) ∧ Put (w.alloc (.cells #[.int .i64 x, .int .i64 y] 3)) S g (some (bs ++ (le 6 x ++ le 6 y))) w' := by
  have hn : ∀ z ∈ [x, y], -9223372036854775808 ≤ z ∧ z ≤ 9223372036854775807 := fun z hz => by
    simp only [List.mem_cons, List.not_mem_nil, or_false] at hz
    rcases hz with rfl | rfl <;> omega
  have hk := field_any _ S g _ (h.below (below_new w (.cells #[.int .i64 x, .int .i64 y] 3))) 6 _ 2 [x, y] (intsAt_lit w [x, y] hn) (by simp)
  rw [fieldsB_two x y hx hy] at hk
  exact hk
set_option maxRecDepth 100000 in
set_option maxHeartbeats 4000000 in
theorem ksealed_any (w : World) (k : Int) (m : MarkV) (hm : m.right) (hk : sortK k) :
    Calls Tryz.prog 110 #[.int .i64 k, m.val] w fun e w' => ∃ v, e = .returned v ∧ w'.ownsRow w.heap.size 5 1 v 256 (u8s (sealB (m.unit k))) ∧ Below w.heap.size w w' := by
  obtain ⟨b1, b2, b3⟩ := known_bd hm.2.2
  have hr := mark_right hm hk
  have hbx := below_new w (.cells #[.int .i64 m.ver, .int .i64 m.idx, .int .i64 m.term, .int .i64 m.kind, .int .i64 m.void] 26)
  have hB := BlockIs.made w 26 #[.int .i64 m.ver, .int .i64 m.idx, .int .i64 m.term, .int .i64 m.kind, .int .i64 m.void]
  have hb2 := hbx.alloc hbx.size (.cells #[.pointer none, .bool false] 197)
  have hW := BlockIs.made (w.alloc (.cells #[.int .i64 m.ver, .int .i64 m.idx, .int .i64 m.term, .int .i64 m.kind, .int .i64 m.void] 26)) 197 #[.pointer none, .bool false]
  have hB2 := hB.below (below_new _ (.cells #[.pointer none, .bool false] 197)) hB.lt
  simp only [World.size_alloc] at hW
  have Hs := Lib.hid (show (([] ++ (le 6 m.idx ++ le 6 m.term)) ++ le (1 : Int).toNat m.kind) ++ le (6 : Int).toNat m.void = (m.unit k).body by show _ = le 6 m.idx ++ (le 6 m.term ++ (le 1 m.kind ++ le 6 m.void)); simp [List.append_assoc])
  have H1 := Lib.hid (fun (W : World) (S : Nat → Prop) (h : WrAt W S (w.heap.size + 1) (some [])) => field_put2 h m.idx m.term b1 b2)
  have H2 := Lib.hid (fun (W : World) (S : Nat → Prop) (bs : List Int) (h : WrAt W S (w.heap.size + 1) (some bs)) => field_put1 h 1 m.kind (by decide) b3.1 (Int.le_trans b3.2 (by decide)))
  have H3 := Lib.hid (fun (W : World) (S : Nat → Prop) (bs : List Int) (h : WrAt W S (w.heap.size + 1) (some bs)) => field_put1 h 6 m.void (by decide) hm.2.1.1 hm.2.1.2)
  have hSl : ∀ (W : World) (A : Option Addr) (c : Nat), BytesAt W A (m.unit k).body → 19 ≤ c → c ≤ 9223372036854775807 → Calls Tryz.prog 133 #[.agg #[.int .i64 k, .int .i64 m.ver, .slice A 19 c]] W fun e w' => ∃ v, e = .returned (.tuple #[v, .int .i64 0]) ∧ w'.ownsRow W.heap.size 5 1 v 256 (u8s (sealB (m.unit k))) ∧ Below W.heap.size W w' := fun W A c hb hc hmx => by
    have h := useal_any W (m.unit k) A c hb (by rw [mark_len]; exact hc) hmx
    rw [show sealR (m.unit k) = (sealB (m.unit k), 0) by unfold sealR; rw [if_pos hr]] at h
    simp only at h
    rw [seal_len hr.2.2] at h
    unfold UnitV.val at h
    rw [mark_len] at h
    exact h
  have HSl := Lib.hid hSl
  clear hSl
  have Hbd := Lib.hid (mark_bd m k)
  have Hml := Lib.hid (mark_len m k)
  obtain ⟨sb, hsb⟩ : ∃ sb, sealB (m.unit k) = sb := ⟨_, rfl⟩
  obtain ⟨bd, hbd⟩ : ∃ bd, (m.unit k).body = bd := ⟨_, rfl⟩
  rw [hsb, hbd] at HSl
  rw [hbd] at Hs Hbd Hml
  rw [hsb]
  clear hsb hbd
  obtain ⟨w2, hw2⟩ : ∃ w2, (w.alloc (.cells #[.int .i64 m.ver, .int .i64 m.idx, .int .i64 m.term, .int .i64 m.kind, .int .i64 m.void] 26)).alloc (.cells #[.pointer none, .bool false] 197) = w2 := ⟨_, rfl⟩
  have hsz : w2.heap.size = w.heap.size + 1 + 1 := by rw [← hw2]; simp
  rw [hw2] at hb2 hW hB2
  have HI := Lib.hid (And.intro hB2 (And.intro hb2 hsz))
  have hw0 : WrAt w2 (fun _ => False) (w.heap.size + 1) (some []) := ⟨fun _ h => h.elim, ⟨none, [], hW, rfl, rfl⟩⟩
  have hF := H1.out w2 _ hw0
  rw [hsz] at hF
  have HF := Lib.hid hF
  obtain ⟨⟨c0, c1, c2, c3, c4⟩, _⟩ := cells_five hB2
  have Hw2 := Lib.hid hw2
  unfold MarkV.val
  clear hF hbx hB hb2 hW hB2 hw2 hsz hw0 hm hk hr b1 b2 b3
  go_enter Tryz.func110, Tryz.ntmps110
  rw [← Hw2.out] at c0 c1 c2 c3 c4
  go_wp2_with fail
  rw [Hw2.out]
  refine HF.out.mono ?_
  rintro e w3 ⟨rfl, hP⟩
  have hg3 : w2.grownBy w3 (some (w.heap.size + 1)) := (grown_below (below_new w2 _) _).trans hP.fr
  have B3 := Lib.hid (HI.out.1.kept hg3 (fun e => by have := Option.some.inj e; omega))
  have G3 := Lib.hid hg3
  have HF2 := Lib.hid (H2.out w3 _ _ hP.wr)
  clear hP hg3 HF c0 c1 c2 c3 c4
  obtain ⟨⟨c0, c1, c2, c3, c4⟩, _⟩ := cells_five B3.out
  go_wp2_with fail
  refine HF2.out.mono ?_
  rintro e w4 ⟨rfl, hP⟩
  have hg4 := (grown_below (below_new w3 (.cells #[.int .i64 m.kind] 3)) _).trans hP.fr
  have B4 := Lib.hid (B3.out.kept hg4 (fun e => by have := Option.some.inj e; omega))
  have G4 := Lib.hid (G3.out.trans hg4)
  have HF3 := Lib.hid (H3.out w4 _ _ hP.wr)
  clear hP hg4 HF2 c0 c1 c2 c3 c4
  obtain ⟨⟨c0, c1, c2, c3, c4⟩, _⟩ := cells_five B4.out
  go_wp2_with fail
  refine HF3.out.mono ?_
  rintro e w5 ⟨rfl, hP⟩
  have hg5 := (grown_below (below_new w4 (.cells #[.int .i64 m.void] 3)) _).trans hP.fr
  have B5 := Lib.hid (B4.out.kept hg5 (fun e => by have := Option.some.inj e; omega))
  have G5 := Lib.hid (G4.out.trans hg5)
  have hwr := hP.wr
  rw [Hs.out] at hwr
  have HBy := Lib.hid (wbytes_some w5 _ _ _ hwr (by rw [Hml.out]; decide))
  clear hP hwr hg5 HF3 c0 c1 c2 c3 c4
  go_wp2_with fail
  refine HBy.out.mono ?_
  rintro e w6 ⟨v, rfl, ho, hb6⟩
  rw [Hml.out] at ho
  obtain ⟨X, cap, rfl, hcap, hcm⟩ := own_slice ho
  have B6 := Lib.hid (B5.out.below hb6 B5.out.lt)
  have Hbz := Lib.hid (below_grown HI.out.2.1 G5.out HI.out.2.1.size (by omega))
  have Hb6 := Lib.hid (Hbz.out.trans (hb6.mono Hbz.out.size))
  have HS := Lib.hid (HSl.out w6 X cap (own_reads ho Hbd.out) hcap (by unfold maxLen at hcm; omega))
  obtain ⟨⟨c0, c1, c2, c3, c4⟩, _⟩ := cells_five B6.out
  clear ho hb6 hcap hcm HBy c1 c2 c3 c4
  go_wp2_with fail
  refine HS.out.mono ?_
  rintro e w7 ⟨v, rfl, ho, hb7⟩
  have Ho := Lib.hid (And.intro ho hb7)
  clear ho hb7 HS c0
  go_wp2_with fail
  go_ret
  exact ⟨_, rfl, own_mono Ho.out.1 Hb6.out.size, Hb6.out.trans (Ho.out.2.mono Hb6.out.size)⟩
end Go.Proofs.YtpaikolnampcfaaGreatDoor
