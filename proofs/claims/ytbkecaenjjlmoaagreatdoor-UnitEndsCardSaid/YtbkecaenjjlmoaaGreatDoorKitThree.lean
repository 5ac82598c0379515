/- Do rows of bytes lie apart: limpetkit's bag of lists. -/
/- Three rows that were handed out lie apart. -/
import Derived.Test.YtbkecaenjjlmoaaGreatDoorKitFlat
import Derived.Test.YtbkecaenjjlmoaaGreatDoorKitNone
import Derived.Test.YtbkecaenjjlmoaaGreatDoorKitChg
namespace Go.Proofs.YtbkecaenjjlmoaaGreatDoor
open Go.RowKit
/-- A bag that holds lists of bytes alone. -/
def bagOf (lv : Value) : Array Value := #[.slice none 0 0, .slice none 0 0, .slice none 0 0, .slice none 0 0, .slice none 0 0, lv, .slice none 0 0, .slice none 0 0, .slice none 0 0, .slice none 0 0, .slice none 0 0, .slice none 0 0, .slice none 0 0, .slice none 0 0, .slice none 0 0]
theorem infoBytesRow : (Tryz.prog.info? 22).map (fun i => (i.zero, i.size, i.bytes)) = some (some (.slice none 0 0), 1, 24) := by kernel_rfl
theorem bag_cells {w : World} {g : Nat} {lv : Value} (h : BlockIs w g 70 (bagOf lv)) : w.cell? ⟨g, 5, none⟩ = some lv ∧ w.frozen? ⟨g, 5, none⟩ = false := ⟨h.cell 5, h.free 5⟩
set_option maxRecDepth 100000 in
set_option maxHeartbeats 2000000 in
theorem putBytes_any (w : World) (B g n : Nat) (lv : Value) (hs : List Value) (V : Option Addr) (vn vc : Nat) (h : BlockIs w g 70 (bagOf lv)) (hown : w.ownsRow B 22 1 lv n hs) (hn : n ≤ 100000) (hB : B ≤ w.heap.size) (hg : lv.ownBlock ≠ some g) :
    Calls Tryz.prog 25 #[.pointer (some ⟨g, 0, none⟩), .slice V vn vc] w fun e w' => e = .returned (.tuple #[]) ∧ ∃ lv' w2, w.grownBy w2 lv.ownBlock ∧ w2.grownBy w' (some g) ∧ w'.ownsRow B 22 1 lv' (n + 1) (hs ++ [.slice V vn vc]) ∧ BlockIs w' g 70 (bagOf lv') ∧ (lv'.ownBlock = lv.ownBlock ∨ ∃ b, lv'.ownBlock = some b ∧ w.heap.size ≤ b) := by
  obtain ⟨i0, hi, hz0, hz1, hz2⟩ := info_parts infoBytesRow
  obtain ⟨c5, f5⟩ := bag_cells h
  obtain ⟨X, cap, rfl, _, hcm⟩ := own_slice hown
  unfold maxLen at hcm
  have Hh := Lib.hid h
  have Hown := Lib.hid hown
  have hlt := h.lt
  clear h hown
  go_enter Tryz.func25, Tryz.ntmps25
  go_wp2_with (at_builtin; refine wpList_append_own_at _ rfl _ _ 36 rfl B 22 i0 (.slice none 0 0) 1 24 Tryz.underlying36 hi hz0 hz1 hz2 rfl (by decide) _ _ _ rfl (Hown.out.alloc _) ⟨w.heap.size, 0, none⟩ 1 1 [.slice V vn vc] rfl rfl (cell_one_new _ _ _) ?c3 ?c4 ?c5 ?c6 ?_)
  case c3 => intro u hu; rw [List.mem_singleton.1 hu]; rfl
  case c4 => unfold maxLen; omega
  case c5 => omega
  case c6 => simp; omega
  intro v2 w2 hown2 hgrow2 _ h4
  have hg1 : w.grownBy w2 (Value.slice X n cap).ownBlock := (World.grownBy_alloc w _ _).trans hgrow2
  have hB2 := Hh.out.kept hg1 (fun e => hg e.symm)
  have hlies : v2.ownBlock = (Value.slice X n cap).ownBlock ∨ ∃ b, v2.ownBlock = some b ∧ w.heap.size ≤ b := by
    rcases h4 with h4 | h4
    · exact .inl h4
    · exact .inr ⟨_, h4, by simp⟩
  have hne : v2.ownBlock = none ∨ v2.ownBlock ≠ some g := by
    rcases hlies with e | ⟨b, e, hb⟩
    · rw [e]; exact .inr hg
    · rw [e]; exact .inr (fun e => by injection e; omega)
  have hset := grown_at (World.grownBy.refl w2 (some g)) 5 v2
  have hB3 := hB2.set1 5 v2
  have HS := Lib.hid (And.intro hg1 (And.intro hset (And.intro (hown2.kept hset hne) (And.intro hB3 hlies))))
  obtain ⟨c5', f5'⟩ := bag_cells hB2
  obtain ⟨Y, yc, rfl, _, _⟩ := own_slice hown2
  clear hg1 hB2 hlies hne hset hB3 hown2 hgrow2 h4 c5 f5
  go_wp2_with fail
  go_end0
  exact ⟨rfl, _, w2, HS.out.1, HS.out.2.1, HS.out.2.2.1, HS.out.2.2.2.1, HS.out.2.2.2.2⟩
/-- What of a world the looks at what lies apart leave: all below B, and the blocks of one colour. -/
structure Lef (col : Nat → Nat) (B q : Nat) (w w' : World) : Prop where
  below : Below B w w'
  held : ∀ Z, Z < w.heap.size → col Z = q → w'.heap[Z]? = w.heap[Z]?
theorem Lef.step {col : Nat → Nat} {B q : Nat} {w w' w'' : World} (h : Lef col B q w w') (hB : B ≤ w.heap.size) (hb : Below w'.heap.size w' w'') : Lef col B q w w'' :=
  ⟨h.below.trans (hb.mono (Nat.le_trans hB h.below.size)), fun Z hZ hc => (hb.block Z (Nat.lt_of_lt_of_le hZ h.below.size)).trans (h.held Z hZ hc)⟩
theorem Lef.bag {col : Nat → Nat} {B q g : Nat} {w w' : World} {cs : Array Value} {t : TypeId} (h : Lef col B q w w') (hg : w.heap[g]? = some (.cells cs t (0, 0))) (hc : col g = q) : w'.heap[g]? = some (.cells cs t (0, 0)) :=
  (h.held g (Array.getElem?_eq_some_iff.1 hg).1 hc).trans hg
theorem bag_nil {w : World} {g : Nat} {lv : Value} (h : w.heap[g]? = some (.cells (bagOf lv) 70 (0, 0))) (i : Nat) (hi : i < 15) (hne : i ≠ 5) : w.cell? ⟨g, i, none⟩ = some (.slice none 0 0) := by
  rw [cell_of_row w g i _ _ _ h]
  rcases i with _ | _ | _ | _ | _ | _ | _ | _ | _ | _ | _ | _ | _ | _ | _ | i <;> first | rfl | omega
theorem bag_five {w : World} {g : Nat} {lv : Value} (h : w.heap[g]? = some (.cells (bagOf lv) 70 (0, 0))) : w.cell? ⟨g, 5, none⟩ = some lv := cell_of_row w g 5 _ _ _ h
set_option maxRecDepth 100000 in
set_option maxHeartbeats 4000000 in
theorem apart_any (w : World) (g : Nat) (col : Nat → Nat) (B K : Nat) (lv : Value) (vs : List Value) (c : Nat → List Int) (hb : BlockIs w g 70 (bagOf lv)) (h : RowsAt col B 0 K lv vs (fun _ => True) c w) (hB : B ≤ w.heap.size) (hK : K ≤ 100000) (hn : ∀ k, (c k).length ≤ 140737488000000)
    (hg : col g = K + 3) :
    Calls Tryz.prog 26 #[.pointer (some ⟨g, 0, none⟩)] w fun e w' => e = .returned (.bool true) ∧ Below B w w' ∧ ∀ Z, Z < w.heap.size → col Z = K + 3 → w'.heap[Z]? = w.heap[Z]? := by
  have HL := Lib.hid (show Lef col B (K + 3) w w from ⟨Below.refl _ _, fun _ _ _ => rfl⟩)
  have Hb := Lib.hid hb
  have Hn := Lib.hid hn
  have Hh := Lib.hid h
  obtain ⟨X, cap, rfl, _, hcm⟩ := own_slice h.outer
  unfold maxLen at hcm
  clear hb hn h
  go_enter Tryz.func26, Tryz.ntmps26
  have c0 := bag_nil (HL.out.bag Hb.out hg) 0 (by decide) (by decide)
  go_wp2_with fail
  refine (flatLimbs_none _).mono ?_
  rintro e w' ⟨rfl, hb1⟩
  have HL2 := Lib.hid (HL.out.step hB hb1)
  have HR0 := Lib.hid (Hh.out.below hb1)
  clear HL c0 hb1
  have HL := HL2
  clear HL2
  have c1 := bag_nil (HL.out.bag Hb.out hg) 1 (by decide) (by decide)
  go_wp2_with fail
  refine (flatWords_none _).mono ?_
  rintro e w' ⟨rfl, hb1⟩
  have HL2 := Lib.hid (HL.out.step hB hb1)
  have HR1 := Lib.hid (HR0.out.below hb1)
  clear HL c1 hb1
  have HL := HL2
  clear HL2
  have c2 := bag_nil (HL.out.bag Hb.out hg) 2 (by decide) (by decide)
  go_wp2_with fail
  refine (flatInts_none _).mono ?_
  rintro e w' ⟨rfl, hb1⟩
  have HL2 := Lib.hid (HL.out.step hB hb1)
  have HR2 := Lib.hid (HR1.out.below hb1)
  clear HL c2 hb1
  have HL := HL2
  clear HL2
  have c3 := bag_nil (HL.out.bag Hb.out hg) 3 (by decide) (by decide)
  go_wp2_with fail
  refine (flatLongs_none _).mono ?_
  rintro e w' ⟨rfl, hb1⟩
  have HL2 := Lib.hid (HL.out.step hB hb1)
  have HR3 := Lib.hid (HR2.out.below hb1)
  clear HL c3 hb1
  have HL := HL2
  clear HL2
  have c4 := bag_nil (HL.out.bag Hb.out hg) 4 (by decide) (by decide)
  go_wp2_with fail
  refine (flatTexts_none _).mono ?_
  rintro e w' ⟨rfl, hb1⟩
  have HL2 := Lib.hid (HL.out.step hB hb1)
  have HR4 := Lib.hid (HR3.out.below hb1)
  clear HL c4 hb1
  have HL := HL2
  clear HL2
  have c5 := bag_five (HL.out.bag Hb.out hg)
  go_wp2_with fail
  refine (flatBytes_any _ col B K _ vs c HR4.out (Nat.le_trans hB HL.out.below.size) hK Hn.out).mono ?_
  rintro e w' ⟨rfl, hb1, hz1⟩
  have HL2 := Lib.hid (show Lef col B (K + 3) w w' from ⟨HL.out.below.trans hb1, fun Z hZ hc => (hz1 Z (Nat.lt_of_lt_of_le hZ HL.out.below.size) hc).trans (HL.out.held Z hZ hc)⟩)
  clear HL c5 hb1 hz1
  have HL := HL2
  clear HL2
  have c6 := bag_nil (HL.out.bag Hb.out hg) 6 (by decide) (by decide)
  go_wp2_with fail
  refine (flatTruths_none _).mono ?_
  rintro e w' ⟨rfl, hb1⟩
  have HL2 := Lib.hid (HL.out.step hB hb1)
  clear HL c6 hb1
  have HL := HL2
  clear HL2
  have c7 := bag_nil (HL.out.bag Hb.out hg) 7 (by decide) (by decide)
  go_wp2_with fail
  refine (flatUnits_none _).mono ?_
  rintro e w' ⟨rfl, hb1⟩
  have HL2 := Lib.hid (HL.out.step hB hb1)
  clear HL c7 hb1
  have HL := HL2
  clear HL2
  have c8 := bag_nil (HL.out.bag Hb.out hg) 8 (by decide) (by decide)
  go_wp2_with fail
  refine (flatEntries_none _).mono ?_
  rintro e w' ⟨rfl, hb1⟩
  have HL2 := Lib.hid (HL.out.step hB hb1)
  clear HL c8 hb1
  have HL := HL2
  clear HL2
  have c9 := bag_nil (HL.out.bag Hb.out hg) 9 (by decide) (by decide)
  go_wp2_with fail
  refine (flatIdents_none _).mono ?_
  rintro e w' ⟨rfl, hb1⟩
  have HL2 := Lib.hid (HL.out.step hB hb1)
  clear HL c9 hb1
  have HL := HL2
  clear HL2
  have c10 := bag_nil (HL.out.bag Hb.out hg) 10 (by decide) (by decide)
  go_wp2_with fail
  refine (flatMetas_none _).mono ?_
  rintro e w' ⟨rfl, hb1⟩
  have HL2 := Lib.hid (HL.out.step hB hb1)
  clear HL c10 hb1
  have HL := HL2
  clear HL2
  have c11 := bag_nil (HL.out.bag Hb.out hg) 11 (by decide) (by decide)
  go_wp2_with fail
  refine (flatMarks_none _).mono ?_
  rintro e w' ⟨rfl, hb1⟩
  have HL2 := Lib.hid (HL.out.step hB hb1)
  clear HL c11 hb1
  have HL := HL2
  clear HL2
  have c12 := bag_nil (HL.out.bag Hb.out hg) 12 (by decide) (by decide)
  go_wp2_with fail
  refine (flatSnaps_none _).mono ?_
  rintro e w' ⟨rfl, hb1⟩
  have HL2 := Lib.hid (HL.out.step hB hb1)
  clear HL c12 hb1
  have HL := HL2
  clear HL2
  have c13 := bag_nil (HL.out.bag Hb.out hg) 13 (by decide) (by decide)
  go_wp2_with fail
  refine (flatShapes_none _).mono ?_
  rintro e w' ⟨rfl, hb1⟩
  have HL2 := Lib.hid (HL.out.step hB hb1)
  clear HL c13 hb1
  have HL := HL2
  clear HL2
  have c14 := bag_nil (HL.out.bag Hb.out hg) 14 (by decide) (by decide)
  go_wp2_with fail
  refine (flatLetters_none _).mono ?_
  rintro e w' ⟨rfl, hb1⟩
  have HL2 := Lib.hid (HL.out.step hB hb1)
  clear HL c14 hb1
  have HL := HL2
  clear HL2
  go_wp2_with fail
  go_ret
  exact ⟨rfl, HL.out.below, HL.out.held⟩
/-- All that is new since w has colour 0, but for one block. -/
def bagCol (col : Nat → Nat) (g q : Nat) : Nat → Nat := fun b => if b < g then col b else if b = g then q else 0
theorem ownsRow_base {w : World} {B C n : Nat} {e : TypeId} {v : Value} {xs : List Value} (h : w.ownsRow C e 1 v n xs) (hB : B ≤ C) : w.ownsRow B e 1 v n xs :=
  ⟨h.1, h.2.imp id fun ⟨g, cap, cur, e1, e2, e3⟩ => ⟨g, cap, cur, e1, Nat.le_trans hB e2, e3⟩⟩
theorem ownsRow_off {w : World} {g n : Nat} {e : TypeId} {v : Value} {xs : List Value} (h : w.ownsRow g e 1 v n xs) (hne : v.ownBlock ≠ some g) (col : Nat → Nat) (q : Nat) : Col (bagCol col g q) v 0 := by
  intro b hb
  have h1 := (h.lt b hb).1
  have h2 : b ≠ g := by rintro rfl; exact hne hb
  unfold bagCol
  rw [if_neg (by omega), if_neg h2]
set_option maxRecDepth 100000 in
set_option maxHeartbeats 4000000 in
/-- Rows of bytes, each in a block of its own, lie apart. -/
theorem apartBytes_any (w : World) (B K cap : Nat) (A : Option Addr) (col : Nat → Nat) (vs : List Value) (c : Nat → List Int) (hl : vs.length = K)
    (hA : 0 < K → ∃ b off, A = some ⟨b, off, none⟩ ∧ ∀ k v, vs[k]? = some v → w.cell? ⟨b, off + k, none⟩ = some v)
    (hr : ∀ k v, vs[k]? = some v → w.ownsRow B 5 1 v (c k).length (u8s (c k)) ∧ Col col v (k + 2)) (hB : B ≤ w.heap.size) (hK : K ≤ 99999) (hn : ∀ k, (c k).length ≤ 140737488000000) :
    Calls Tryz.prog 13 #[.slice A K cap] w fun e w' => e = .returned (.bool true) ∧ Below B w w' ∧ ∀ Z, Z < w.heap.size → col Z = K + 3 → w'.heap[Z]? = w.heap[Z]? := by
  have hbn := below_new w (.cells (bagOf (.slice none 0 0)) 70)
  have hbk : BlockIs (w.alloc (.cells (bagOf (.slice none 0 0)) 70)) w.heap.size 70 (bagOf (.slice none 0 0)) := BlockIs.made _ _ _
  have HA := Lib.hid hA
  have Hr := Lib.hid hr
  have Hn := Lib.hid hn
  have Hl := Lib.hid hl
  clear hA hr hn hl
  unfold bagOf at hbn hbk
  go_enter Tryz.func13, Tryz.ntmps13
  go_wp2_with fail
  generalize w.alloc _ = w1 at *
  go_loopg [4] K (fun g i wx => ∃ (k : Nat) (lv : Value), g = K - k ∧ k ≤ K ∧ i = .int .i64 (k : Int) ∧ wx.ownsRow w.heap.size 22 1 lv k (vs.take k) ∧ lv.ownBlock ≠ some w.heap.size ∧ BlockIs wx w.heap.size 70 (bagOf lv) ∧ Below w.heap.size w wx)
  case atStart => exact ⟨0, .slice none 0 0, rfl, by omega, rfl, World.ownsRow_nil _ _ _ _, by simp [Value.ownBlock], hbk, hbn⟩
  case round =>
    clear hbk hbn
    obtain ⟨k, lv, hgk, hk, rfl, hown, hoff, hbk, hb⟩ := hrel
    have Hgk := Lib.hid hgk; clear hgk
    have hszb := hb.size
    by_cases hlt : k < K
    · obtain ⟨b, off, rfl, hc⟩ := HA.out (by omega)
      obtain ⟨v, hv⟩ : ∃ v, vs[k]? = some v := ⟨_, List.getElem?_eq_getElem (by rw [Hl.out]; exact hlt)⟩
      have c1 := cell_below (hc k v hv) hb
      have hrow := (Hr.out k v hv).1
      obtain ⟨V, vc, rfl, _, _⟩ := own_slice hrow
      have HP := Lib.hid (putBytes_any wr w.heap.size w.heap.size k lv _ V (c k).length vc hbk hown (by omega) hszb hoff)
      have Hv := Lib.hid hv
      have HO := Lib.hid (And.intro hown (And.intro hoff hbk))
      clear hrow hc hv hown hoff hbk
      go_wp2_with fail
      refine HP.out.mono ?_
      rintro e w2 ⟨rfl, lv', w3, h1, h2, h3, h4, h5⟩
      have hb3 := (hb.grown h1 hszb (fun j e => (HO.out.1.lt j e).1))
      have hb2 := hb3.grown h2 hb3.size (fun j e => by cases e; exact Nat.le_refl _)
      have hglt := HO.out.2.2.lt
      have hoff' : lv'.ownBlock ≠ some w.heap.size := by
        rcases h5 with h5 | ⟨b', h5, h6⟩
        · rw [h5]; exact HO.out.2.1
        · rw [h5]; intro e; injection e; omega
      have h3' : w2.ownsRow w.heap.size 22 1 lv' (k + 1) (vs.take (k + 1)) := own_same h3 rfl (by rw [List.take_add_one, Hv.out]; rfl)
      have HS := Lib.hid (And.intro h3' (And.intro hoff' (And.intro h4 hb2)))
      clear h1 h2 h3 h4 h5 hb3 hb2 hoff' h3' HP
      go_wp2_with fail
      go_roundg (K - (k + 1))
      case measure => rw [Hgk.out]; omega
      case rel => exact ⟨k + 1, _, rfl, by omega, by go_num, HS.out.1, HS.out.2.1, HS.out.2.2.1, HS.out.2.2.2⟩
    · obtain rfl : k = K := by omega
      rw [List.take_of_length_le (by rw [Hl.out]; omega)] at hown
      have hR : RowsAt (bagCol col w.heap.size (k + 3)) B 0 k lv vs (fun _ => True) c wr := by
        refine ⟨Hl.out, ownsRow_base hown hB, ownsRow_off hown hoff _ _, fun j v hv _ => ?_⟩
        obtain ⟨r1, r2⟩ := Hr.out j v hv
        refine ⟨ownsRow_below r1 hb, fun b e => ?_⟩
        have := (r1.lt b e).2
        unfold bagCol
        rw [if_pos this]
        exact r2 b e
      have HP := Lib.hid (apart_any wr w.heap.size (bagCol col w.heap.size (k + 3)) B k lv vs c hbk hR (Nat.le_trans hB hszb) (by omega) Hn.out (by unfold bagCol; rw [if_neg (by omega), if_pos rfl]))
      have Hb := Lib.hid hb
      clear hown hR hbk hb hoff
      go_wp2_with fail
      refine HP.out.mono ?_
      rintro e w2 ⟨rfl, h1, h2⟩
      have hb2 := (Hb.out.mono hB).trans h1
      have Hb2 := Lib.hid (And.intro hb2 (show ∀ Z, Z < w.heap.size → col Z = k + 3 → w2.heap[Z]? = w.heap[Z]? from fun Z hZ hc => (h2 Z (Nat.lt_of_lt_of_le hZ Hb.out.size) (by unfold bagCol; rw [if_pos hZ]; exact hc)).trans (Hb.out.block Z hZ)))
      clear hb2 h1 h2
      go_wp2_with fail
      go_ret
      exact ⟨rfl, Hb2.out.1, Hb2.out.2⟩
end Go.Proofs.YtbkecaenjjlmoaaGreatDoor
namespace Go.Proofs.YtbkecaenjjlmoaaGreatDoor
open Go.RowKit
/-- Rows handed out one behind the other: the first, one between, the second, one between, the third. -/
def colS (a b c d : Nat) : Nat → Nat := fun k => if k < a then 3 else if k < b then 6 else if k < c then 2 else if k < d then 6 else 4
theorem rows_three {w wa wb wc wd we : World} {X1 X2 X3 : Option Addr} {c1 c2 c3 : Nat} {y1 y2 y3 : List Int}
    (h1 : wa.ownsRow w.heap.size 5 1 (.slice X1 y1.length c1) y1.length (u8s y1)) (hba : Below w.heap.size w wa)
    (hbb : Below wa.heap.size wa wb)
    (h2 : wc.ownsRow wb.heap.size 5 1 (.slice X2 y2.length c2) y2.length (u8s y2)) (hbc : Below wb.heap.size wb wc)
    (hbd : Below wc.heap.size wc wd)
    (h3 : we.ownsRow wd.heap.size 5 1 (.slice X3 y3.length c3) y3.length (u8s y3)) (hbe : Below wd.heap.size wd we) :
    ∀ k v, [(.slice X2 y2.length c2 : Value), .slice X1 y1.length c1, .slice X3 y3.length c3][k]? = some v → we.ownsRow w.heap.size 5 1 v ([y2, y1, y3].getD k []).length (u8s ([y2, y1, y3].getD k [])) ∧ Col (colS wa.heap.size wb.heap.size wc.heap.size wd.heap.size) v (k + 2) := by
  have s1 := hba.size
  have s2 := hbb.size
  have s3 := hbc.size
  have s4 := hbd.size
  intro k v hv
  match k, hv with
  | 0, hv =>
    obtain rfl := Option.some.inj hv
    refine ⟨ownsRow_base (ownsRow_below (ownsRow_below h2 hbd) hbe) (by omega), fun b e => ?_⟩
    have := h2.lt b e
    unfold colS; rw [if_neg (by omega), if_neg (by omega), if_pos (by omega)]
  | 1, hv =>
    obtain rfl := Option.some.inj hv
    refine ⟨ownsRow_below (ownsRow_below (ownsRow_below (ownsRow_below h1 hbb) hbc) hbd) hbe, fun b e => ?_⟩
    have := h1.lt b e
    unfold colS; rw [if_pos (by omega)]
  | 2, hv =>
    obtain rfl := Option.some.inj hv
    refine ⟨ownsRow_base h3 (by omega), fun b e => ?_⟩
    have := h3.lt b e
    unfold colS; rw [if_neg (by omega), if_neg (by omega), if_neg (by omega), if_neg (by omega)]
  | k + 3, hv => simp at hv
theorem row3_at (w : World) (x y z : Value) (t : TypeId) : ∀ k v, [x, y, z][k]? = some v → (w.alloc (.cells #[x, y, z] t)).cell? ⟨w.heap.size, 0 + k, none⟩ = some v := by
  obtain ⟨r0, r1, r2⟩ := row3_cells w x y z t
  intro k v hv
  match k, hv with
  | 0, hv => obtain rfl := Option.some.inj hv; exact r0
  | 1, hv => obtain rfl := Option.some.inj hv; exact r1
  | 2, hv => obtain rfl := Option.some.inj hv; exact r2
  | k + 3, hv => simp at hv
/-- Three rows of bytes are asked whether they lie apart. -/
theorem apart_three {w we w1 : World} {col : Nat → Nat} {v1 v2 v3 : Value} {y1 y2 y3 : List Int}
    (hr : ∀ k v, [v1, v2, v3][k]? = some v → we.ownsRow w.heap.size 5 1 v ([y1, y2, y3].getD k []).length (u8s ([y1, y2, y3].getD k [])) ∧ Col col v (k + 2))
    (hl : y1.length ≤ 140737488000000 ∧ y2.length ≤ 140737488000000 ∧ y3.length ≤ 140737488000000) (hbc : Below w.heap.size w we) (h1 : Below we.heap.size we w1) :
    Calls Tryz.prog 13 #[.slice (some ⟨w1.heap.size, 0, none⟩) 3 3] (w1.alloc (.cells #[v1, v2, v3] 22)) fun e w' => e = .returned (.bool true) ∧ Below w.heap.size w w' ∧ ∀ Z, Z < we.heap.size → col Z = 6 → w'.heap[Z]? = we.heap[Z]? := by
  have hbn := h1.trans ((below_new w1 (.cells #[v1, v2, v3] 22)).mono h1.size)
  have hs := hbc.size
  refine (apartBytes_any _ w.heap.size 3 3 (some ⟨w1.heap.size, 0, none⟩) col [v1, v2, v3] (fun k => [y1, y2, y3].getD k []) rfl (fun _ => ⟨w1.heap.size, 0, rfl, row3_at w1 v1 v2 v3 _⟩) (fun k v hv => ?_) (Nat.le_trans hs hbn.size) (by decide) (fun k => ?_)).mono ?_
  · obtain ⟨r1, r2⟩ := hr k v hv
    exact ⟨ownsRow_below r1 hbn, r2⟩
  · match k with
    | 0 => exact hl.1
    | 1 => exact hl.2.1
    | 2 => exact hl.2.2
    | k + 3 => exact Nat.zero_le _
  · rintro e w' ⟨rfl, h2, h3⟩
    exact ⟨rfl, (hbc.trans (hbn.mono hs)).trans h2, fun Z hZ hc => (h3 Z (Nat.lt_of_lt_of_le hZ hbn.size) hc).trans (hbn.block Z hZ)⟩
end Go.Proofs.YtbkecaenjjlmoaaGreatDoor
