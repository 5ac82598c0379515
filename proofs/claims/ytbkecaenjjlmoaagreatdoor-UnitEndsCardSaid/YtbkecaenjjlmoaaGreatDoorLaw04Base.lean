/- Law 04: units compared; the chapter's example. -/
import Derived.Test.YtbkecaenjjlmoaaGreatDoorUnitOpens
import Derived.Test.YtbkecaenjjlmoaaGreatDoorUnitSealR
import Derived.Lib.SlBytesConst
import Derived.Lib.SmallJoins
namespace Go.Proofs.YtbkecaenjjlmoaaGreatDoor
open Go.RowKit
def sameU (u v : UnitV) : Bool := (u.kind == v.kind) && ((u.num == v.num) && sameB u.body v.body)
theorem sameU_iff {u v : UnitV} : sameU u v = true ↔ u = v := by
  obtain ⟨k, n, b⟩ := u
  obtain ⟨k', n', b'⟩ := v
  unfold sameU sameB
  simp
theorem sameU_self (u : UnitV) : sameU u u = true := sameU_iff.2 rfl
set_option maxRecDepth 100000 in
set_option maxHeartbeats 2000000 in
theorem sameUnit_any (w : World) (u v : UnitV) (A B : Option Addr) (c d : Nat) (ha : BytesAt w A u.body) (hb : BytesAt w B v.body) (hl : u.body.length ≤ 9223372036854775807) :
    Calls Tryz.prog 11 #[u.val A c, v.val B d] w fun e w' => e = .returned (.bool (sameU u v)) ∧ Below w.heap.size w w' := by
  have hb1 := below_new w (.cells #[.int .i64 u.kind, .int .i64 u.num, .slice A u.body.length c] 27)
  have hb2 := hb1.alloc hb1.size (.cells #[.int .i64 v.kind, .int .i64 v.num, .slice B v.body.length d] 27)
  have HS := Lib.hid (sameBytes_any u.body v.body A B c d _ (ha.below hb2) (hb.below hb2) hl)
  have H2 := Lib.hid hb2
  unfold UnitV.val sameU
  clear ha hb hb1 hb2
  by_cases hk : u.kind = v.kind
  · by_cases hn : u.num = v.num
    · have e1 : (u.kind == v.kind) = true := beq_iff_eq.2 hk
      have e2 : (u.num == v.num) = true := beq_iff_eq.2 hn
      rw [e1, e2]
      clear hk hn
      go_enter Tryz.func11, Tryz.ntmps11
      go_wp2_with fail
      refine HS.out.mono ?_
      rintro e w' ⟨rfl, n, rfl⟩
      go_wp2_with fail
      go_ret
      exact ⟨ret_bool (by simp), drewN_below H2.out n⟩
    · have e1 : (u.kind == v.kind) = true := beq_iff_eq.2 hk
      have e2 : (u.num == v.num) = false := beq_eq_false_iff_ne.2 hn
      rw [e1, e2]
      clear hk hn
      go_enter Tryz.func11, Tryz.ntmps11
      go_wp2_with fail
      go_ret
      exact ⟨ret_bool (by simp), H2.out⟩
  · have e1 : (u.kind == v.kind) = false := beq_eq_false_iff_ne.2 hk
    rw [e1]
    clear hk
    go_enter Tryz.func11, Tryz.ntmps11
    go_wp2_with fail
    go_ret
    exact ⟨ret_bool (by simp), H2.out⟩
theorem bytesAt_marked (W : World) (zs : List Int) (m : Nat × Nat) (hr : ∀ z ∈ zs, 0 ≤ z ∧ z < 256) : BytesAt (W.alloc (.cells (u8s zs).toArray 5 m)) (some ⟨W.heap.size, 0, none⟩) zs := by
  refine bytesAt_cells hr (fun i hi => ?_)
  rw [World.cell?_alloc_mark, Nat.zero_add, List.getElem?_toArray]
  unfold u8s
  rw [List.getElem?_map, List.getD_eq_getElem?_getD, List.getElem?_eq_getElem hi]; rfl
/-- The example's unit. -/
def u04 : UnitV := ⟨2, 1, [97]⟩
theorem u04_right : u04.right := by decide
theorem u04_bd : ∀ z ∈ u04.body, 0 ≤ z ∧ z < 256 := by decide
theorem u04_seal : sealR u04 = (sealB u04, 0) := by unfold sealR; rw [if_pos u04_right]
theorem u04_as1 : asB (sealB u04) 2 1 = ([97], 0) := by
  have h := open_seal u04_right
  unfold asB
  rw [h]; rfl
theorem u04_as2 : asB (sealB u04) 2 2 = ([], 6) := by
  have h := open_seal u04_right
  unfold asB
  rw [h]; rfl
theorem u04_at : (sealB u04).getD 0 0 = 2 ∧ (sealB u04).getD 1 0 = 1 ∧ (sealB u04).getD 7 0 = 1 ∧ (sealB u04).getD 8 0 = 97 ∧ (sealB u04).getD 9 0 = 0 := ⟨rfl, rfl, rfl, rfl, rfl⟩
/-- A row of bytes that is owned lies somewhere. -/
theorem own_at {w : World} {B n : Nat} {v : Value} {xs : List Int} (h : w.ownsRow B 5 1 v n (u8s xs)) (hn : 0 < n) (hx : ∀ z ∈ xs, 0 ≤ z ∧ z < 256) : ∃ g cap, v = .slice (some ⟨g, 0, none⟩) n cap ∧ n ≤ cap ∧ cap ≤ 9223372036854775807 ∧ B ≤ g ∧ g < w.heap.size ∧ BytesAt w (some ⟨g, 0, none⟩) xs := by
  obtain ⟨g, cap, rfl, hB, hlt, hc, hm⟩ := own_form h hn
  exact ⟨g, cap, rfl, hc, by unfold maxLen at hm; omega, hB, hlt, own_reads h hx⟩
set_option maxRecDepth 100000 in
set_option maxHeartbeats 8000000 in
theorem awake_any (σ : Sen) (τ : SenU) (w : World) (hC : GlAt σ w) (hU : GlU τ w) :
    Calls Tryz.prog 5 #[] w fun e w' => e = .returned (.bool true) ∧ Below w.heap.size w w' := by
  have hcv := fun w => Lib.run_convert_bytes_const (P := Tryz.prog) w 22 5 #[.int .u8 97] 1 1 Tryz.underlying22 Tryz.underlying5
  have hb1 := below_new w (.cells #[.int .u8 97] 5 (1, 2))
  have hz1 : BytesAt (w.alloc (.cells #[.int .u8 97] 5 (1, 2))) (some ⟨w.heap.size, 0, none⟩) [97] := bytesAt_marked w [97] (1, 2) (by simp)
  have hl := seal_len (u := u04) (by decide)
  have hS := useal_any _ u04 (some ⟨w.heap.size, 0, none⟩) 1 hz1 (by decide) (by decide)
  rw [u04_seal] at hS
  simp only at hS
  rw [hl] at hS
  have HS : Hid (Calls Tryz.prog 18 #[.agg #[.int .i64 2, .int .i64 1, .slice (some ⟨w.heap.size, 0, none⟩) 1 1]] (w.alloc (.cells #[.int .u8 97] 5 (1, 2))) fun e w' => ∃ v, e = .returned (.tuple #[v, .int .i64 0]) ∧ w'.ownsRow (w.alloc (.cells #[.int .u8 97] 5 (1, 2))).heap.size 5 1 v 256 (u8s (sealB u04)) ∧ Below (w.alloc (.cells #[.int .u8 97] 5 (1, 2))).heap.size (w.alloc (.cells #[.int .u8 97] 5 (1, 2))) w') := Lib.hid hS
  have HC := Lib.hid hC
  have HU := Lib.hid hU
  have H1 := Lib.hid hb1
  have Hbd := Lib.hid (seal_bd u04_right u04_bd)
  have Hl := Lib.hid hl
  have Hop := Lib.hid (open_seal u04_right)
  have Ha1 := Lib.hid u04_as1
  have Ha2 := Lib.hid u04_as2
  have Hat := Lib.hid u04_at
  generalize sealB u04 = bs at *
  clear hb1 hz1 hC hU hl hS
  go_enter Tryz.func5, Tryz.ntmps5
  go_wp2_with fail
  refine HS.out.mono ?_
  rintro e w2 ⟨v, rfl, ho, hb2⟩
  obtain ⟨g, cap, rfl, hc, hm, _, _, hz⟩ := own_at ho (by decide) Hbd.out
  have B2 := Lib.hid (H1.out.trans (hb2.mono H1.out.size))
  have Z2 := Lib.hid hz
  have HO := uopen_any σ τ w2 (HC.out.below B2.out) (HU.out.below B2.out) (some ⟨g, 0, none⟩) bs cap hz (by rw [Hl.out]; exact hc) hm
  rw [Hop.out, Hl.out] at HO
  have HOp := Lib.hid HO
  unfold UnitV.val at HOp
  clear HO ho hb2 hz
  go_wp2_with fail
  refine HOp.out.mono ?_
  rintro e w3 ⟨X3, k3, rfl, _, hb3⟩
  have hb4 := below_new w3 (.cells #[.int .i64 u04.kind, .int .i64 u04.num, .slice X3 u04.body.length k3] 27)
  have P4 := Lib.hid (BlockIs.made w3 27 #[.int .i64 u04.kind, .int .i64 u04.num, .slice X3 u04.body.length k3])
  obtain ⟨w4, hw4⟩ : ∃ w4, w3.alloc (.cells #[.int .i64 u04.kind, .int .i64 u04.num, .slice X3 u04.body.length k3] 27) = w4 := ⟨_, rfl⟩
  rw [hw4] at hb4 P4
  have b24 := hb3.trans (hb4.mono hb3.size)
  have B4 := Lib.hid (B2.out.trans (b24.mono B2.out.size))
  have Z4 := Lib.hid (Z2.out.below b24)
  have HA := uas_any σ τ w4 (HC.out.below B4.out) (HU.out.below B4.out) (some ⟨g, 0, none⟩) bs cap Z4.out (by rw [Hl.out]; exact hc) hm 2 1
  rw [Ha1.out, Hl.out] at HA
  have HAs := Lib.hid HA
  have Hw4 := Lib.hid hw4
  clear HA hb3 hb4 b24 hw4 HOp
  go_wp2_with fail
  rw [Hw4.out]
  refine HAs.out.mono ?_
  rintro e w5 ⟨v, rfl, ho5, hb5⟩
  obtain ⟨X5, k5, rfl, _, _⟩ := own_slice ho5
  have B5 := Lib.hid (B4.out.trans (hb5.mono B4.out.size))
  have Z5 := Lib.hid (Z4.out.below hb5)
  have P5 := Lib.hid (P4.out.below hb5 P4.out.lt)
  have HA := uas_any σ τ w5 (HC.out.below B5.out) (HU.out.below B5.out) (some ⟨g, 0, none⟩) bs cap Z5.out (by rw [Hl.out]; exact hc) hm 2 2
  rw [Ha2.out, Hl.out] at HA
  have HAt := Lib.hid HA
  clear HA hb5 ho5 HAs
  go_wp2_with fail
  refine HAt.out.mono ?_
  rintro e w6 ⟨v, rfl, ho6, hb6⟩
  obtain ⟨X6, k6, rfl, _, _⟩ := own_slice ho6
  have B6 := Lib.hid (B5.out.trans (hb6.mono B5.out.size))
  have z6 := Z5.out.below hb6
  have c0 := z6.one 0 (by rw [Hl.out]; decide)
  have c1 := z6.one 1 (by rw [Hl.out]; decide)
  have c7 := z6.one 7 (by rw [Hl.out]; decide)
  have c8 := z6.one 8 (by rw [Hl.out]; decide)
  have c9 := z6.one 9 (by rw [Hl.out]; decide)
  rw [Hat.out.1] at c0
  rw [Hat.out.2.1] at c1
  rw [Hat.out.2.2.1] at c7
  rw [Hat.out.2.2.2.1] at c8
  rw [Hat.out.2.2.2.2] at c9
  simp only [Nat.zero_add] at c0 c1 c7 c8 c9
  have d1 : w6.cell? ⟨w3.heap.size, 1, none⟩ = some (.int .i64 1) := (P5.out.below hb6 P5.out.lt).cell 1
  clear hb6 ho6 z6 HAt
  go_wp2_with fail
  go_ret
  exact ⟨rfl, B6.out⟩
end Go.Proofs.YtbkecaenjjlmoaaGreatDoor
