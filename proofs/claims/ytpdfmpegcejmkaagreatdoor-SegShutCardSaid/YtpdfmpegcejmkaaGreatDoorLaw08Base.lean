/- The statements' own helpers: are two entries the same. -/
/- Units compared. -/
/- Bytes that are owned, where they lie. -/
/- What the laws of segments share: blocks of records; the chapter's example. -/
import Derived.Test.YtpdfmpegcejmkaaGreatDoorKitSameI
import Derived.Test.YtpdfmpegcejmkaaGreatDoorMixShift
import Derived.Test.YtpdfmpegcejmkaaGreatDoorCodeAdd
import Derived.Lib.SmallJoins
import Derived.Test.YtpdfmpegcejmkaaGreatDoorKitBlock
import Derived.Test.YtpdfmpegcejmkaaGreatDoorSegRecord
import Derived.Test.YtpdfmpegcejmkaaGreatDoorUnitCopy
import Derived.Test.YtpdfmpegcejmkaaGreatDoorMixRshift
import Derived.Lib.SlBytesConst
namespace Go.Proofs.YtpdfmpegcejmkaaGreatDoor
open Go.RowKit
def sameE (a b : Ent) : Bool := decide (a.index = b.index ∧ a.term = b.term ∧ a.kind = b.kind ∧ a.body = b.body)
def entV (e : Ent) (A : Option Addr) (c : Nat) : Value := .agg #[.int .i64 e.index, .int .i64 e.term, .int .i64 e.kind, .slice A e.body.length c]
set_option maxRecDepth 100000 in
set_option maxHeartbeats 1000000 in
theorem sameEntry_any (a b : Ent) (A B : Option Addr) (ca cb : Nat) (w : World) (ha : BytesAt w A a.body) (hb : BytesAt w B b.body) (hl : a.body.length ≤ 9223372036854775807) :
    Calls Tryz.prog 31 #[entV a A ca, entV b B cb] w fun e w' => e = .returned (.bool (sameE a b)) ∧ Below w.heap.size w w' := by
  obtain ⟨x, t, k, zs⟩ := a
  obtain ⟨x', t', k', zs'⟩ := b
  unfold entV
  simp only at ha hb hl ⊢
  have hb1 := below_new w (.cells #[.int .i64 x, .int .i64 t, .int .i64 k, .slice A zs.length ca] 50)
  have hb2 := hb1.alloc (by simp) (.cells #[.int .i64 x', .int .i64 t', .int .i64 k', .slice B zs'.length cb] 50)
  have HS := Lib.hid (sameBytes_any zs zs' A B ca cb _ (ha.below hb2) (hb.below hb2) hl)
  have Hb2 := Lib.hid hb2
  clear hb1 hb2 ha hb
  have hE : sameE ⟨x, t, k, zs⟩ ⟨x', t', k', zs'⟩ = (decide (x = x') && (decide (t = t') && (decide (k = k') && sameB zs zs'))) := by
    unfold sameE sameB; simp [Bool.decide_and]
  have HE := Lib.hid hE
  clear hE
  by_cases h1 : x = x'
  · by_cases h2 : t = t'
    · by_cases h3 : k = k'
      · subst h1 h2 h3
        go_enter Tryz.func31, Tryz.ntmps31
        go_wp2_with fail
        refine HS.out.mono ?_
        rintro e w' ⟨rfl, n, rfl⟩
        go_wp2_with fail
        go_ret
        exact ⟨by rw [HE.out]; simp, Below.drewN Hb2.out n⟩
      · have q3 : (k == k') = false := by simpa using h3
        subst h1 h2
        clear h3
        go_enter Tryz.func31, Tryz.ntmps31
        go_wp2_with fail
        go_ret
        exact ⟨by rw [HE.out]; simp at q3; simp [q3], Hb2.out⟩
    · have q2 : (t == t') = false := by simpa using h2
      subst h1
      clear h2
      go_enter Tryz.func31, Tryz.ntmps31
      go_wp2_with fail
      go_ret
      exact ⟨by rw [HE.out]; simp at q2; simp [q2], Hb2.out⟩
  · have q1 : (x == x') = false := by simpa using h1
    clear h1
    go_enter Tryz.func31, Tryz.ntmps31
    go_wp2_with fail
    go_ret
    exact ⟨by rw [HE.out]; simp at q1; simp [q1], Hb2.out⟩
end Go.Proofs.YtpdfmpegcejmkaaGreatDoor
namespace Go.Proofs.YtpdfmpegcejmkaaGreatDoor
open Go.RowKit
def sameU (u v : UnitV) : Bool := (u.kind == v.kind) && ((u.num == v.num) && sameB u.body v.body)
theorem sameU_iff {u v : UnitV} : sameU u v = true ↔ u = v := by
  obtain ⟨k, n, b⟩ := u
  obtain ⟨k', n', b'⟩ := v
  unfold sameU sameB
  simp
theorem sameU_self (u : UnitV) : sameU u u = true := sameU_iff.2 rfl
set_option maxRecDepth 100000 in
set_option maxHeartbeats 2000000 in
theorem sameUnit_any (w : World) (u v : UnitV) (A B : Option Addr) (c d : Nat) (ha : BytesAt w A u.body) (hb : BytesAt w B v.body) (hl : u.body.length ≤ 9223372036854775807) :
    Calls Tryz.prog 16 #[u.val A c, v.val B d] w fun e w' => e = .returned (.bool (sameU u v)) ∧ Below w.heap.size w w' := by
  have hb1 := below_new w (.cells #[.int .i64 u.kind, .int .i64 u.num, .slice A u.body.length c] 34)
  have hb2 := hb1.alloc hb1.size (.cells #[.int .i64 v.kind, .int .i64 v.num, .slice B v.body.length d] 34)
  have HS := Lib.hid (sameBytes_any u.body v.body A B c d _ (ha.below hb2) (hb.below hb2) hl)
  have H2 := Lib.hid hb2
  unfold UnitV.val sameU
  clear ha hb hb1 hb2
  by_cases hk : u.kind = v.kind
  · by_cases hn : u.num = v.num
    · have e1 : (u.kind == v.kind) = true := beq_iff_eq.2 hk
      have e2 : (u.num == v.num) = true := beq_iff_eq.2 hn
      rw [e1, e2]
      clear hk hn
      go_enter Tryz.func16, Tryz.ntmps16
      go_wp2_with fail
      refine HS.out.mono ?_
      rintro e w' ⟨rfl, n, rfl⟩
      go_wp2_with fail
      go_ret
      exact ⟨ret_bool (by simp), drewN_below H2.out n⟩
    · have e1 : (u.kind == v.kind) = true := beq_iff_eq.2 hk
      have e2 : (u.num == v.num) = false := beq_eq_false_iff_ne.2 hn
      rw [e1, e2]
      clear hk hn
      go_enter Tryz.func16, Tryz.ntmps16
      go_wp2_with fail
      go_ret
      exact ⟨ret_bool (by simp), H2.out⟩
  · have e1 : (u.kind == v.kind) = false := beq_eq_false_iff_ne.2 hk
    rw [e1]
    clear hk
    go_enter Tryz.func16, Tryz.ntmps16
    go_wp2_with fail
    go_ret
    exact ⟨ret_bool (by simp), H2.out⟩
theorem bytesAt_marked (W : World) (zs : List Int) (m : Nat × Nat) (hr : ∀ z ∈ zs, 0 ≤ z ∧ z < 256) : BytesAt (W.alloc (.cells (u8s zs).toArray 5 m)) (some ⟨W.heap.size, 0, none⟩) zs := by
  refine bytesAt_cells hr (fun i hi => ?_)
  rw [World.cell?_alloc_mark, Nat.zero_add, List.getElem?_toArray]
  unfold u8s
  rw [List.getElem?_map, List.getD_eq_getElem?_getD, List.getElem?_eq_getElem hi]; rfl
end Go.Proofs.YtpdfmpegcejmkaaGreatDoor
namespace Go.Proofs.YtpdfmpegcejmkaaGreatDoor
open Go.RowKit
theorem own_at {w : World} {B n : Nat} {v : Value} {xs : List Int} (h : w.ownsRow B 5 1 v n (u8s xs)) (hn : 0 < n) (hx : ∀ z ∈ xs, 0 ≤ z ∧ z < 256) : ∃ g cap, v = .slice (some ⟨g, 0, none⟩) n cap ∧ n ≤ cap ∧ cap ≤ 9223372036854775807 ∧ B ≤ g ∧ g < w.heap.size ∧ BytesAt w (some ⟨g, 0, none⟩) xs := by
  obtain ⟨g, cap, rfl, hB, hlt, hc, hm⟩ := own_form h hn
  exact ⟨g, cap, rfl, hc, by unfold maxLen at hm; omega, hB, hlt, own_reads h hx⟩
end Go.Proofs.YtpdfmpegcejmkaaGreatDoor
namespace Go.Proofs.YtpdfmpegcejmkaaGreatDoor
open Go.RowKit
/-- What the laws are told of the variables. -/
structure Gl8 (σ : Sen) (τ : SenU) (ρ : SenQ) (w : World) : Prop where
  c : GlAt σ w
  u : GlU τ w
  q : GlQ ρ w
theorem Gl8.below {σ : Sen} {τ : SenU} {ρ : SenQ} {w w' : World} (h : Gl8 σ τ ρ w) (hb : Below w.heap.size w w') : Gl8 σ τ ρ w' := ⟨h.c.below hb, h.u.below hb, h.q.below hb⟩
theorem recordR_bd {a : IdentI} {e : Ent} (h : ∀ z ∈ e.body, 0 ≤ z ∧ z < 256) : ∀ z ∈ (recordR a e).1.body, 0 ≤ z ∧ z < 256 := by
  unfold recordR
  split
  · intro z hz; cases hz
  · split
    · intro z hz; cases hz
    · exact recU_bd h
theorem recordR_len {a : IdentI} {e : Ent} : (recordR a e).1.body.length ≤ 214 := by
  by_cases h : (recordR a e).2 = 0
  · rw [recordR_some h]
    obtain ⟨h1, _⟩ := record_zero.1 h
    obtain ⟨_, _, _, h4⟩ := ent_right h1
    show (recBody a e).length ≤ 214
    rw [recBody_len]; omega
  · rw [recordR_none h]; exact Nat.zero_le _
set_option maxRecDepth 100000 in
set_option maxHeartbeats 2000000 in
/-- A record's block, by the page. -/
theorem rblock_any (w : World) (a : IdentI) (e : Ent) (A : Option Addr) (c : Nat) (hl : e.body.length ≤ 9223372036854775807) (hb : BytesAt w A e.body) (hA : A = none → c = 0) :
    Calls Tryz.prog 22 #[a.val, entV e A c] w fun r w' => ∃ v, r = .returned v ∧ w'.ownsRow w.heap.size 5 1 v (sealR (recordR a e).1).1.length (u8s (sealR (recordR a e).1).1) ∧ Below w.heap.size w w' := by
  have hb0 := boxes_below [(26, #[.int .i64 a.idx, .int .i64 a.term, .int .i64 a.kind]), (50, #[.int .i64 e.index, .int .i64 e.term, .int .i64 e.kind, .slice A e.body.length c])] w
  have h0 := boxes_at [(26, #[.int .i64 a.idx, .int .i64 a.term, .int .i64 a.kind]), (50, #[.int .i64 e.index, .int .i64 e.term, .int .i64 e.kind, .slice A e.body.length c])] w 0 _ _ rfl
  have h1 := boxes_at [(26, #[.int .i64 a.idx, .int .i64 a.term, .int .i64 a.kind]), (50, #[.int .i64 e.index, .int .i64 e.term, .int .i64 e.kind, .slice A e.body.length c])] w 1 _ _ rfl
  obtain ⟨w2, hw2⟩ : ∃ w2, boxes w [(26, #[.int .i64 a.idx, .int .i64 a.term, .int .i64 a.kind]), (50, #[.int .i64 e.index, .int .i64 e.term, .int .i64 e.kind, .slice A e.body.length c])] = w2 := ⟨_, rfl⟩
  rw [hw2] at hb0 h0 h1
  simp only [boxes] at hw2
  have Hw2 := Lib.hid hw2
  have HB := Lib.hid hb0
  have HR := Lib.hid (rrecord_any w2 a e A c hl (hb.below hb0) hA)
  have HL := Lib.hid (recordR_len (a := a) (e := e))
  have HD := Lib.hid (recordR_bd (a := a) hb.1)
  obtain ⟨rr, hrr⟩ : ∃ rr, recordR a e = rr := ⟨_, rfl⟩
  rw [hrr] at HR HL HD ⊢
  obtain ⟨⟨uk, un, ub⟩, rc⟩ := rr
  simp only at HR HL HD ⊢
  have HS := Lib.hid (fun W X k (hz : BytesAt W X ub) (hc : ub.length ≤ k) (hm : k ≤ 9223372036854775807) => rseal_any W ⟨uk, un, ub⟩ X k hz hc hm)
  unfold UnitV.val at HS
  simp only at HS
  have c0 : w2.cell? ⟨w.heap.size, 0, none⟩ = some (.int .i64 a.idx) := h0.cell 0
  have c1 : w2.cell? ⟨w.heap.size, 1, none⟩ = some (.int .i64 a.term) := h0.cell 1
  have c2 : w2.cell? ⟨w.heap.size, 2, none⟩ = some (.int .i64 a.kind) := h0.cell 2
  have d0 : w2.cell? ⟨w.heap.size + 1, 0, none⟩ = some (.int .i64 e.index) := h1.cell 0
  have d1 : w2.cell? ⟨w.heap.size + 1, 1, none⟩ = some (.int .i64 e.term) := h1.cell 1
  have d2 : w2.cell? ⟨w.heap.size + 1, 2, none⟩ = some (.int .i64 e.kind) := h1.cell 2
  have d3 : w2.cell? ⟨w.heap.size + 1, 3, none⟩ = some (.slice A e.body.length c) := h1.cell 3
  clear hl hb hA hb0 h0 h1 hw2 hrr
  rw [← Hw2.out] at c0 c1 c2 d0 d1 d2 d3
  unfold IdentI.val entV at *
  go_enter Tryz.func22, Tryz.ntmps22
  go_wp2_with fail
  rw [Hw2.out]
  refine HR.out.mono ?_
  rintro r w3 ⟨v, rfl, ho, b3⟩
  obtain ⟨X, k, rfl, hk, hm⟩ := own_slice ho
  have hb4 := below_new w3 (.cells #[.int .i64 uk, .int .i64 un, .slice X ub.length k] 34)
  have B4 := Lib.hid (HB.out.trans ((b3.trans (hb4.mono b3.size)).mono HB.out.size))
  have HS4 := Lib.hid (HS.out _ X k ((own_reads ho HD.out).below hb4) hk (by unfold maxLen at hm; omega))
  obtain ⟨w4, hw4⟩ : ∃ w4, w3.alloc (.cells #[.int .i64 uk, .int .i64 un, .slice X ub.length k] 34) = w4 := ⟨_, rfl⟩
  rw [hw4] at B4 HS4
  have Hw4 := Lib.hid hw4
  clear ho b3 hb4 hk hm hw4 HR c0 c1 c2 d0 d1 d2 d3
  go_wp2_with fail
  rw [Hw4.out]
  refine HS4.out.mono ?_
  rintro r w5 ⟨v, rfl, ho, b5⟩
  have HO := Lib.hid (And.intro ho b5)
  clear ho b5 HS4
  go_wp2_with fail
  go_ret
  exact ⟨_, rfl, own_lift HO.out.1 (fun b x => by have := (HO.out.1.lt b x).1; have := B4.out.size; omega), B4.out.trans (HO.out.2.mono B4.out.size)⟩
set_option maxRecDepth 100000 in
set_option maxHeartbeats 2000000 in
/-- A unit's block. -/
theorem lsealed_any (w : World) (u : UnitV) (A : Option Addr) (c : Nat) (hb : BytesAt w A u.body) (hc : u.body.length ≤ c) (hm : c ≤ 9223372036854775807) :
    Calls Tryz.prog 30 #[u.val A c] w fun r w' => ∃ v, r = .returned v ∧ w'.ownsRow w.heap.size 5 1 v (sealR u).1.length (u8s (sealR u).1) ∧ Below w.heap.size w w' := by
  have hb1 := below_new w (.cells #[.int .i64 u.kind, .int .i64 u.num, .slice A u.body.length c] 34)
  have HS := Lib.hid (useal_any _ u A c (hb.below hb1) hc hm)
  have HB := Lib.hid hb1
  clear hb hc hm hb1
  unfold UnitV.val at *
  go_enter Tryz.func30, Tryz.ntmps30
  go_wp2_with fail
  refine HS.out.mono ?_
  rintro r w5 ⟨v, rfl, ho, b5⟩
  have HO := Lib.hid (And.intro ho b5)
  clear ho b5 HS
  go_wp2_with fail
  go_ret
  exact ⟨_, rfl, own_lift HO.out.1 (fun b x => by have := (HO.out.1.lt b x).1; have := HB.out.size; omega), HB.out.trans (HO.out.2.mono HB.out.size)⟩
end Go.Proofs.YtpdfmpegcejmkaaGreatDoor
