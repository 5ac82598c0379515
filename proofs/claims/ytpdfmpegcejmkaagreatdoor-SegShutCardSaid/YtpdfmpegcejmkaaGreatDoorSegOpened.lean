/- As. -/
/- What an opened unit's body is made of. -/
/- limpetref08: a record. -/
/- What a reader has left. -/
/- seg: how a block's body is read. -/
import Derived.Test.YtpdfmpegcejmkaaGreatDoorUnitOpen
import Derived.Deep.RegionHeld3
import Derived.Test.YtpdfmpegcejmkaaGreatDoorUnitModel
import Derived.Test.YtpdfmpegcejmkaaGreatDoorRef8Rec
import Derived.Deep.RegionLaw
import Derived.Test.YtpdfmpegcejmkaaGreatDoorReadAs
import Derived.Test.YtpdfmpegcejmkaaGreatDoorFlawAs
import Derived.Deep.RegionWith
namespace Go.Proofs.YtpdfmpegcejmkaaGreatDoor
open Go.RowKit
theorem asB_bad {b : List Int} {k num : Int} (h : (openB b).2 ≠ 0) : asB b k num = ([], (openB b).2) := by unfold asB; rw [if_pos h]
theorem asB_other {b : List Int} {k num : Int} (h : (openB b).2 = 0) (ho : otherU (openB b).1 k num) : asB b k num = ([], 6) := by unfold asB; rw [if_neg (fun hn => hn h)]; exact if_pos ho
theorem asB_yes {b : List Int} {k num : Int} (h : (openB b).2 = 0) (ho : ¬ otherU (openB b).1 k num) : asB b k num = ((openB b).1.body, 0) := by unfold asB; rw [if_neg (fun hn => hn h)]; exact if_neg ho
set_option maxRecDepth 100000 in
set_option maxHeartbeats 4000000 in
theorem uas_any (σ : Sen) (τ : SenU) (w : World) (hC : GlAt σ w) (hU : GlU τ w) (A : Option Addr) (b : List Int) (c : Nat) (hb : BytesAt w A b) (hbc : b.length ≤ c) (hm : c ≤ 9223372036854775807) (kd num : Int) :
    Calls Tryz.prog 105 #[.slice A b.length c, .int .i64 kd, .int .i64 num] w fun e w' => ∃ v, e = .returned (.tuple #[v, .int .i64 (asB b kd num).2]) ∧ w'.ownsRow w.heap.size 5 1 v (asB b kd num).1.length (u8s (asB b kd num).1) ∧ Below w.heap.size w w' := by
  have HO := Lib.hid (open_any σ τ w hC hU A b c hb hbc hm)
  have HU := Lib.hid hU
  have Ha1 := Lib.hid (fun h => asB_bad (b := b) (k := kd) (num := num) h)
  have Ha2 := Lib.hid (fun h => asB_other (b := b) (k := kd) (num := num) h)
  have Ha3 := Lib.hid (fun h => asB_yes (b := b) (k := kd) (num := num) h)
  obtain ⟨r, hop⟩ : ∃ r, openB b = r := ⟨_, rfl⟩
  rw [hop] at HO Ha1 Ha2 Ha3
  obtain ⟨u, code⟩ := r
  simp only at HO Ha1 Ha2 Ha3
  clear hC hU hb hop
  unfold UnitV.val at *
  go_enter Tryz.func105, Tryz.ntmps105
  go_wp2_with fail
  refine HO.out.mono ?_
  rintro e w2 ⟨v, X, k, rfl, hF, ho, hb2⟩
  have hb3 := below_new w2 (.cells #[.int .i64 u.kind, .int .i64 u.num, .slice X u.body.length k] 34)
  have hb13 := hb2.trans (hb3.mono hb2.size)
  obtain ⟨w3, hw3⟩ : ∃ w3, w2.alloc (.cells #[.int .i64 u.kind, .int .i64 u.num, .slice X u.body.length k] 34) = w3 := ⟨_, rfl⟩
  have P3 := Lib.hid (BlockIs.made w2 34 #[.int .i64 u.kind, .int .i64 u.num, .slice X u.body.length k])
  rw [hw3] at hb3 hb13 P3
  have HU3 := Lib.hid (HU.out.below hb13)
  have B3 := Lib.hid hb13
  have O3 := Lib.hid (ownsRow_below ho hb3)
  have Hw3 := Lib.hid hw3
  obtain ⟨p0, p1, p2, _, _, _⟩ := unit_cells P3.out
  clear hb2 hb3 hb13 ho hw3 HO
  by_cases hc0 : code = 0
  · subst hc0
    obtain rfl := hF.zero
    have HSt := Lib.hid (strange_any τ w3 HU3.out u X k kd num)
    unfold UnitV.val at HSt
    clear hF
    go_wp2_with fail
    rw [Hw3.out]
    refine HSt.out.mono ?_
    rintro e w4 ⟨v, rfl, hF, hb4⟩
    have B4 := Lib.hid (B3.out.trans (hb4.mono B3.out.size))
    have O4 := Lib.hid (ownsRow_below O3.out hb4)
    have HU4 := Lib.hid (HU3.out.below hb4)
    have c2 : w4.cell? ⟨w2.heap.size, 2, none⟩ = some (.slice X u.body.length k) := (P3.out.below hb4 P3.out.lt).cell 2
    clear p0 p1 p2 hb4 HSt
    by_cases hot : otherU u kd num
    · have Has := Lib.hid (Ha2.out (by first | rfl | trivial) hot)
      obtain ⟨pos, a, rfl, ha⟩ := FlawOf.some_ (k := 6) (by decide) (show FlawOf τ 6 v by rw [if_pos hot] at hF; exact hF)
      have HEr := Lib.hid (uerrno_any τ w4 HU4.out 6 _ ha)
      clear hF ha hot c2
      go_wp2_with fail
      refine HEr.out.mono ?_
      rintro e w5 ⟨rfl, hb5⟩
      have B5 := Lib.hid (B4.out.trans (hb5.mono B4.out.size))
      clear hb5 HEr
      go_wp2_with fail
      go_ret2
      rw [Has.out]
      exact ⟨_, rfl, World.ownsRow_nil _ _ _ _, B5.out⟩
    · have Has := Lib.hid (Ha3.out (by first | rfl | trivial) hot)
      obtain rfl := FlawOf.zero (show FlawOf τ 0 v by rw [if_neg hot] at hF; exact hF)
      clear hF hot
      go_wp2_with fail
      go_ret2
      rw [Has.out]
      exact ⟨_, rfl, O4.out, B4.out⟩
  · have Has := Lib.hid (Ha1.out hc0)
    obtain ⟨pos, a, rfl, ha⟩ := hF.some_ hc0
    have HEr := Lib.hid (uerrno_any τ w3 HU3.out code _ ha)
    have Hw3b := Hw3
    clear hF ha hc0
    go_wp2_with fail
    rw [Hw3.out]
    refine HEr.out.mono ?_
    rintro e w5 ⟨rfl, hb5⟩
    have B5 := Lib.hid (B3.out.trans (hb5.mono B3.out.size))
    clear hb5 HEr
    go_wp2_with fail
    go_ret2
    rw [Has.out]
    exact ⟨_, rfl, World.ownsRow_nil _ _ _ _, B5.out⟩
end Go.Proofs.YtpdfmpegcejmkaaGreatDoor
namespace Go.Proofs.YtpdfmpegcejmkaaGreatDoor
open Mx
theorem open_facts {b : List Int} (hb : ∀ z ∈ b, 0 ≤ z ∧ z < 256) : (∀ z ∈ (openB b).1.body, 0 ≤ z ∧ z < 256) ∧ (openB b).1.body.length ≤ 239 := by
  by_cases h : (openB b).2 = 0
  · refine ⟨fun z hz => ?_, (open_some h).1.2.2⟩
    have h3 : (openB b).1.body = (unitOf b).body := by
      unfold openB at h ⊢
      split at h
      · exact absurd h (by decide)
      · next h5 =>
        rw [if_neg h5]
        split at h
        · exact absurd h (by decide)
        · next h6 =>
          rw [if_neg h6]
          split at h
          · next h7 => rw [if_pos h7]
          · exact absurd h (by decide)
    rw [h3] at hz
    have hz := List.mem_of_mem_take hz
    rcases List.mem_append.1 hz with h | h
    · exact hb z (List.mem_of_mem_drop (List.mem_of_mem_take h))
    · exact hb z (List.mem_of_mem_drop (List.mem_of_mem_take h))
  · rw [open_else h]
    exact ⟨(fun z hz => by cases hz), Nat.zero_le _⟩
end Go.Proofs.YtpdfmpegcejmkaaGreatDoor
namespace Go.Proofs.YtpdfmpegcejmkaaGreatDoor
open Go.RowKit
/-- What stands in a record's call: its boxes, of a world of its own. -/
structure RecG (W w : World) (a : IdentI) (e : Ent) (A : Option Addr) (c : Nat) : Prop where
  box1 : BlockIs w W.heap.size 26 #[.int .i64 a.idx, .int .i64 a.term, .int .i64 a.kind]
  box2 : BlockIs w (W.heap.size + 1) 50 #[.int .i64 e.index, .int .i64 e.term, .int .i64 e.kind, .slice A e.body.length c]
  box3 : BlockIs w (W.heap.size + 2) 34 #[.int .i64 0, .int .i64 0, .slice none 0 0]
  below : Below W.heap.size W w
  size : W.heap.size + 3 ≤ w.heap.size
theorem RecG.made (W : World) (a : IdentI) (e : Ent) (A : Option Addr) (c : Nat) : RecG W (((W.alloc (.cells #[.int .i64 a.idx, .int .i64 a.term, .int .i64 a.kind] 26)).alloc (.cells #[.int .i64 e.index, .int .i64 e.term, .int .i64 e.kind, .slice A e.body.length c] 50)).alloc (.cells #[.int .i64 0, .int .i64 0, .slice none 0 0] 34)) a e A c := by
  have b1 := below_new W (.cells #[.int .i64 a.idx, .int .i64 a.term, .int .i64 a.kind] 26)
  have B1 := BlockIs.made W 26 #[.int .i64 a.idx, .int .i64 a.term, .int .i64 a.kind]
  have s1 := World.size_alloc W (.cells #[.int .i64 a.idx, .int .i64 a.term, .int .i64 a.kind] 26)
  generalize W.alloc (.cells #[.int .i64 a.idx, .int .i64 a.term, .int .i64 a.kind] 26) = w1 at *
  have b2 := below_new w1 (.cells #[.int .i64 e.index, .int .i64 e.term, .int .i64 e.kind, .slice A e.body.length c] 50)
  have B2 := BlockIs.made w1 50 #[.int .i64 e.index, .int .i64 e.term, .int .i64 e.kind, .slice A e.body.length c]
  have s2 := World.size_alloc w1 (.cells #[.int .i64 e.index, .int .i64 e.term, .int .i64 e.kind, .slice A e.body.length c] 50)
  generalize w1.alloc (.cells #[.int .i64 e.index, .int .i64 e.term, .int .i64 e.kind, .slice A e.body.length c] 50) = w2 at *
  have b3 := below_new w2 (.cells #[.int .i64 0, .int .i64 0, .slice none 0 0] 34)
  have B3 := BlockIs.made w2 34 #[.int .i64 0, .int .i64 0, .slice none 0 0]
  have s3 := World.size_alloc w2 (.cells #[.int .i64 0, .int .i64 0, .slice none 0 0] 34)
  generalize w2.alloc (.cells #[.int .i64 0, .int .i64 0, .slice none 0 0] 34) = w3 at *
  rw [s1] at B2 s2
  rw [s2] at B3 s3
  exact ⟨(B1.below b2 B1.lt).below b3 (by omega), B2.below b3 (by omega), B3, (b1.trans (b2.mono (by omega))).trans (b3.mono (by omega)), by omega⟩
theorem RecG.on {W w w2 : World} {a : IdentI} {e : Ent} {A : Option Addr} {c : Nat} (h : RecG W w a e A c) (hb : Below (W.heap.size + 3) w w2) : RecG W w2 a e A c :=
  ⟨h.box1.below hb (by omega), h.box2.below hb (by omega), h.box3.below hb (by omega), h.below.trans (hb.mono (by omega)), Nat.le_trans h.size hb.size⟩
theorem RecG.cells {W w : World} {a : IdentI} {e : Ent} {A : Option Addr} {c : Nat} (h : RecG W w a e A c) :
    w.cell? ⟨W.heap.size, 0, none⟩ = some (.int .i64 a.idx) ∧ w.cell? ⟨W.heap.size, 1, none⟩ = some (.int .i64 a.term) ∧ w.cell? ⟨W.heap.size, 2, none⟩ = some (.int .i64 a.kind) ∧ w.cell? ⟨W.heap.size + 1, 0, none⟩ = some (.int .i64 e.index) ∧ w.cell? ⟨W.heap.size + 1, 1, none⟩ = some (.int .i64 e.term) ∧ w.cell? ⟨W.heap.size + 1, 2, none⟩ = some (.int .i64 e.kind) ∧ w.cell? ⟨W.heap.size + 1, 3, none⟩ = some (.slice A e.body.length c) :=
  ⟨h.box1.cell 0, h.box1.cell 1, h.box1.cell 2, h.box2.cell 0, h.box2.cell 1, h.box2.cell 2, h.box2.cell 3⟩
theorem RecG.res {W w : World} {a : IdentI} {e : Ent} {A : Option Addr} {c : Nat} (h : RecG W w a e A c) :
    w.cell? ⟨W.heap.size + 1 + 1, 0, none⟩ = some (.int .i64 0) ∧ w.cell? ⟨W.heap.size + 1 + 1, 1, none⟩ = some (.int .i64 0) ∧ w.cell? ⟨W.heap.size + 1 + 1, 2, none⟩ = some (.slice none 0 0) ∧ w.frozen? ⟨W.heap.size + 1 + 1, 0, none⟩ = false ∧ w.frozen? ⟨W.heap.size + 1 + 1, 1, none⟩ = false ∧ w.frozen? ⟨W.heap.size + 1 + 1, 2, none⟩ = false :=
  ⟨h.box3.cell 0, h.box3.cell 1, h.box3.cell 2, h.box3.free 0, h.box3.free 1, h.box3.free 2⟩
theorem own_lift {w : World} {B B' : Nat} {e : TypeId} {size n : Nat} {v : Value} {xs : List Value} (h : w.ownsRow B e size v n xs) (hB : ∀ b, v.ownBlock = some b → B' ≤ b) : w.ownsRow B' e size v n xs :=
  ⟨h.1, h.2.imp id fun ⟨g, cap, cur, h1, h2, h3⟩ => ⟨g, cap, cur, h1, hB g (by rw [h1]; rfl), h3⟩⟩
/-- A writer's bytes, not none, are a row of the call's own. -/
theorem RefN.owned {lo : Nat} {w : World} {h : Nat} {bs : List Int} (k : RefN lo w h bs) (h0 : 0 < bs.length) : ∃ g cap, w.cell? ⟨h, 0, none⟩ = some (.slice (some ⟨g, 0, none⟩) bs.length cap) ∧ w.ownsRow lo 5 1 (.slice (some ⟨g, 0, none⟩) bs.length cap) bs.length (u8s bs) ∧ lo ≤ g ∧ ∀ z ∈ bs, 0 ≤ z ∧ z < 256 := by
  obtain ⟨T, m, ⟨bv, bs', sp, k1, _, hs⟩, _, k3⟩ := k
  cases sp with
  | true => simp at hs
  | false =>
    obtain rfl : bs = bs' := by simpa using hs
    obtain ⟨g, cap, rfl, _, _, _, _⟩ := own_form k1.own h0
    exact ⟨g, cap, k1.blk.cell 0, own_lift k1.own (fun b e => k3 b (k1.mem b e)), k3 g (k1.mem g rfl), k1.bd⟩
/-- The result is laid in its box. -/
theorem RecG.done {W w : World} {a : IdentI} {e : Ent} {A : Option Addr} {c : Nat} (h : RecG W w a e A c) (x : Int) {X : Option Addr} {n k : Nat} {xs : List Value} (ho : w.ownsRow (W.heap.size + 3) 5 1 (.slice X n k) n xs) :
    (((w.setCell ⟨W.heap.size + 1 + 1, 0, none⟩ (.int .i64 5)).setCell ⟨W.heap.size + 1 + 1, 1, none⟩ (.int .i64 x)).setCell ⟨W.heap.size + 1 + 1, 2, none⟩ (.slice X n k)).cell? ⟨W.heap.size + 1 + 1, 0, none⟩ = some (.int .i64 5) ∧
    (((w.setCell ⟨W.heap.size + 1 + 1, 0, none⟩ (.int .i64 5)).setCell ⟨W.heap.size + 1 + 1, 1, none⟩ (.int .i64 x)).setCell ⟨W.heap.size + 1 + 1, 2, none⟩ (.slice X n k)).cell? ⟨W.heap.size + 1 + 1, 1, none⟩ = some (.int .i64 x) ∧
    (((w.setCell ⟨W.heap.size + 1 + 1, 0, none⟩ (.int .i64 5)).setCell ⟨W.heap.size + 1 + 1, 1, none⟩ (.int .i64 x)).setCell ⟨W.heap.size + 1 + 1, 2, none⟩ (.slice X n k)).cell? ⟨W.heap.size + 1 + 1, 2, none⟩ = some (.slice X n k) ∧
    (((w.setCell ⟨W.heap.size + 1 + 1, 0, none⟩ (.int .i64 5)).setCell ⟨W.heap.size + 1 + 1, 1, none⟩ (.int .i64 x)).setCell ⟨W.heap.size + 1 + 1, 2, none⟩ (.slice X n k)).ownsRow (W.heap.size + 3) 5 1 (.slice X n k) n xs ∧
    Below W.heap.size W (((w.setCell ⟨W.heap.size + 1 + 1, 0, none⟩ (.int .i64 5)).setCell ⟨W.heap.size + 1 + 1, 1, none⟩ (.int .i64 x)).setCell ⟨W.heap.size + 1 + 1, 2, none⟩ (.slice X n k)) := by
  have hB := ((h.box3.set1 0 (.int .i64 5)).set1 1 (.int .i64 x)).set1 2 (.slice X n k)
  have hg := grown_at (grown_at (grown_at (World.grownBy.refl w (some (W.heap.size + 1 + 1))) 0 (.int .i64 5)) 1 (.int .i64 x)) 2 (.slice X n k)
  refine ⟨hB.cell 0, hB.cell 1, hB.cell 2, ho.kept hg (.inr ?_), below_grown h.below hg h.below.size (by omega)⟩
  intro e'
  have := (ho.lt _ e').1
  omega
set_option maxRecDepth 100000 in
set_option maxHeartbeats 1000000 in
theorem rrecord_at (W : World) (a : IdentI) (e : Ent) (A : Option Addr) (c : Nat) (hr : rightB e = true) (ha : aheadI a e.index) (hb : BytesAt W A e.body) (hA : A = none → c = 0) :
    Calls Tryz.prog 57 #[a.val, .agg #[.int .i64 e.index, .int .i64 e.term, .int .i64 e.kind, .slice A e.body.length c]] W fun r w' => ∃ v, r = .returned (.tuple #[.agg #[.int .i64 5, .int .i64 e.index, v], .int .i64 0]) ∧ w'.ownsRow (W.heap.size + 3) 5 1 v (recBody a e).length (u8s (recBody a e)) ∧ Below W.heap.size W w' := by
  obtain ⟨h1, h2, h3, h4⟩ := ent_right hr
  obtain ⟨k1, k2, k3⟩ := known_bd ha.1
  have HR := Lib.hid (fun w => refRight_any w e A c (by omega))
  have HF := Lib.hid (fun w => rfits_any w a e.index (by omega) (by omega))
  rw [hr] at HR
  rw [decide_eq_true ha] at HF
  have hG := RecG.made W a e A c
  have Hb := Lib.hid (And.intro hb hA)
  have He := Lib.hid h4
  have t6 : top 6 = 1099511627776 := rfl
  have t1 : top 1 = 255 := rfl
  have P1 := Lib.hid (fun w h bs (h1 : RefN (W.heap.size + 3) w h bs) (hl : bs.length ≤ 1000) => h1.put 6 a.term (by decide) k2.1 (by rw [t6]; exact k2.2) hl (by decide))
  have P2 := Lib.hid (fun w h bs (h1 : RefN (W.heap.size + 3) w h bs) (hl : bs.length ≤ 1000) => h1.put 1 a.kind (by decide) k3.1 (by rw [t1]; exact Int.le_trans k3.2 (by decide)) hl (by decide))
  have P3 := Lib.hid (fun w h bs (h1' : RefN (W.heap.size + 3) w h bs) (hl : bs.length ≤ 1000) => h1'.put 6 e.term (by decide) h3.1 (by rw [t6]; exact h3.2) hl (by decide))
  have P4 := Lib.hid (fun w h bs (h1' : RefN (W.heap.size + 3) w h bs) (hl : bs.length ≤ 1000) => h1'.put 1 e.kind (by decide) (by omega) (by rw [t1]; omega) hl (by decide))
  clear hr ha hb hA h1 h2 h3 h4 k1 k2 k3 t6 t1
  unfold IdentI.val at HF ⊢
  go_enter Tryz.func57, Tryz.ntmps57
  obtain ⟨w0, hw0⟩ : ∃ w, (((W.alloc (.cells #[.int .i64 a.idx, .int .i64 a.term, .int .i64 a.kind] 26)).alloc (.cells #[.int .i64 e.index, .int .i64 e.term, .int .i64 e.kind, .slice A e.body.length c] 50)).alloc (.cells #[.int .i64 0, .int .i64 0, .slice none 0 0] 34)) = w := ⟨_, rfl⟩
  rw [hw0] at hG
  have Hw0 := Lib.hid hw0
  have G0 := Lib.hid hG
  obtain ⟨c0, c1, c2, c3, c4, c5, c6⟩ := hG.cells
  clear hG hw0
  rw [← Hw0.out] at c0 c1 c2 c3 c4 c5 c6
  go_wp2_with fail
  rw [Hw0.out]
  refine (HR.out _).mono ?_
  rintro _ w1 ⟨rfl, b1⟩
  have G1 := Lib.hid (G0.out.on (b1.mono G0.out.size))
  clear b1 c0 c1 c2 c3 c4 c5 c6
  obtain ⟨c0, c1, c2, c3, c4, c5, c6⟩ := G1.out.cells
  go_wp2_with fail
  refine (HF.out _).mono ?_
  rintro _ w2 ⟨rfl, b2⟩
  have G2 := Lib.hid (G1.out.on (b2.mono G1.out.size))
  have hN := RefN.new w2
  have hbw := below_new w2 (.cells #[.slice none 0 0, .bool false] 79)
  have G3 := Lib.hid (G2.out.on (hbw.mono G2.out.size))
  obtain ⟨w3, hw3⟩ : ∃ w, w2.alloc (.cells #[.slice none 0 0, .bool false] 79) = w := ⟨_, rfl⟩
  rw [hw3] at hN G3
  have Hw3 := Lib.hid hw3
  have N3 := Lib.hid (show RefN (W.heap.size + 3) w3 w2.heap.size [] from by obtain ⟨T, m, x1, x2, x3⟩ := hN; exact ⟨T, m, x1, x2, fun k hk => Nat.le_trans G2.out.size (x3 k hk)⟩)
  clear b2 c0 c1 c2 c3 c4 c5 c6 hN hbw hw3 G2
  obtain ⟨c0, c1, c2, c3, c4, c5, c6⟩ := G3.out.cells
  rw [← Hw3.out] at c0 c1 c2 c3 c4 c5 c6
  go_wp2_with fail
  rw [Hw3.out]
  refine (P1.out _ _ _ N3.out (by decide)).mono ?_
  rintro _ w4 ⟨rfl, n4, b4⟩
  have G4 := Lib.hid (G3.out.on b4)
  have N4 := Lib.hid n4
  clear n4 b4 N3 P1 c0 c1 c2 c3 c4 c5 c6
  obtain ⟨c0, c1, c2, c3, c4, c5, c6⟩ := G4.out.cells
  go_wp2_with fail
  refine (P2.out _ _ _ N4.out (by rw [List.length_append, le_len]; decide)).mono ?_
  rintro _ w5 ⟨rfl, n5, b5⟩
  have G5 := Lib.hid (G4.out.on b5)
  have N5 := Lib.hid n5
  clear n5 b5 N4 P2 c0 c1 c2 c3 c4 c5 c6
  obtain ⟨c0, c1, c2, c3, c4, c5, c6⟩ := G5.out.cells
  go_wp2_with fail
  refine (P3.out _ _ _ N5.out (by rw [List.length_append, List.length_append, le_len, le_len]; decide)).mono ?_
  rintro _ w6 ⟨rfl, n6, b6⟩
  have G6 := Lib.hid (G5.out.on b6)
  have N6 := Lib.hid n6
  clear n6 b6 N5 P3 c0 c1 c2 c3 c4 c5 c6
  obtain ⟨c0, c1, c2, c3, c4, c5, c6⟩ := G6.out.cells
  go_wp2_with fail
  refine (P4.out _ _ _ N6.out (by rw [List.length_append, List.length_append, List.length_append, le_len, le_len, le_len]; decide)).mono ?_
  rintro _ w7 ⟨rfl, n7, b7⟩
  have G7 := Lib.hid (G6.out.on b7)
  have N7 := Lib.hid n7
  clear n7 b7 N6 P4 c0 c1 c2 c3 c4 c5 c6
  obtain ⟨c0, c1, c2, c3, c4, c5, c6⟩ := G7.out.cells
  obtain ⟨g, cap, d0, ho, hg, hbs⟩ := N7.out.owned (by simp only [List.length_append, le_len]; decide)
  have HO := Lib.hid ho
  have HG := Lib.hid hg
  have HL := Lib.hid (show ([] ++ le (Int.toNat 6) a.term ++ le (Int.toNat 1) a.kind ++ le (Int.toNat 6) e.term ++ le (Int.toNat 1) e.kind).length = 14 by simp only [List.length_append, le_len]; decide)
  have HR := Lib.hid (show ([] ++ le (Int.toNat 6) a.term ++ le (Int.toNat 1) a.kind ++ le (Int.toNat 6) e.term ++ le (Int.toNat 1) e.kind) ++ e.body = recBody a e by unfold recBody; simp [List.append_assoc])
  have HZ := Lib.hid (Hb.out.1.below G7.out.below)
  generalize ([] ++ le (Int.toNat 6) a.term ++ le (Int.toNat 1) a.kind ++ le (Int.toNat 6) e.term ++ le (Int.toNat 1) e.kind) = xs at *
  rw [HL.out] at d0 ho
  go_wp2_with fail
  go_region_law (refine step_append_own8 (by rfl) _ _ (by rfl) (W.heap.size + 3) (.slice (some ⟨g, 0, none⟩) 14 cap) 14 xs (by rfl) (by first | exact ho | exact ownsRow_drew ho) _ e.body e.body.length _ (by rfl) rfl (by first | exact HZ.out | exact HZ.out.drewN 1) Hb.out.2 (by have := He.out; omega) (by exact G7.out.size) ?_; intro v8 w8 ho8 hg8 hat8; obtain ⟨g8, cap8, rfl, _, _, _, _⟩ := own_form ho8 (by omega); have hb8 : Below (W.heap.size + 3) w7 w8 := (by first | exact below_grown (Below.refl _ w7) hg8 G7.out.size hg | exact below_grown (Below.refl _ w7).drew hg8 G7.out.size hg); have O8 := Lib.hid (And.intro ho8 hb8); have G8 := Lib.hid (G7.out.on O8.out.2); obtain ⟨u0, u1, u2, u3, u4, u5, u6⟩ := G8.out.cells; obtain ⟨r0, r1, r2, f0, f1, f2⟩ := G8.out.res; clear ho8 hg8 hat8 hb8)
  all_goals
    clear HF c0 c1 c2 c3 c4 c5 c6 u0 u1 u2 u3 u4 u5 u6
    go_wp2_with fail
    clear r0 r1 r2 f0 f1 f2 d0 hbs
    obtain ⟨x1, x2, x3, x4, x5⟩ := G8.out.done e.index O8.out.1
    refine bodyPost_ret (v := .tuple #[.agg #[.int .i64 5, .int .i64 e.index, .slice (some ⟨g8, 0, none⟩) (14 + e.body.length) cap8], .int .i64 0]) ?_ ?_ ?_
    · simp [results, Tryz.results57, go_sem, Act.put, x1, x2, x3]
    · rfl
    · exact ⟨_, rfl, by rw [recBody_len, ← HR.out]; exact x4, x5⟩
end Go.Proofs.YtpdfmpegcejmkaaGreatDoor
namespace Go.Proofs.YtpdfmpegcejmkaaGreatDoor
open Go.RowKit
theorem rleft_any (σ : Sen) (w : World) (g : Nat) (bs : List Int) (s : RSt) (h : RdAt σ w g bs s) :
    Calls Tryz.prog 114 #[.pointer (some ⟨g, 0, none⟩)] w fun e w' => e = .returned (.int .i64 (leftR bs s)) ∧ ∃ n, w' = w.drewN n := by
  cases s with
  | bad p l =>
    go_enter Tryz.func114, Tryz.ntmps114
    go_wp2_with fail
    refine (going_is σ w g bs _ h).mono ?_
    rintro e w' ⟨rfl, rfl⟩
    unfold isOk
    go_wp2_with fail
    go_ret
    exact ⟨rfl, 0, rfl⟩
  | ok j =>
    go_enter Tryz.func114, Tryz.ntmps114
    go_wp2_with fail
    refine (going_is σ w g bs _ h).mono ?_
    rintro e w' ⟨rfl, rfl⟩
    unfold isOk
    go_wp2_with fail
    refine (left_is σ w g bs j h).mono ?_
    rintro e w2 ⟨rfl, n, rfl⟩
    go_wp2_with fail
    go_ret
    exact ⟨rfl, n, rfl⟩
theorem rleft_nil (w : World) :
    Calls Tryz.prog 114 #[.pointer none] w fun e w' => e = .returned (.int .i64 0) ∧ w = w' := by
  go_enter Tryz.func114, Tryz.ntmps114
  go_wp2_with fail
  refine (going_nil w).mono ?_
  rintro e w' ⟨rfl, rfl⟩
  go_wp2_with fail
  go_ret
  exact ⟨rfl, rfl⟩
end Go.Proofs.YtpdfmpegcejmkaaGreatDoor
namespace Go.Proofs.YtpdfmpegcejmkaaGreatDoor
open Go.RowKit
theorem own_nil_cap {w : World} {B : Nat} {e : TypeId} {size n cap : Nat} {X : Option Addr} {xs : List Value} (h : w.ownsRow B e size (.slice X n cap) n xs) : X = none → cap = 0 := by
  intro hX
  rcases h.2 with ⟨h', _⟩ | ⟨g, c, cur, h', _⟩
  · simp at h'; exact h'.2.2
  · subst hX; simp at h'
/-- A block without bytes turns: the reader stays. -/
theorem RdAt.apart {σ : Sen} {w w' : World} {g q : Nat} {bs : List Int} {s : RSt} {t : TypeId} {cs : Array Value} (h : RdAt σ w g bs s) (hg : w.grownBy w' (some q)) (h0 : g ≠ q) (hq : BlockIs w q t cs) (hc : ∀ (i : Nat) (z : Int), cs[i]? ≠ some (Value.int .u8 z)) : RdAt σ w' g bs s := by
  obtain ⟨x, cap, k, ev, h⟩ := h
  refine ⟨x, cap, k, ev, h.blk.kept hg (fun e => h0 (Option.some.inj e)), ⟨h.rd.1, fun hne => ?_⟩, h.off, h.len, h.err⟩
  obtain ⟨b, off, e, hcl⟩ := h.rd.2 hne
  refine ⟨b, off, e, fun i hi => hg.cell (hcl i hi) (fun e2 => ?_)⟩
  have e3 : b = q := Option.some.inj e2
  subst e3
  have h1 := hcl i hi
  rw [hq.cell] at h1
  exact hc _ _ h1
theorem asB_len {b : List Int} (hb : ∀ z ∈ b, 0 ≤ z ∧ z < 256) {k n : Int} : (asB b k n).1.length ≤ 239 ∧ ∀ z ∈ (asB b k n).1, 0 ≤ z ∧ z < 256 := by
  unfold asB
  split
  · exact ⟨Nat.zero_le _, fun z hz => by cases hz⟩
  · split
    · exact ⟨Nat.zero_le _, fun z hz => by cases hz⟩
    · exact ⟨(open_facts hb).2, (open_facts hb).1⟩
set_option maxRecDepth 100000 in
set_option maxHeartbeats 4000000 in
theorem gopened_bad (σ : Sen) (τ : SenU) (ρ : SenQ) (w : World) (hC : GlAt σ w) (hU : GlU τ w) (A : Option Addr) (b : List Int) (c : Nat) (hb : BytesAt w A b) (hbc : b.length ≤ c) (hm : c ≤ 9223372036854775807) (kd n : Int) (he : (asB b kd n).2 ≠ 0) :
    Calls Tryz.prog 81 #[.slice A b.length c, .int .i64 kd, .int .i64 n] w fun e w' => Faults ρ (asB b kd n).2 e ∧ Below w.heap.size w w' := by
  have hb1 := below_new w (.cells #[.pointer none, .slice none 0 0] 122)
  have HA := Lib.hid (uas_any σ τ _ (hC.below hb1) (hU.below hb1) A b c (hb.below hb1) hbc hm kd n)
  have HM := Lib.hid (fun w => gmust_err ρ n _ _ (.inr ⟨he, rfl⟩) w)
  have HB := Lib.hid hb1
  obtain ⟨r, hr⟩ : ∃ r, (asB b kd n).2 = r := ⟨_, rfl⟩
  rw [hr] at HA HM he ⊢
  have hne : (r != 0) = true := by simpa using he
  have HE := Lib.hid he
  clear hC hU hb hbc hm hb1 hr he
  unfold gtoldV at HM
  go_enter Tryz.func81, Tryz.ntmps81
  go_wp2_with fail
  refine HA.out.mono ?_
  rintro e w2 ⟨v, rfl, ho, b2⟩
  obtain ⟨Y, cy, rfl, _, _⟩ := own_slice ho
  have B2 := Lib.hid (HB.out.trans (b2.mono HB.out.size))
  clear ho b2 HA
  go_wp2_with fail
  refine (HM.out _).mono ?_
  rintro e w3 ⟨rfl, rfl⟩
  exact ⟨rfl, ⟨n, _, rfl, .inr ⟨HE.out, rfl⟩⟩, B2.out⟩
set_option maxRecDepth 100000 in
set_option maxHeartbeats 4000000 in
theorem gopened_good (σ : Sen) (τ : SenU) (w : World) (hC : GlAt σ w) (hU : GlU τ w) (A : Option Addr) (b : List Int) (c : Nat) (hb : BytesAt w A b) (hbc : b.length ≤ c) (hm : c ≤ 9223372036854775807) (kd n : Int) (he : (asB b kd n).2 = 0) :
    Calls Tryz.prog 81 #[.slice A b.length c, .int .i64 kd, .int .i64 n] w fun e w' => ∃ g Y cy, e = .returned (.agg #[.pointer (some ⟨g, 0, none⟩), .slice Y (asB b kd n).1.length cy]) ∧ w.heap.size < g ∧ RdAt σ w' g (asB b kd n).1 (.ok 0) ∧ w'.ownsRow w.heap.size 5 1 (.slice Y (asB b kd n).1.length cy) (asB b kd n).1.length (u8s (asB b kd n).1) ∧ (∀ a, Y = some a → a.block < g) ∧ Below w.heap.size w w' := by
  have hb1 := below_new w (.cells #[.pointer none, .slice none 0 0] 122)
  have HX := Lib.hid (BlockIs.made w 122 #[.pointer none, .slice none 0 0])
  have HA := Lib.hid (uas_any σ τ _ (hC.below hb1) (hU.below hb1) A b c (hb.below hb1) hbc hm kd n)
  have HS := Lib.hid (show (w.alloc (.cells #[.pointer none, .slice none 0 0] 122)).heap.size = w.heap.size + 1 by simp)
  have HB := Lib.hid hb1
  obtain ⟨hl, hbd⟩ := asB_len hb.1 (k := kd) (n := n)
  rw [he] at HA
  obtain ⟨bs, hbs⟩ : ∃ r, (asB b kd n).1 = r := ⟨_, rfl⟩
  rw [hbs] at HA hl hbd ⊢
  have HE := Lib.hid (And.intro hl hbd)
  clear hC hU hb hbc hm hb1 hbs he hl hbd
  go_enter Tryz.func81, Tryz.ntmps81
  go_wp2_with fail
  refine HA.out.mono ?_
  rintro e w2 ⟨v, rfl, ho, b2⟩
  obtain ⟨Y, cy, rfl, _, _⟩ := own_slice ho
  have X2 := Lib.hid (HX.out.below b2 HX.out.lt)
  have B2 := Lib.hid (HB.out.trans (b2.mono HB.out.size))
  have HR := Lib.hid (cread_any σ w2 bs Y cy (own_reads ho HE.out.2) (by have := HE.out.1; omega) (own_nil_cap ho))
  have O2 := Lib.hid ho
  clear ho b2 HA
  go_wp2_with fail
  refine HR.out.mono ?_
  rintro e w3 ⟨g, rfl, hg, hrd, b3⟩
  have hX3 := X2.out.below b3 X2.out.lt
  have B3 := Lib.hid (B2.out.trans (b3.mono B2.out.size))
  have R3 := Lib.hid (And.intro hg hrd)
  have O3 := Lib.hid (ownsRow_below O2.out b3)
  have c0 := hX3.cell 0
  have c1 := hX3.cell 1
  have f0 := hX3.free 0
  have f1 := hX3.free 1
  have hz := (hX3.set1 0 (.pointer (some ⟨g, 0, none⟩))).set1 1 (.slice Y bs.length cy)
  have gz := grown_at (grown_at (World.grownBy.refl w3 (some w.heap.size)) 0 (.pointer (some ⟨g, 0, none⟩))) 1 (.slice Y bs.length cy)
  have Z := Lib.hid (And.intro hz gz)
  have X3 := Lib.hid hX3
  clear hg hrd b3 hX3 hz gz HR
  go_wp2_with fail
  clear c0 c1 f0 f1
  have z0 := Z.out.1.cell 0
  have z1 := Z.out.1.cell 1
  have hs0 : w.heap.size < w2.heap.size := X2.out.lt
  have hbz := below_grown B3.out Z.out.2 B3.out.size (Nat.le_refl _)
  refine bodyPost_ret (v := .agg #[.pointer (some ⟨g, 0, none⟩), .slice Y bs.length cy]) (by simp [results, Tryz.results81, go_sem, z0, z1]) rfl ⟨g, Y, cy, rfl, by have := R3.out.1; omega, ?_, ?_, ?_, hbz⟩
  · refine R3.out.2.apart Z.out.2 (by have := R3.out.1; omega) (show BlockIs w3 w.heap.size 122 #[.pointer none, .slice none 0 0] from ?_) ?_
    · exact X3.out
    · intro i z hi
      rcases i with _ | _ | i <;> simp at hi
  · exact own_lift (O3.out.kept Z.out.2 (.inr (fun e => by have := (O2.out.lt _ e).1; have := HS.out; omega))) (fun b e => by have := (O2.out.lt b e).1; have := HS.out; omega)
  · intro a e
    subst e
    have := (O2.out.lt a.block rfl).2
    have := R3.out.1
    omega
end Go.Proofs.YtpdfmpegcejmkaaGreatDoor
