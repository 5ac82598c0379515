/- Both disks tell the same. -/
/- DevDoes: whatever deeds are done: the walk. -/
import Derived.Test.YtgjdoiblgbdebaaDoorLaw03DoesW
import Derived.Laws.StructEq
import Derived.StillTailTactics
import Derived.Test.YtgjdoiblgbdebaaDoorLaw03Awake
namespace Go.Proofs.YtgjdoiblgbdebaaDoor
open Go.RowKit
theorem OutAt.below {w w2 : World} {b : Nat} {v : Value} {bs : List Int} (h : OutAt w b v bs) (hb : Below w.heap.size w w2) : OutAt w2 b v bs := by
  rcases h with h | ⟨g, t, h1, h2, h3, h4⟩
  · exact .inl h
  · exact .inr ⟨g, t, h1, h2, h3.below hb h3.lt, h4⟩
theorem overOut_any (w : World) (b : Nat) (v : Value) (bs : List Int) (h : OutAt w b v bs) (hl : bs.length ≤ 140737488351232) :
    Calls Tryd.prog 30 #[v] w fun e w' => e = .returned (.tuple #[]) ∧ w.grownBy w' v.ownBlock ∧ ∀ g, v.ownBlock = some g → b ≤ g := by
  rcases h with ⟨rfl, rfl⟩ | ⟨g, t, rfl, h2, h3, h4⟩
  · exact (overNil_any w).mono fun _ _ ⟨h1, h2⟩ => ⟨h1, h2 ▸ World.grownBy.refl _ _, fun g e => by cases e⟩
  · exact (overRow_any w g bs.length bs.length _ t h3 (by rw [if_pos (by omega), List.size_toArray, u8s_len]; exact Nat.le_refl _) hl (by omega)).mono fun _ _ ⟨h1, h2'⟩ => ⟨h1, h2', fun g' e => by cases e; exact h2⟩
theorem guardStat : Tryd.prog.eqGuardType Tryd.prog.depth 44 = false := by kernel_rfl
theorem eqStat (a b c d e : Int) (f : Bool) (w : World) : (Op.equalIn 10000 44 (.agg #[.int .i64 a, .int .i64 b, .int .i64 c, .int .i64 d, .int .i64 e, .bool f]) (.agg #[.int .i64 a, .int .i64 b, .int .i64 c, .int .i64 d, .int .i64 e, .bool f])).run Tryd.prog w = .ok true w := by
  have u1 := Tryd.underlying3
  have u2 := Tryd.underlying4
  have hS : Tryd.prog.underlying 44 = some (.struct (Tryd.prog.fieldsOf 44)) := by kernel_rfl
  rw [show (10000 : Nat) = 9999 + 1 from rfl, run_equalIn_agg w 9999 44 _ _ hS (by kernel_rfl)]
  simp only [Program.fieldsOf, Tryd.underlying44]
  go_simp
theorem read_len {D : DM} (h : D.Ok) (n : Int) : (D.read n).1.length ≤ 256 := by
  unfold DM.read
  split
  · exact Nat.zero_le _
  · split
    · next hn =>
      unfold DM.has at hn
      exact Nat.le_of_eq (h.seen (n := n.toNat) (by omega)).1
    · exact Nat.zero_le _
theorem stored_len {D : DM} (h : D.Ok) (n : Int) : (D.storedI n).length ≤ 256 := by
  unfold DM.storedI
  split
  · next hn =>
    unfold DM.has at hn
    exact Nat.le_of_eq (h.stored (n := n.toNat) (by omega)).1
  · exact Nat.zero_le _
section
variable {σ : SenD} {w0 w : World} {Td Tr : Nat → Prop} {hd hr : Nat} {D : DM}
/-- The document's disk's own six cells, spelled as the page counts. -/
theorem RefAt3.six (k : RefAt3 w Tr hr D) : ∃ X Y c1 c2, w.cell? ⟨hr, 0, none⟩ = some (.slice X D.cells.length c1) ∧ w.cell? ⟨hr, 1, none⟩ = some (.slice Y D.waits.length c2) ∧ w.cell? ⟨hr, 3, none⟩ = some (.int .i64 (D.turns : Int)) ∧ w.cell? ⟨hr, 4, none⟩ = some (.int .i64 (D.crashes : Int)) ∧ w.cell? ⟨hr, 5, none⟩ = some (.bool D.down) := by
  obtain ⟨cv, wv, C, L, ar, tu, cr, dn, R, M⟩ := k
  obtain ⟨X, c1, e1, _, _⟩ := R.cslice
  obtain ⟨Y, c2, e2, _, _⟩ := R.wslice
  obtain ⟨h0, h1, h2, h3, h4, h5⟩ := R.cell6
  refine ⟨X, Y, c1, c2, ?_, ?_, ?_, ?_, ?_⟩
  · rw [h0, e1, M.cells, List.length_map]
  · rw [h1, e2, M.waits, List.length_map]
  · rw [h3, M.tu]
  · rw [h4, M.cr]
  · rw [h5, M.dn]
set_option maxRecDepth 100000 in
set_option maxHeartbeats 4000000 in
theorem same_any (hG : GlD σ w0) (k : Two w0 w Td Tr hd hr D D) (hF : D.Few 1000000) :
    Calls Tryd.prog 12 #[.pointer (some ⟨hd, 0, none⟩), .pointer (some ⟨hr, 0, none⟩)] w (Did w0 hd hr D) := by
  obtain ⟨X, Y, p1, p2, c0, c1, c3, c4, c5⟩ := k.r.six
  have HH := Lib.hid (fun w' (hb : Below w.heap.size w w') => hurts3_any (k.r.below hb))
  have K := Lib.hid k
  have HG := Lib.hid hG
  have HF := Lib.hid hF
  have hbn := below_new w (.cells #[.int .i64 0, .int .i64 0, .int .i64 0, .int .i64 0, .int .i64 0, .bool false] 44)
  have e0 := cell_below c0 hbn
  have e1 := cell_below c1 hbn
  have e3 := cell_below c3 hbn
  have e4 := cell_below c4 hbn
  have e5 := cell_below c5 hbn
  have Hbn := Lib.hid hbn
  have hgs := guardStat
  have hes := fun w' => eqStat (D.cells.length : Int) (D.waits.length : Int) (hurts D.cells : Int) (D.turns : Int) (D.crashes : Int) D.down w'
  clear k hG hF hbn
  go_enter Tryd.func12, Tryd.ntmps12
  go_wp2_with fail
  go_region_held3 (fun w' => w'.cell? ⟨hr, 0, none⟩ = some (.slice X D.cells.length p1) ∧ w'.cell? ⟨hr, 1, none⟩ = some (.slice Y D.waits.length p2) ∧ w'.cell? ⟨hr, 3, none⟩ = some (.int .i64 (D.turns : Int)) ∧ w'.cell? ⟨hr, 4, none⟩ = some (.int .i64 (D.crashes : Int)) ∧ w'.cell? ⟨hr, 5, none⟩ = some (.bool D.down)) (first | exact ⟨c0, c1, c3, c4, c5⟩ | exact ⟨cell_below c0 (below_new w _).drew, cell_below c1 (below_new w _).drew, cell_below c3 (below_new w _).drew, cell_below c4 (below_new w _).drew, cell_below c5 (below_new w _).drew⟩ | exact ⟨cell_below c0 (below_new w _), cell_below c1 (below_new w _), cell_below c3 (below_new w _), cell_below c4 (below_new w _), cell_below c5 (below_new w _)⟩) (first | (go_at_call 41; refine (HH.out _ (by first | exact (Below.refl _ _).drew | exact Hbn.out | exact Hbn.out.drew | exact (Below.refl _ _).drew.trans Hbn.out)).mono ?_; rintro e w' ⟨rfl, rfl⟩))
  all_goals
    clear c0 c1 c3 c4 c5 e0 e1 e3 e4 e5 HH Hbn
    have hbn := below_new w (.cells #[.int .i64 (D.cells.length : Int), .int .i64 (D.waits.length : Int), .int .i64 (hurts D.cells : Int), .int .i64 (D.turns : Int), .int .i64 (D.crashes : Int), .bool D.down] 44)
    have K1 := Lib.hid (show Two w0 (w.alloc (.cells #[.int .i64 (D.cells.length : Int), .int .i64 (D.waits.length : Int), .int .i64 (hurts D.cells : Int), .int .i64 (D.turns : Int), .int .i64 (D.crashes : Int), .bool D.down] 44)).drew Td Tr hd hr D D ∧ BlockIs (w.alloc (.cells #[.int .i64 (D.cells.length : Int), .int .i64 (D.waits.length : Int), .int .i64 (hurts D.cells : Int), .int .i64 (D.turns : Int), .int .i64 (D.crashes : Int), .bool D.down] 44)).drew w.heap.size 44 #[.int .i64 (D.cells.length : Int), .int .i64 (D.waits.length : Int), .int .i64 (hurts D.cells : Int), .int .i64 (D.turns : Int), .int .i64 (D.crashes : Int), .bool D.down] from ⟨(K.out.on hbn).drew, BlockIs.made w _ _⟩)
    clear hbn
    generalize (w.alloc (.cells #[.int .i64 (D.cells.length : Int), .int .i64 (D.waits.length : Int), .int .i64 (hurts D.cells : Int), .int .i64 (D.turns : Int), .int .i64 (D.crashes : Int), .bool D.down] 44)).drew = w1 at *
    have c0 : w1.cell? ⟨w.heap.size, 0, none⟩ = some (.int .i64 (D.cells.length : Int)) := K1.out.2.cell 0
    have c1 : w1.cell? ⟨w.heap.size, 1, none⟩ = some (.int .i64 (D.waits.length : Int)) := K1.out.2.cell 1
    have c2 : w1.cell? ⟨w.heap.size, 2, none⟩ = some (.int .i64 (hurts D.cells : Int)) := K1.out.2.cell 2
    have c3 : w1.cell? ⟨w.heap.size, 3, none⟩ = some (.int .i64 (D.turns : Int)) := K1.out.2.cell 3
    have c4 : w1.cell? ⟨w.heap.size, 4, none⟩ = some (.int .i64 (D.crashes : Int)) := K1.out.2.cell 4
    have c5 : w1.cell? ⟨w.heap.size, 5, none⟩ = some (.bool D.down) := K1.out.2.cell 5
    go_wp2_with fail
    go_region_held3 (fun w' => w'.cell? ⟨w.heap.size, 0, none⟩ = some (.int .i64 (D.cells.length : Int)) ∧ w'.cell? ⟨w.heap.size, 1, none⟩ = some (.int .i64 (D.waits.length : Int)) ∧ w'.cell? ⟨w.heap.size, 2, none⟩ = some (.int .i64 (hurts D.cells : Int)) ∧ w'.cell? ⟨w.heap.size, 3, none⟩ = some (.int .i64 (D.turns : Int)) ∧ w'.cell? ⟨w.heap.size, 4, none⟩ = some (.int .i64 (D.crashes : Int)) ∧ w'.cell? ⟨w.heap.size, 5, none⟩ = some (.bool D.down)) (first | exact ⟨c0, c1, c2, c3, c4, c5⟩ | exact ⟨k0, k1, k2, k3, k4, k5⟩) (first | (go_at_call 19; refine (OwnT.stat K1.out.1.drew.d).mono ?_; rintro e w2 ⟨rfl, hb2, _⟩; unfold DM.statV Go.Proofs.YtgjdoiblgbdebaaDoor.statV; have K2 := Lib.hid (And.intro (K1.out.1.drew.on hb2) (BlockIs.below (show BlockIs w1.drew w.heap.size _ _ from K1.out.2) hb2 K1.out.2.lt)); have k0 : w2.cell? ⟨w.heap.size, 0, none⟩ = some (.int .i64 (D.cells.length : Int)) := K2.out.2.cell 0; have k1 : w2.cell? ⟨w.heap.size, 1, none⟩ = some (.int .i64 (D.waits.length : Int)) := K2.out.2.cell 1; have k2 : w2.cell? ⟨w.heap.size, 2, none⟩ = some (.int .i64 (hurts D.cells : Int)) := K2.out.2.cell 2; have k3 : w2.cell? ⟨w.heap.size, 3, none⟩ = some (.int .i64 (D.turns : Int)) := K2.out.2.cell 3; have k4 : w2.cell? ⟨w.heap.size, 4, none⟩ = some (.int .i64 (D.crashes : Int)) := K2.out.2.cell 4; have k5 : w2.cell? ⟨w.heap.size, 5, none⟩ = some (.bool D.down) := K2.out.2.cell 5; clear hb2))
    all_goals
      have HK2 := Lib.hid K2.out.1
      clear c0 c1 c2 c3 c4 c5 k0 k1 k2 k3 k4 k5 hgs hes K1 K2
      go_wp2_with fail
      go_loopg [6] 50 (fun gk i wx => ∃ (q : Nat) (z : Int), gk = 50 - q ∧ q ≤ 42 ∧ i = .int .i64 z ∧ Hid (z = (q : Int) - 1) ∧ Hid (Two w0 wx Td Tr hd hr D D))
      case atStart => exact ⟨0, -1, rfl, by omega, rfl, Lib.hid rfl, by first | exact HK2 | exact Lib.hid HK2.out.drew⟩
      case round =>
        obtain ⟨q, z, hgk, hq, rfl, hz, hT⟩ := hrel
        have Hgk := Lib.hid hgk
        clear hgk
        obtain ⟨X1, Y1, q1, q2, d0, _⟩ := hT.out.r.six
        have hz1 : -1 ≤ z := by have := hz.out; omega
        have hM : D.cells.length ≤ 4096 := hT.out.d.at_.ok.many
        by_cases h1 : z ≤ (D.cells.length : Int)
        · by_cases h2 : z ≤ 40
          · have HR := Lib.hid (read_any σ hT.out.d.at_ (hT.out.d.gl HG.out) z)
            have HL := Lib.hid (And.intro (read_len hT.out.d.at_.ok z) (stored_len hT.out.d.at_.ok z))
            have hbq : ((D.read z).2 != (D.read z).2) = false := bne_self_eq_false _
            go_wp2_with fail
            refine HR.out.mono ?_
            rintro e w3 ⟨v, rfl, ho, hb3⟩
            obtain ⟨A, rfl, hbA, _⟩ := ho.bytes
            have K3 := Lib.hid (And.intro (hT.out.on hb3) hbA)
            clear ho hbA hb3 d0
            go_wp2_with fail
            refine (read3_any K3.out.1.r HF.out z).mono ?_
            rintro e w4 ⟨u, rfl, ⟨B, c, rfl, hbB⟩, hb4⟩
            have K4 := Lib.hid (And.intro (K3.out.1.on hb4) (And.intro (K3.out.2.below hb4) hbB))
            clear hbB hb4
            go_wp2_with fail
            refine (stored_any K4.out.1.d.at_ z).mono ?_
            rintro e w5 ⟨x, rfl, hox, hb5⟩
            obtain ⟨A2, rfl, hbx, _⟩ := id hox.bytes
            have K5 := Lib.hid (And.intro (K4.out.1.on hb5) (And.intro (K4.out.2.1.below hb5) (And.intro (K4.out.2.2.below hb5) (And.intro hox (And.intro hbx hb5)))))
            clear hox hbx hb5
            go_wp2_with fail
            refine (sameBytes_any (D.read z).1 (D.read z).1 A B _ c w5 K5.out.2.1 K5.out.2.2.1 (by have := HL.out.1; omega)).mono ?_
            rintro e w6 ⟨rfl, n6, rfl⟩
            rw [show sameB (D.read z).1 (D.read z).1 = true from decide_eq_true rfl]
            go_wp2_with fail
            refine (stored3_any (K5.out.1.drewN n6).r z).mono ?_
            rintro e w7 ⟨u, rfl, ⟨B2, c2, rfl, hbB2⟩, hb7⟩
            have K7 := Lib.hid (And.intro ((K5.out.1.drewN n6).on hb7) (And.intro ((show OutAt (w5.drewN n6) _ _ _ from K5.out.2.2.2.1).below hb7) (And.intro ((K5.out.2.2.2.2.1.drewN n6).below hb7) hbB2)))
            clear hbB2 hb7
            go_wp2_with fail
            refine (sameBytes_any (D.storedI z) (D.storedI z) A2 B2 _ c2 w7 K7.out.2.2.1 K7.out.2.2.2 (by have := HL.out.2; omega)).mono ?_
            rintro e w8 ⟨rfl, n8, rfl⟩
            rw [show sameB (D.storedI z) (D.storedI z) = true from decide_eq_true rfl]
            go_wp2_with fail
            refine (overOut_any (w7.drewN n8) _ _ (D.storedI z) (show OutAt (w7.drewN n8) _ _ _ from K7.out.2.1) (by have := HL.out.2; omega)).mono ?_
            rintro e w9 ⟨rfl, hg9, hge⟩
            have K9 := Lib.hid ((K7.out.1.drewN n8).grown hg9 (fun b e => K4.out.1.new (hge b e)))
            clear hg9 hge
            go_wp2_with fail
            go_roundg (50 - (q + 1))
            case measure => rw [Hgk.out]; omega
            case rel => exact ⟨q + 1, z + 1, rfl, by have := hz.out; omega, by go_num, Lib.hid (by rw [hz.out]; omega), K9⟩
          · go_wp2_with fail
            go_ret
            exact ⟨rfl, _, _, hT.out⟩
        · go_wp2_with fail
          go_ret
          exact ⟨rfl, _, _, hT.out⟩
end
end Go.Proofs.YtgjdoiblgbdebaaDoor
namespace Go.Proofs.YtgjdoiblgbdebaaDoor
open Go.RowKit
/-- The optional address A is where these deeds lie. -/
def DeedsAt (w : World) (A : Option Addr) (l : List DeedV) : Prop :=
  (∀ x ∈ l, x.ok w) ∧ (l ≠ [] → ∃ b off, A = some ⟨b, off, none⟩ ∧ ∀ i x, l[i]? = some x → ∀ j v, x.cells[j]? = some v → w.cell? ⟨b, off + i * 6 + j, none⟩ = some v)
theorem DeedsAt.below {w w' : World} {A : Option Addr} {l : List DeedV} (h : DeedsAt w A l) (hb : Below w.heap.size w w') : DeedsAt w' A l :=
  ⟨fun p hp => (h.1 p hp).below hb, fun hne => by
    obtain ⟨b, off, e, hc⟩ := h.2 hne
    exact ⟨b, off, e, fun i p hp j v hv => cell_below (hc i p hp j v hv) hb⟩⟩
def totB (l : List DeedV) : Nat := (l.map fun x => x.bs.length).sum
theorem totB_snoc (l : List DeedV) (k : Nat) (h : k < l.length) : totB (l.take (k + 1)) = totB (l.take k) + l[k].bs.length := by
  unfold totB
  rw [List.take_succ_eq_append_getElem h, List.map_append, List.sum_append]; simp
theorem totB_le (l : List DeedV) (m : Nat) (h : ∀ x ∈ l, x.bs.length ≤ m) : totB l ≤ l.length * m := by
  induction l with
  | nil => simp [totB]
  | cons x r ih =>
    have h1 := ih (fun y hy => h y (List.mem_cons_of_mem _ hy))
    have h2 := h x List.mem_cons_self
    unfold totB at *
    rw [List.map_cons, List.sum_cons, List.length_cons, Nat.add_mul, Nat.one_mul]
    omega
def greatB (blocks : Int) (l : List DeedV) : Bool := decide (120 < l.length ∨ 10000 < totB (l.take (min l.length 120)) ∨ (40 < blocks ∧ blocks ≤ 4096))
theorem deed_cells {w : World} {b off k : Nat} {l : List DeedV} (hk : k < l.length) (h : ∀ i x, l[i]? = some x → ∀ j v, x.cells[j]? = some v → w.cell? ⟨b, off + i * 6 + j, none⟩ = some v) :
    w.cell? ⟨b, off + k * 6, none⟩ = some (.int .i64 l[k].what) ∧ w.cell? ⟨b, off + k * 6 + 1, none⟩ = some (.int .i64 l[k].n) ∧ w.cell? ⟨b, off + k * 6 + 2, none⟩ = some (.slice l[k].A l[k].bs.length l[k].c) ∧ w.cell? ⟨b, off + k * 6 + 3, none⟩ = some (.int .i64 l[k].torn) ∧ w.cell? ⟨b, off + k * 6 + 4, none⟩ = some (.int .i64 l[k].part) ∧ w.cell? ⟨b, off + k * 6 + 5, none⟩ = some (.int .u32 (l[k].mask : Int)) := by
  have h' := h k l[k] (List.getElem?_eq_getElem hk)
  exact ⟨h' 0 _ rfl, h' 1 _ rfl, h' 2 _ rfl, h' 3 _ rfl, h' 4 _ rfl, h' 5 _ rfl⟩
set_option maxRecDepth 100000 in
set_option maxHeartbeats 2000000 in
theorem great_any (w : World) (blocks : Int) (A : Option Addr) (l : List DeedV) (c : Nat) (hl : DeedsAt w A l) (hll : l.length ≤ 140737488351232) :
    Calls Tryd.prog 7 #[.int .i64 blocks, .slice A l.length c] w fun e w' => e = .returned (.bool (greatB blocks l)) ∧ w = w' := by
  obtain ⟨N, hN⟩ : ∃ N, N = min l.length 120 := ⟨_, rfl⟩
  have hN1 : N ≤ l.length := by omega
  have hN2 : N ≤ 120 := by omega
  have hN3 : N = l.length ∨ N = 120 := by omega
  have HE := Lib.hid (show greatB blocks l = decide (120 < l.length ∨ 10000 < totB (l.take N) ∨ (40 < blocks ∧ blocks ≤ 4096)) by rw [hN]; rfl)
  have Hl := Lib.hid hl
  clear hN hl
  go_enter Tryd.func7, Tryd.ntmps7
  go_wp2_with fail
  go_loopg [5, 6] N (fun gk s i wx => wx = w ∧ ∃ q : Nat, gk = N - q ∧ q ≤ N ∧ i = .int .i64 (q : Int) ∧ s = .int .i64 (totB (l.take q) : Int))
  case atStart => exact ⟨rfl, 0, rfl, Nat.zero_le _, rfl, rfl⟩
  case round =>
    obtain ⟨rfl, q, hgk, hq, rfl, rfl⟩ := hrel
    have Hgk := Lib.hid hgk
    clear hgk
    have hb1 := totB_le (l.take q) 140737488351232 (fun x hx => (Hl.out.1 x (List.mem_of_mem_take hx)).len)
    have hb3 : (l.take q).length ≤ 120 := by rw [List.length_take]; omega
    have hb2 : totB (l.take q) ≤ 16888498602147840 := Nat.le_trans hb1 (Nat.le_trans (Nat.mul_le_mul_right _ hb3) (by decide))
    clear hb3
    clear hb1
    by_cases hlt : q < N
    · have hlt1 : q < l.length := by omega
      have hlt2 : q < 120 := by omega
      obtain ⟨b, off, rfl, hc⟩ := Hl.out.2 (by rintro rfl; exact absurd hlt1 (Nat.not_lt_zero _))
      have c2 := (deed_cells hlt1 hc).2.2.1
      have HS := Lib.hid (totB_snoc l q hlt1)
      have hlb := (Hl.out.1 l[q] (List.getElem_mem hlt1)).len
      clear hc
      go_wp2_with fail
      go_roundg (N - (q + 1))
      case measure => rw [Hgk.out]; omega
      case rel => exact ⟨rfl, q + 1, rfl, by omega, by go_num, by rw [HS.out]; go_num⟩
    · obtain rfl : q = N := by omega
      have HP := Lib.hid hN3
      generalize totB (l.take q) = tt at *
      rcases hN3 with hn | hn
      · by_cases h0 : 120 < l.length
        · omega
        · have hge : ¬ (q : Int) < (l.length : Int) := by omega
          by_cases h1 : 10000 < tt
          · go_wp2_with fail
            all_goals go_ret
            all_goals exact ⟨ret_bool (by rw [HE.out]; first | (rw [Bool.eq_iff_iff]; simp; omega) | (exact (decide_eq_true (by omega)).symm) | (exact (decide_eq_false (by omega)).symm)), rfl⟩
          · by_cases h2 : 40 < blocks
            · by_cases h3 : blocks ≤ 4096
              · go_wp2_with fail
                all_goals go_ret
                all_goals exact ⟨ret_bool (by rw [HE.out]; first | (rw [Bool.eq_iff_iff]; simp; omega) | (exact (decide_eq_true (by omega)).symm) | (exact (decide_eq_false (by omega)).symm)), rfl⟩
              · go_wp2_with fail
                all_goals go_ret
                all_goals exact ⟨ret_bool (by rw [HE.out]; first | (rw [Bool.eq_iff_iff]; simp; omega) | (exact (decide_eq_true (by omega)).symm) | (exact (decide_eq_false (by omega)).symm)), rfl⟩
            · go_wp2_with fail
              all_goals go_ret
              all_goals exact ⟨ret_bool (by rw [HE.out]; first | (rw [Bool.eq_iff_iff]; simp; omega) | (exact (decide_eq_true (by omega)).symm) | (exact (decide_eq_false (by omega)).symm)), rfl⟩
      · have hge2 : ¬ (q : Int) < 120 := by omega
        by_cases h0 : 120 < l.length
        · have h0' : (120 : Int) < (l.length : Int) := by omega
          go_wp2_with fail
          all_goals go_ret
          all_goals exact ⟨ret_bool (by rw [HE.out]; first | (rw [Bool.eq_iff_iff]; simp; omega) | (exact (decide_eq_true (by omega)).symm) | (exact (decide_eq_false (by omega)).symm)), rfl⟩
        · have h0' : ¬ (120 : Int) < (l.length : Int) := by omega
          by_cases h1 : 10000 < tt
          · go_wp2_with fail
            all_goals go_ret
            all_goals exact ⟨ret_bool (by rw [HE.out]; first | (rw [Bool.eq_iff_iff]; simp; omega) | (exact (decide_eq_true (by omega)).symm) | (exact (decide_eq_false (by omega)).symm)), rfl⟩
          · by_cases h2 : 40 < blocks
            · by_cases h3 : blocks ≤ 4096
              · go_wp2_with fail
                all_goals go_ret
                all_goals exact ⟨ret_bool (by rw [HE.out]; first | (rw [Bool.eq_iff_iff]; simp; omega) | (exact (decide_eq_true (by omega)).symm) | (exact (decide_eq_false (by omega)).symm)), rfl⟩
              · go_wp2_with fail
                all_goals go_ret
                all_goals exact ⟨ret_bool (by rw [HE.out]; first | (rw [Bool.eq_iff_iff]; simp; omega) | (exact (decide_eq_true (by omega)).symm) | (exact (decide_eq_false (by omega)).symm)), rfl⟩
            · go_wp2_with fail
              all_goals go_ret
              all_goals exact ⟨ret_bool (by rw [HE.out]; first | (rw [Bool.eq_iff_iff]; simp; omega) | (exact (decide_eq_true (by omega)).symm) | (exact (decide_eq_false (by omega)).symm)), rfl⟩
set_option maxRecDepth 100000 in
set_option maxHeartbeats 4000000 in
theorem devDoes_any (σ : SenD) (w : World) (hG : GlD σ w) (hS : GlS σ w) (blocks : Int) (A : Option Addr) (l : List DeedV) (c : Nat) (hl : DeedsAt w A l) (hll : l.length ≤ 140737488351232) :
    Calls Tryd.prog 3 #[.int .i64 blocks, .slice A l.length c] w fun e w' => e = .returned (.bool true) ∧ Below w.heap.size w w' := by
  have HGr := Lib.hid (great_any w blocks A l c hl hll)
  have HA := Lib.hid (fun w' (hb : Below w.heap.size w w') => awake_any σ w' (hG.below hb))
  have HG := Lib.hid (And.intro hG hS)
  have Hl := Lib.hid hl
  clear hG hS hl
  cases hgr : greatB blocks l with
  | true =>
    rw [hgr] at HGr
    clear hgr
    go_enter Tryd.func3, Tryd.ntmps3
    go_wp2_with fail
    refine HGr.out.mono ?_
    rintro e w' ⟨rfl, rfl⟩
    go_wp2_with fail
    refine (HA.out w (Below.refl _ _)).mono ?_
    rintro e w2 ⟨rfl, hb2⟩
    have HB2 := Lib.hid hb2
    clear hb2
    go_wp2_with fail
    go_ret
    exact ⟨rfl, HB2.out⟩
  | false =>
    have hg0 := of_decide_eq_false hgr
    rw [hgr] at HGr
    clear hgr
    by_cases hno : blocks < 1 ∨ 4096 < blocks
    · have HN1 := Lib.hid (new_no (w := w) blocks hno)
      have HN2 := Lib.hid (new3_no w blocks hno)
      clear hg0 hno
      go_enter Tryd.func3, Tryd.ntmps3
      go_wp2_with fail
      refine HGr.out.mono ?_
      rintro e w' ⟨rfl, rfl⟩
      go_wp2_with fail
      refine HN1.out.mono ?_
      rintro e w' ⟨rfl, rfl⟩
      go_wp2_with fail
      refine HN2.out.mono ?_
      rintro e w' ⟨rfl, rfl⟩
      go_wp2_with fail
      go_loopg [9] 0 (fun gk i wx => gk = 0 ∧ wx = w ∧ i = .int .i64 0)
      case atStart => exact ⟨rfl, rfl, rfl⟩
      case round =>
        obtain ⟨_, rfl, rfl⟩ := hrel
        by_cases h0 : l.length = 0
        · have h0' : ¬ (0 : Int) < (l.length : Int) := by omega
          go_wp2_with fail
          refine (HA.out wr (Below.refl _ _)).mono ?_
          rintro e w2 ⟨rfl, hb2⟩
          have HB2 := Lib.hid hb2
          clear hb2
          go_wp2_with fail
          go_ret
          exact ⟨rfl, HB2.out⟩
        · have h0' : (0 : Int) < (l.length : Int) := by omega
          go_wp2_with fail
          refine (HA.out wr (Below.refl _ _)).mono ?_
          rintro e w2 ⟨rfl, hb2⟩
          have HB2 := Lib.hid hb2
          clear hb2
          go_wp2_with fail
          go_ret
          exact ⟨rfl, HB2.out⟩
    · obtain ⟨B, rfl⟩ := Int.eq_ofNat_of_zero_le (show (0 : Int) ≤ blocks by omega)
      have hl120 : l.length ≤ 120 := by omega
      have hB0 : 0 < B := by omega
      have hB1 : B ≤ 4096 := by omega
      clear hg0 hno
      go_enter Tryd.func3, Tryd.ntmps3
      go_wp2_with fail
      refine HGr.out.mono ?_
      rintro e w' ⟨rfl, rfl⟩
      go_wp2_with fail
      refine (OwnT.new (Below.refl _ _) B hB0 hB1).mono ?_
      rintro e w1 ⟨hd, rfl, k1, hb1⟩
      have K1 := Lib.hid (And.intro k1 hb1)
      clear k1 hb1
      go_wp2_with fail
      refine (new3_any w1 B hB0 hB1).mono ?_
      rintro e w2 ⟨hr, rfl, k2, hb2⟩
      have K2 := Lib.hid (show Two w w2 (fun k => w.heap.size ≤ k ∧ k < w1.heap.size) (fun k => w1.heap.size ≤ k ∧ k < w2.heap.size) hd hr (DM.new B) (DM.new B) from ⟨K1.out.1.on hb2, k2, fun k hk => Nat.le_trans K1.out.2.size hk.1, fun k h1 h2 => by omega⟩)
      clear k2 hb2
      go_wp2_with fail
      go_loopg [9] l.length (fun gk i wx => ∃ (q : Nat), gk = l.length - q ∧ q ≤ l.length ∧ i = .int .i64 (q : Int) ∧ Hid (∃ Td Tr D, Two w wx Td Tr hd hr D D ∧ D.Few q))
      case atStart => exact ⟨0, rfl, Nat.zero_le _, rfl, Lib.hid ⟨_, _, _, K2.out, ⟨Nat.le_refl 0, Nat.le_refl 0, Nat.le_refl 0⟩⟩⟩
      case round =>
        obtain ⟨q, hgk, hq, rfl, hT⟩ := hrel
        have Hgk := Lib.hid hgk
        clear hgk
        obtain ⟨Td, Tr, D, hT⟩ := hT.out
        have K := Lib.hid hT
        clear hT
        by_cases hlt : q < l.length
        · obtain ⟨b, off, rfl, hc⟩ := (Hl.out.below K.out.1.d.below).2 (by rintro rfl; exact absurd hlt (Nat.not_lt_zero _))
          obtain ⟨c0, c1, c2, c3, c4, c5⟩ := deed_cells hlt hc
          have hx := Hl.out.1 l[q] (List.getElem_mem hlt)
          have Hx := Lib.hid hx
          have hi1 : (0 : Int) ≤ (q : Int) := by omega
          have hi2 : (q : Int) < (l.length : Int) := by omega
          have HD := Lib.hid (does_any HG.out.1 HG.out.2 K.out.1 ⟨by have := K.out.2.tu; omega, by have := K.out.2.cr; omega, by have := K.out.2.ws; omega⟩ l[q] hx)
          have HF := Lib.hid (K.out.2.deed l[q])
          clear hc hx
          generalize l[q] = x at *
          unfold doesV at HD
          go_wp2_with fail
          refine HD.out.mono ?_
          rintro e w4 ⟨rfl, Td4, Tr4, k4⟩
          have K4 := Lib.hid k4
          clear k4 c0 c1 c2 c3 c4 c5
          have HS := Lib.hid (same_any HG.out.1 K4.out ⟨by have := HF.out.tu; omega, by have := HF.out.cr; omega, by have := HF.out.ws; omega⟩)
          go_wp2_with fail
          refine HS.out.mono ?_
          rintro e w5 ⟨rfl, Td5, Tr5, k5⟩
          have K5 := Lib.hid k5
          clear k5
          go_wp2_with fail
          go_roundg (l.length - (q + 1))
          case measure => rw [Hgk.out]; omega
          case rel => exact ⟨q + 1, rfl, by omega, by go_num, Lib.hid ⟨_, _, _, K5.out, HF.out⟩⟩
        · obtain rfl : q = l.length := by omega
          go_wp2_with fail
          refine (HA.out wr K.out.1.d.below).mono ?_
          rintro e w4 ⟨rfl, hb4⟩
          have HB4 := Lib.hid hb4
          clear hb4
          go_wp2_with fail
          go_ret
          exact ⟨rfl, K.out.1.d.below.trans (HB4.out.mono K.out.1.d.below.size)⟩
end Go.Proofs.YtgjdoiblgbdebaaDoor
