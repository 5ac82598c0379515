/- seg: a segment's foot. -/
/- seg: a foot of any blocks. -/
import Derived.Test.YtpdfmpegcejmkaaGreatDoorKitStr
import Derived.Test.YtpdfmpegcejmkaaGreatDoorSegHead
import Derived.Test.YtpdfmpegcejmkaaGreatDoorSegHeadC
namespace Go.Proofs.YtpdfmpegcejmkaaGreatDoor
open Go.RowKit
/-- The boxes of a foot's call. -/
structure FtG (W w : World) (a b c g f : Int) : Prop where
  s : BlockIs w W.heap.size 73 (segC a b c g f)
  u : BlockIs w (W.heap.size + 1) 34 #[.int .i64 0, .int .i64 0, .slice none 0 0]
  bl : Below W.heap.size W w
  sz : W.heap.size + 2 ≤ w.heap.size
section
variable {W w w' : World} {a b c g f : Int}
theorem FtG.on (h : FtG W w a b c g f) (hb : Below (W.heap.size + 2) w w') : FtG W w' a b c g f := ⟨h.s.below hb (by omega), h.u.below hb (by omega), h.bl.trans (hb.mono (by omega)), Nat.le_trans h.sz hb.size⟩
theorem FtG.grown {q : Nat} (h : FtG W w a b c g f) (hg : w.grownBy w' (some q)) (hq : W.heap.size + 2 ≤ q) : FtG W w' a b c g f := ⟨h.s.kept hg (fun x => by have := Option.some.inj x; omega), h.u.kept hg (fun x => by have := Option.some.inj x; omega), below_grown h.bl hg h.bl.size (by omega), Nat.le_trans h.sz hg.size⟩
theorem FtG.made (W : World) (a b c g f : Int) : FtG W (boxes W [(73, segC a b c g f), (34, #[.int .i64 0, .int .i64 0, .slice none 0 0])]) a b c g f := by
  have hb := boxes_below [(73, segC a b c g f), (34, #[.int .i64 0, .int .i64 0, .slice none 0 0])] W
  have hs := boxes_size [(73, segC a b c g f), (34, #[.int .i64 0, .int .i64 0, .slice none 0 0])] W
  simp only [List.length_cons, List.length_nil] at hs
  exact ⟨boxes_at _ W 0 _ _ rfl, boxes_at _ W 1 _ _ rfl, hb, by omega⟩
theorem FtG.cells (h : FtG W w a b c g f) : w.cell? ⟨W.heap.size, 0, none⟩ = some (.int .i64 a) ∧ w.cell? ⟨W.heap.size, 1, none⟩ = some (.int .i64 b) ∧ w.cell? ⟨W.heap.size, 2, none⟩ = some (.int .i64 c) ∧ w.cell? ⟨W.heap.size, 3, none⟩ = some (.int .i64 g) ∧ w.cell? ⟨W.heap.size, 4, none⟩ = some (.int .i64 f) :=
  ⟨h.s.cell 0, h.s.cell 1, h.s.cell 2, h.s.cell 3, h.s.cell 4⟩
end
theorem many_err {σ : SenQ} {w : World} (hG : GlQ σ w) {n b f : Int} (h : n ≠ b ∨ f < 0) : GErr σ 2 (σ.many n b f) := by
  unfold SenQ.many SenQ.none
  by_cases h1 : n ≠ b
  · rw [if_pos h1]; exact hG.err_mn
  · rw [if_neg h1, if_pos (by omega)]; exact hG.err_sg
set_option maxRecDepth 100000 in
set_option maxHeartbeats 4000000 in
theorem gfoot_none (σ : SenQ) (W : World) (hG : GlQ σ W) (hM : GlM σ W) (a b c g f : Int) (A : Option Addr) (n k : Nat) (hf : (n : Int) ≠ b ∨ f < 0) :
    Calls Tryz.prog 51 #[.agg (segC a b c g f), .slice A n k] W fun r w' => Faults σ 2 r ∧ Below W.heap.size W w' := by
  have M0 := Lib.hid (FtG.made W a b c g f)
  have HE := Lib.hid (many_err hG hf)
  have HMu := Lib.hid (fun n' w => gmust_err σ n' _ _ (many_err hG hf) w)
  have HL := Lib.hid (fun w (hb : Below W.heap.size W w) => glackF_any σ w (hM.below hb) a b c g f A n k)
  obtain ⟨w0, hw0⟩ : ∃ w0, boxes W [(73, segC a b c g f), (34, #[.int .i64 0, .int .i64 0, .slice none 0 0])] = w0 := ⟨_, rfl⟩
  rw [hw0] at M0
  simp only [boxes] at hw0
  have Hw0 := Lib.hid hw0
  obtain ⟨ev, hev⟩ : ∃ ev, σ.many n b f = ev := ⟨_, rfl⟩
  rw [hev] at HE HMu HL
  clear hG hM hf hw0 hev
  go_enter Tryz.func51, Tryz.ntmps51
  go_wp2_with fail
  rw [Hw0.out]
  have HL0 := Lib.hid (HL.out w0.drew (M0.out.bl.trans ((Below.refl _ _).drew)))
  obtain ⟨c0, c1, c2, c3, c4⟩ := M0.out.cells
  have HS := Lib.hid (fun w1 (b1 : Below w0.drew.heap.size w0.drew w1) => (M0.out.on ((Below.refl _ _).drew.trans (b1.mono M0.out.sz))).cells)
  have HBl := Lib.hid (fun w1 (b1 : Below w0.drew.heap.size w0.drew w1) => (M0.out.on ((Below.refl _ _).drew.trans (b1.mono M0.out.sz))).bl)
  clear HL
  go_region_with (first
    | (go_at_call 73; refine HL0.out.mono ?_; rintro r w1 ⟨rfl, b1⟩; have hs1 := HS.out _ b1; obtain ⟨d0, d1, d2, d3, d4⟩ := hs1; have hb1 := HBl.out _ b1)
    | (go_at_call 72; refine (HMu.out _ _).mono ?_; rintro r w2 ⟨rfl, rfl⟩; refine have _hx : wpAny Tryz.prog .any #[] (fun _ _ _ => True) 0 #[] { tmps := #[], defers := [] } W := ?_; ⟨rfl, ⟨_, _, rfl, HE.out⟩, hb1⟩))
  all_goals trivial
/-- All records but the first. -/
def tailAt (G n : Nat) : Option Addr := if n = 1 then some ⟨G, 0, none⟩ else some ⟨G, 7, none⟩
theorem cut_recs (G n : Nat) (hn : 1 ≤ n) (w : World) : (Instr.slice 127 (.slice (some ⟨G, 0, none⟩) n n) (some (.int .i64 1)) none none).run Tryz.prog w = .ok (.slice (tailAt G n) (n - 1) (n - 1)) w := by
  have hs : (sizeOf (Tryz.prog.elem 127)).run Tryz.prog w = .ok 7 w := by kernel_rfl
  have h := run_slice_l (P := Tryz.prog) w 127 (some ⟨G, 0, none⟩) n n (by kernel_rfl) .i64 1 (by omega) (by omega)
  rw [h, hs]
  unfold tailAt
  by_cases h1 : n = 1 <;> simp [Result.andThen, sliced, h1, Addr.add]
/-- The box of a record. -/
def RecBox (w : World) (p : Nat) (t : Ent × IdentI) : Prop := ∃ X c, BlockIs w p 95 (recCs t.1 X c t.2)
theorem RecBox.on {w w' : World} {p : Nat} {t : Ent × IdentI} {B : Nat} (h : RecBox w p t) (hb : Below B w w') (hp : p < B) : RecBox w' p t := by
  obtain ⟨X, c, h1⟩ := h
  exact ⟨X, c, h1.below hb hp⟩
/-- Amid the loop of a foot: the boxes, the records, the last one. -/
structure FlG (W : World) (a b c g f : Int) (G p : Nat) (rows : List (List Int)) (t : Ent × IdentI) (w : World) : Prop where
  h : FtG W w a b c g f
  r : RecRow w G f rows rows.length
  l : RecBox w p t
  gp : G < p
  lg : W.heap.size + 2 ≤ G
theorem FlG.on {W : World} {a b c g f : Int} {G p : Nat} {rows : List (List Int)} {t : Ent × IdentI} {w w' : World} (k : FlG W a b c g f G p rows t w) (hb : Below w.heap.size w w') : FlG W a b c g f G p rows t w' :=
  ⟨k.h.on (hb.mono k.h.sz), k.r.below hb, k.l.on hb (by obtain ⟨X, c, h⟩ := k.l; exact h.lt), k.gp, k.lg⟩
theorem FlG.turn {W : World} {a b c g f : Int} {G p : Nat} {rows : List (List Int)} {t : Ent × IdentI} {w : World} (k : FlG W a b c g f G p rows t w) (n0 n1 n2 : Int) (nb : List Int) (Xn : Option Addr) (xn : Nat) (a0 a1 a2 : Int) :
    FlG W a b c g f G p rows (⟨n0, n1, n2, nb⟩, ⟨a0, a1, a2⟩) (((((((w.setCell ⟨p, 0, none⟩ (.int .i64 n0)).setCell ⟨p, 1, none⟩ (.int .i64 n1)).setCell ⟨p, 2, none⟩ (.int .i64 n2)).setCell ⟨p, 3, none⟩ (.slice Xn nb.length xn)).setCell ⟨p, 4, none⟩ (.int .i64 a0)).setCell ⟨p, 5, none⟩ (.int .i64 a1)).setCell ⟨p, 6, none⟩ (.int .i64 a2)) := by
  obtain ⟨X, x, h⟩ := k.l
  obtain ⟨z, hg⟩ := BlockIs.put7 h (.int .i64 n0) (.int .i64 n1) (.int .i64 n2) (.slice Xn nb.length xn) (.int .i64 a0) (.int .i64 a1) (.int .i64 a2)
  exact ⟨k.h.grown hg (by have := k.gp; have := k.lg; omega), k.r.kept hg (by have := k.gp; omega), ⟨Xn, xn, z⟩, k.gp, k.lg⟩
theorem rec_seven {w : World} {p : Nat} {t : Ent × IdentI} {X : Option Addr} {c : Nat} (h : BlockIs w p 95 (recCs t.1 X c t.2)) : w.cell? ⟨p, 0, none⟩ = some (.int .i64 t.1.index) ∧ w.cell? ⟨p, 1, none⟩ = some (.int .i64 t.1.term) ∧ w.cell? ⟨p, 2, none⟩ = some (.int .i64 t.1.kind) ∧ w.cell? ⟨p, 3, none⟩ = some (.slice X t.1.body.length c) ∧ w.cell? ⟨p, 4, none⟩ = some (.int .i64 t.2.idx) ∧ w.cell? ⟨p, 5, none⟩ = some (.int .i64 t.2.term) ∧ w.cell? ⟨p, 6, none⟩ = some (.int .i64 t.2.kind) := BlockIs.seven h
theorem RecRow.seven {w : World} {G : Nat} {f : Int} {rows : List (List Int)} {k j : Nat} (h : RecRow w G f rows k) (hj : j < k) (hb : j < rows.length) : ∃ X c, w.cell? ⟨G, j * 7, none⟩ = some (.int .i64 (tellAt f rows j).1.index) ∧ w.cell? ⟨G, j * 7 + 1, none⟩ = some (.int .i64 (tellAt f rows j).1.term) ∧ w.cell? ⟨G, j * 7 + 2, none⟩ = some (.int .i64 (tellAt f rows j).1.kind) ∧ w.cell? ⟨G, j * 7 + 3, none⟩ = some (.slice X (tellAt f rows j).1.body.length c) ∧ w.cell? ⟨G, j * 7 + 4, none⟩ = some (.int .i64 (tellAt f rows j).2.idx) ∧ w.cell? ⟨G, j * 7 + 5, none⟩ = some (.int .i64 (tellAt f rows j).2.term) ∧ w.cell? ⟨G, j * 7 + 6, none⟩ = some (.int .i64 (tellAt f rows j).2.kind) := by
  obtain ⟨X, c, h1⟩ := h.tell hj hb
  exact ⟨X, c, h1 0 (by decide), h1 1 (by decide), h1 2 (by decide), h1 3 (by decide), h1 4 (by decide), h1 5 (by decide), h1 6 (by decide)⟩
theorem RecRow.head {w : World} {G : Nat} {f : Int} {rows : List (List Int)} {k : Nat} (h : RecRow w G f rows k) (hj : 0 < k) (hb : 0 < rows.length) : ∃ X c, w.cell? ⟨G, 0, none⟩ = some (.int .i64 (tellAt f rows 0).1.index) ∧ w.cell? ⟨G, 1, none⟩ = some (.int .i64 (tellAt f rows 0).1.term) ∧ w.cell? ⟨G, 2, none⟩ = some (.int .i64 (tellAt f rows 0).1.kind) ∧ w.cell? ⟨G, 3, none⟩ = some (.slice X (tellAt f rows 0).1.body.length c) ∧ w.cell? ⟨G, 4, none⟩ = some (.int .i64 (tellAt f rows 0).2.idx) ∧ w.cell? ⟨G, 5, none⟩ = some (.int .i64 (tellAt f rows 0).2.term) ∧ w.cell? ⟨G, 6, none⟩ = some (.int .i64 (tellAt f rows 0).2.kind) := by
  have h1 := h.seven hj hb
  simp only [Nat.zero_mul, Nat.zero_add] at h1
  exact h1
theorem RecRow.next {w : World} {G : Nat} {f : Int} {rows : List (List Int)} {k j : Nat} (h : RecRow w G f rows k) (hj : j + 1 < k) (hb : j + 1 < rows.length) : ∃ X c, w.cell? ⟨G, 7 + j * 7, none⟩ = some (.int .i64 (tellAt f rows (j + 1)).1.index) ∧ w.cell? ⟨G, 7 + j * 7 + 1, none⟩ = some (.int .i64 (tellAt f rows (j + 1)).1.term) ∧ w.cell? ⟨G, 7 + j * 7 + 2, none⟩ = some (.int .i64 (tellAt f rows (j + 1)).1.kind) ∧ w.cell? ⟨G, 7 + j * 7 + 3, none⟩ = some (.slice X (tellAt f rows (j + 1)).1.body.length c) ∧ w.cell? ⟨G, 7 + j * 7 + 4, none⟩ = some (.int .i64 (tellAt f rows (j + 1)).2.idx) ∧ w.cell? ⟨G, 7 + j * 7 + 5, none⟩ = some (.int .i64 (tellAt f rows (j + 1)).2.term) ∧ w.cell? ⟨G, 7 + j * 7 + 6, none⟩ = some (.int .i64 (tellAt f rows (j + 1)).2.kind) := by
  have h1 := h.seven hj hb
  rw [show (j + 1) * 7 = 7 + j * 7 by omega] at h1
  exact h1
set_option maxRecDepth 100000 in
set_option maxHeartbeats 8000000 in
theorem gfoot_body (σ : Sen) (τ : SenU) (ρ : SenQ) (W : World) (hC : GlAt σ W) (hU : GlU τ W) (hQ : GlQ ρ W) (hM : GlM ρ W) (a b c g f : Int) (A : Option Addr) (ps : List Part) (k m : Nat) (hp : PartsAt W A ps) (hn : ps.length ≤ 1000000) (hl : ps.length = m + 1) (hb : (ps.length : Int) = b) (hf : 0 ≤ f) (hf2 : f ≤ 1099511627776 * 64) :
    Calls Tryz.prog 51 #[.agg (segC a b c g f), .slice A ps.length k] W fun r w' => (((footR f g ps.length (rowsP ps)).2 = 0 ∧ ∃ v, r = .returned (.agg #[.int .i64 6, .int .i64 g, v]) ∧ (footR f g ps.length (rowsP ps)).1 = ⟨6, g, footBody (rowsP ps) (lastR f (rowsP ps))⟩ ∧ w'.ownsRow (W.heap.size + 2) 5 1 v 11 (u8s (footBody (rowsP ps) (lastR f (rowsP ps))))) ∨ ((footR f g ps.length (rowsP ps)).2 ≠ 0 ∧ Faults ρ (footR f g ps.length (rowsP ps)).2 r)) ∧ Below W.heap.size W w' := by
  have hrl := rowsP_len ps
  have M0 := Lib.hid (FtG.made W a b c g f)
  have HE := Lib.hid (GlQ.err_od hQ)
  have HO := Lib.hid (fun w (hb : Below W.heap.size W w) => (hQ.below hb).od)
  have HMu := Lib.hid (fun n w => gmust_err ρ n _ _ (GlQ.err_od hQ) w)
  have HL := Lib.hid (fun w (hb : Below W.heap.size W w) => glackF_any ρ w (hM.below hb) a b c g f A ps.length k)
  rw [show ρ.many ps.length b f = .nilIface from by unfold SenQ.many SenQ.none; rw [if_neg (fun h => h hb), if_neg (by omega)]] at HL
  have HRc := Lib.hid (fun w (h : Below W.heap.size W w) => grecs_any σ τ ρ w (hC.below h) (hU.below h) (hQ.below h) a b c g f A ps k (hp.below h) hn hf hf2)
  have HSm := Lib.hid (fun w (h : Below W.heap.size W w) hl => gsumOf_any w A ps k (hp.below h) hn hl)
  have HF := Lib.hid (And.intro hf (And.intro hl hrl))
  obtain ⟨w0, hw0⟩ : ∃ w0, boxes W [(73, segC a b c g f), (34, #[.int .i64 0, .int .i64 0, .slice none 0 0])] = w0 := ⟨_, rfl⟩
  rw [hw0] at M0
  simp only [boxes] at hw0
  have Hw0 := Lib.hid hw0
  have hcut := fun G w => cut_recs G ps.length (by omega) w
  have hpos : 0 < ps.length := by omega
  have hmb : m ≤ 1000000 := by omega
  clear hC hU hQ hM hp hn hl hb hf hf2 hw0 hrl
  go_enter Tryz.func51, Tryz.ntmps51
  go_wp2_with fail
  rw [Hw0.out]
  have HL0 := Lib.hid (HL.out w0.drew (M0.out.bl.trans ((Below.refl _ _).drew)))
  obtain ⟨c0, c1, c2, c3, c4⟩ := M0.out.cells
  have HS := Lib.hid (fun w1 (b1 : Below w0.drew.heap.size w0.drew w1) => (M0.out.on ((Below.refl _ _).drew.trans (b1.mono M0.out.sz))))
  clear HL
  go_region_held3 (fun w' => w'.cell? ⟨W.heap.size, 0, none⟩ = some (.int .i64 a) ∧ w'.cell? ⟨W.heap.size, 1, none⟩ = some (.int .i64 b) ∧ w'.cell? ⟨W.heap.size, 2, none⟩ = some (.int .i64 c) ∧ w'.cell? ⟨W.heap.size, 3, none⟩ = some (.int .i64 g) ∧ w'.cell? ⟨W.heap.size, 4, none⟩ = some (.int .i64 f)) (first | exact ⟨c0, c1, c2, c3, c4⟩ | exact hs1) (first
    | (go_at_call 73; refine HL0.out.mono ?_; rintro r w1 ⟨rfl, b1⟩; have hm1 := HS.out _ b1; have hs1 := hm1.cells)
    | (go_at_call 72; refine (gmust_nil _ _).mono ?_; rintro r w2 ⟨rfl, rfl⟩))
  rename_i hHeld
  clear hHeld c0 c1 c2 c3 c4 b1 hs1
  have M1 := Lib.hid hm1
  clear hm1 HS HL0
  obtain ⟨c0, c1, c2, c3, c4⟩ := M1.out.cells
  go_wp2_with fail
  refine (HRc.out _ M1.out.bl).mono ?_
  rintro r w2 ⟨⟨hok, G, rfl, hG, hR⟩ | ⟨n, hn, h0, n', v', rfl, hv⟩, b2⟩
  · have hb1 := M1.out.bl
    have M2 := M1.out.on (b2.mono M1.out.sz)
    have hlr : (rowsP ps).length = ps.length := HF.out.2.2
    obtain ⟨X0, x0, r0, r1, r2, r3, r4, r5, r6⟩ := hR.head hpos (by omega)
    have LG := Lib.hid (And.intro (show W.heap.size + 2 ≤ G by have := M1.out.sz; omega) (And.intro hR.lt hlr))
    have R2 := Lib.hid hR
    have M2 := Lib.hid M2
    have HOk := Lib.hid hok
    obtain ⟨t0, ht0⟩ : ∃ t0, tellAt f (rowsP ps) 0 = t0 := ⟨_, rfl⟩
    rw [ht0] at r0 r1 r2 r3 r4 r5 r6
    have Ht0 := Lib.hid ht0
    clear c0 c1 c2 c3 c4 HRc M1 hb1 b2 hG hR hok ht0 hlr
    go_wp2_with fail
    have hb3 := below_new w2 (.cells (recCs t0.1 X0 x0 t0.2) 95)
    have F0 : Hid (FlG W a b c g f G w2.heap.size (rowsP ps) t0 (w2.alloc (.cells (recCs t0.1 X0 x0 t0.2) 95))) := Lib.hid ⟨M2.out.on (hb3.mono M2.out.sz), by rw [LG.out.2.2]; exact R2.out.below hb3, ⟨X0, x0, BlockIs.made w2 _ _⟩, LG.out.2.1, LG.out.1⟩
    unfold recCs at F0
    obtain ⟨w3, hw3⟩ : ∃ w3, w2.alloc (.cells #[.int .i64 t0.1.index, .int .i64 t0.1.term, .int .i64 t0.1.kind, .slice X0 t0.1.body.length x0, .int .i64 t0.2.idx, .int .i64 t0.2.term, .int .i64 t0.2.kind] 95) = w3 := ⟨_, rfl⟩
    rw [hw3] at F0 ⊢
    obtain ⟨p, hp⟩ : ∃ p, w2.heap.size = p := ⟨_, rfl⟩
    rw [hp] at F0 ⊢
    obtain ⟨T, hT⟩ : ∃ T, tailAt G ps.length = T := ⟨_, rfl⟩
    rw [hT, show ps.length - 1 = m from by have := HF.out.2.1; omega]
    have HT := Lib.hid hT
    clear r0 r1 r2 r3 r4 r5 r6 hb3 hw3 hp hT M2 R2 hcut hpos
    go_loopg [8, 25] m (fun gg _ i wx => ∃ kk : Nat, gg = m - kk ∧ kk ≤ m ∧ i = .int .i64 (kk : Int) ∧ FlG W a b c g f G p (rowsP ps) (tellAt f (rowsP ps) kk) wx ∧ (∀ j, j < kk → follows (tellAt f (rowsP ps) j) (tellAt f (rowsP ps) (j + 1))))
    case atStart => exact ⟨0, rfl, by omega, rfl, by rw [Ht0.out]; exact F0.out, fun j hj => absurd hj (by omega)⟩
    case round =>
      obtain ⟨kk, hgk, hk, rfl, hF, hfo⟩ := hrel
      have Hg := Lib.hid hgk
      have HFo := Lib.hid hfo
      have HFl := Lib.hid hF
      clear hgk hfo hF
      by_cases hlt : kk < m
      · obtain rfl : T = some ⟨G, 7, none⟩ := by
          rw [← HT.out]
          unfold tailAt
          rw [if_neg (by have := HF.out.2.1; omega)]
        have hlr := LG.out.2.2
        have hlm := HF.out.2.1
        obtain ⟨Xn, xn, r0, r1, r2, r3, r4, r5, r6⟩ := HFl.out.r.next (j := kk) (by omega) (by omega)
        obtain ⟨Xl, xl, hBl⟩ := HFl.out.l
        have Hst := Lib.hid (fun hn => chain_stop (f := f) (rows := rowsP ps) (j := kk) (by omega) hn)
        have Hnx := Lib.hid (HFo.out)
        clear hlr hlm
        have HFk := Lib.hid (show FlG W a b c g f G p (rowsP ps) (tellAt f (rowsP ps) kk) wr from HFl.out)
        have Hfol := Lib.hid (show follows (tellAt f (rowsP ps) kk) (tellAt f (rowsP ps) (kk + 1)) → follows (tellAt f (rowsP ps) kk) (tellAt f (rowsP ps) (kk + 1)) from id)
        obtain ⟨tl, htl⟩ : ∃ t, tellAt f (rowsP ps) kk = t := ⟨_, rfl⟩
        obtain ⟨tn, htn⟩ : ∃ t, tellAt f (rowsP ps) (kk + 1) = t := ⟨_, rfl⟩
        rw [htl, htn] at Hst Hfol
        rw [htl] at hBl HFk
        rw [htn] at r0 r1 r2 r3 r4 r5 r6
        have Htl := Lib.hid (And.intro htl htn)
        obtain ⟨⟨n0, n1, n2, nb⟩, a0, a1, a2⟩ := tn
        obtain ⟨⟨l0, l1, l2, lb⟩, k0, k1, k2⟩ := tl
        simp only at r0 r1 r2 r3 r4 r5 r6
        unfold follows at Hst Hfol
        simp only at Hst Hfol
        have hb4 := below_new wr (.cells #[.int .i64 n0, .int .i64 n1, .int .i64 n2, .slice Xn nb.length xn, .int .i64 a0, .int .i64 a1, .int .i64 a2] 95)
        have Q4 := Lib.hid (BlockIs.made wr 95 #[.int .i64 n0, .int .i64 n1, .int .i64 n2, .slice Xn nb.length xn, .int .i64 a0, .int .i64 a1, .int .i64 a2])
        have K4 := Lib.hid (HFk.out.on hb4)
        have P4 := Lib.hid (show BlockIs _ p 95 #[.int .i64 l0, .int .i64 l1, .int .i64 l2, .slice Xl lb.length xl, .int .i64 k0, .int .i64 k1, .int .i64 k2] from hBl.below hb4 hBl.lt)
        have LP := Lib.hid (show p < wr.heap.size from hBl.lt)
        obtain ⟨w4, hw4⟩ : ∃ w4, wr.alloc (.cells #[.int .i64 n0, .int .i64 n1, .int .i64 n2, .slice Xn nb.length xn, .int .i64 a0, .int .i64 a1, .int .i64 a2] 95) = w4 := ⟨_, rfl⟩
        rw [hw4] at Q4 K4 P4
        have Hw4 := Lib.hid hw4
        have HI := Lib.hid (fun w => rident_any w ⟨l0, l1, l2, lb⟩ Xl xl ⟨k0, k1, k2⟩)
        unfold recV Ent.ident IdentI.val at HI
        simp only at HI
        have S4 := Lib.hid (fun w5 (b5 : Below w4.drew.heap.size w4.drew w5) => (show BlockIs w5 p 95 #[.int .i64 l0, .int .i64 l1, .int .i64 l2, .slice Xl lb.length xl, .int .i64 k0, .int .i64 k1, .int .i64 k2] ∧ BlockIs w5 wr.heap.size 95 #[.int .i64 n0, .int .i64 n1, .int .i64 n2, .slice Xn nb.length xn, .int .i64 a0, .int .i64 a1, .int .i64 a2] ∧ FlG W a b c g f G p (rowsP ps) (⟨l0, l1, l2, lb⟩, ⟨k0, k1, k2⟩) w5 from
          ⟨P4.out.below ((Below.refl w4.heap.size w4).drew.trans b5) P4.out.lt, Q4.out.below ((Below.refl w4.heap.size w4).drew.trans b5) Q4.out.lt, K4.out.on ((Below.refl w4.heap.size w4).drew.trans b5)⟩))
        have hcase : (a0 = l0 ∧ a1 = l1 ∧ a2 = l2) ∨ (¬ (a0 = l0 ∧ a1 = l1 ∧ a2 = l2) ∧ (¬ a0 = l0 ∨ (a0 = l0 ∧ ¬ a1 = l1) ∨ (a0 = l0 ∧ a1 = l1 ∧ ¬ a2 = l2))) := by
          by_cases h0 : a0 = l0
          · by_cases h1 : a1 = l1
            · by_cases h2 : a2 = l2
              · exact .inl ⟨h0, h1, h2⟩
              · exact .inr ⟨fun h => h2 h.2.2, .inr (.inr ⟨h0, h1, h2⟩)⟩
            · exact .inr ⟨fun h => h1 h.2.1, .inr (.inl ⟨h0, h1⟩)⟩
          · exact .inr ⟨fun h => h0 h.1, .inl h0⟩
        clear htl htn hBl hb4 hw4
        rcases hcase with ⟨rfl, rfl, rfl⟩ | ⟨hnf, hcase⟩
        · go_wp2_with fail
          rw [Hw4.out]
          clear r0 r1 r2 r3 r4 r5 r6
          obtain ⟨c0, c1, c2, c3, c4, c5, c6⟩ := P4.out.seven
          obtain ⟨_, _, _, _, d4, d5, d6⟩ := Q4.out.seven
          go_region_held3 (fun w' => (w'.cell? ⟨p, 0, none⟩ = some (.int .i64 a0) ∧ w'.cell? ⟨p, 1, none⟩ = some (.int .i64 a1) ∧ w'.cell? ⟨p, 2, none⟩ = some (.int .i64 a2) ∧ w'.cell? ⟨p, 3, none⟩ = some (.slice Xl lb.length xl) ∧ w'.cell? ⟨p, 4, none⟩ = some (.int .i64 k0) ∧ w'.cell? ⟨p, 5, none⟩ = some (.int .i64 k1) ∧ w'.cell? ⟨p, 6, none⟩ = some (.int .i64 k2)) ∧ w'.cell? ⟨wr.heap.size, 4, none⟩ = some (.int .i64 a0) ∧ w'.cell? ⟨wr.heap.size, 5, none⟩ = some (.int .i64 a1) ∧ w'.cell? ⟨wr.heap.size, 6, none⟩ = some (.int .i64 a2)) (first | exact ⟨⟨c0, c1, c2, c3, c4, c5, c6⟩, d4, d5, d6⟩ | exact ⟨⟨e0, e1, e2, e3, e4, e5, e6⟩, d4', d5', d6'⟩) (first
            | (go_at_call 68; refine (HI.out _).mono ?_; rintro r w5 ⟨rfl, b5⟩; have s5 := S4.out _ b5; obtain ⟨e0, e1, e2, e3, e4, e5, e6⟩ := s5.1.seven; obtain ⟨_, _, _, _, d4', d5', d6'⟩ := s5.2.1.seven))
          rename_i hHeld
          have S5 := Lib.hid s5
          clear hHeld s5 b5 c0 c1 c2 c3 c4 c5 c6 d4 d5 d6 e0 e1 e2 e3 e4 e5 e6 d4' d5' d6' S4 HI P4 Q4 K4
          obtain ⟨c0, c1, c2, c3, c4, c5, c6⟩ := S5.out.1.seven
          obtain ⟨f0, f1, f2, f3, f4, f5, f6⟩ := S5.out.1.free7
          obtain ⟨d0, d1, d2, d3, d4, d5, d6⟩ := S5.out.2.1.seven
          have HZ := Lib.hid (S5.out.2.2.turn n0 n1 n2 nb Xn xn a0 a1 a2)
          go_wp2_with fail
          clear c0 c1 c2 c3 c4 c5 c6 f0 f1 f2 f3 f4 f5 f6 d0 d1 d2 d3 d4 d5 d6
          go_roundg (m - (kk + 1))
          case measure => rw [Hg.out]; omega
          case rel =>
            refine ⟨kk + 1, rfl, by omega, rfl, by rw [Htl.out.2]; exact HZ.out, fun j hj => ?_⟩
            by_cases hjk : j = kk
            · subst hjk
              rw [Htl.out.1, Htl.out.2]
              exact ⟨rfl, rfl, rfl⟩
            · exact Hnx.out j (by omega)
        · rcases hcase with hc | ⟨rfl, hc⟩ | ⟨rfl, rfl, hc⟩
          · go_wp2_with fail
            rw [Hw4.out]
            clear r0 r1 r2 r3 r4 r5 r6
            obtain ⟨c0, c1, c2, c3, c4, c5, c6⟩ := P4.out.seven
            obtain ⟨_, _, _, _, d4, d5, d6⟩ := Q4.out.seven
            go_region_held3 (fun w' => (w'.cell? ⟨p, 0, none⟩ = some (.int .i64 l0) ∧ w'.cell? ⟨p, 1, none⟩ = some (.int .i64 l1) ∧ w'.cell? ⟨p, 2, none⟩ = some (.int .i64 l2) ∧ w'.cell? ⟨p, 3, none⟩ = some (.slice Xl lb.length xl) ∧ w'.cell? ⟨p, 4, none⟩ = some (.int .i64 k0) ∧ w'.cell? ⟨p, 5, none⟩ = some (.int .i64 k1) ∧ w'.cell? ⟨p, 6, none⟩ = some (.int .i64 k2)) ∧ w'.cell? ⟨wr.heap.size, 4, none⟩ = some (.int .i64 a0) ∧ w'.cell? ⟨wr.heap.size, 5, none⟩ = some (.int .i64 a1) ∧ w'.cell? ⟨wr.heap.size, 6, none⟩ = some (.int .i64 a2)) (first | exact ⟨⟨c0, c1, c2, c3, c4, c5, c6⟩, d4, d5, d6⟩ | exact ⟨⟨e0, e1, e2, e3, e4, e5, e6⟩, d4', d5', d6'⟩) (first
              | (go_at_call 68; refine (HI.out _).mono ?_; rintro r w5 ⟨rfl, b5⟩; have s5 := S4.out _ b5; obtain ⟨e0, e1, e2, e3, e4, e5, e6⟩ := s5.1.seven; obtain ⟨_, _, _, _, d4', d5', d6'⟩ := s5.2.1.seven))
            rename_i hHeld
            have S5 := Lib.hid s5
            clear hHeld s5 b5 c0 c1 c2 c3 c4 c5 c6 d4 d5 d6 e0 e1 e2 e3 e4 e5 e6 d4' d5' d6' S4 HI P4 Q4 K4
            obtain ⟨d0, d1, d2, d3, d4, d5, d6⟩ := S5.out.2.1.seven
            have od := HO.out _ S5.out.2.2.h.bl
            go_wp2_with fail
            refine (HMu.out _ _).mono ?_
            rintro r w6 ⟨rfl, rfl⟩
            have hch := Hst.out hnf
            have hfo := foot_order (g := g) HF.out.1 HF.out.2.2 (ents_ok _ _ HOk.out) hch
            exact ⟨rfl, .inr ⟨by rw [hfo]; decide, by rw [hfo]; exact ⟨_, _, rfl, HE.out⟩⟩, S5.out.2.2.h.bl⟩
          · go_wp2_with fail
            rw [Hw4.out]
            clear r0 r1 r2 r3 r4 r5 r6
            obtain ⟨c0, c1, c2, c3, c4, c5, c6⟩ := P4.out.seven
            obtain ⟨_, _, _, _, d4, d5, d6⟩ := Q4.out.seven
            go_region_held3 (fun w' => (w'.cell? ⟨p, 0, none⟩ = some (.int .i64 a0) ∧ w'.cell? ⟨p, 1, none⟩ = some (.int .i64 l1) ∧ w'.cell? ⟨p, 2, none⟩ = some (.int .i64 l2) ∧ w'.cell? ⟨p, 3, none⟩ = some (.slice Xl lb.length xl) ∧ w'.cell? ⟨p, 4, none⟩ = some (.int .i64 k0) ∧ w'.cell? ⟨p, 5, none⟩ = some (.int .i64 k1) ∧ w'.cell? ⟨p, 6, none⟩ = some (.int .i64 k2)) ∧ w'.cell? ⟨wr.heap.size, 4, none⟩ = some (.int .i64 a0) ∧ w'.cell? ⟨wr.heap.size, 5, none⟩ = some (.int .i64 a1) ∧ w'.cell? ⟨wr.heap.size, 6, none⟩ = some (.int .i64 a2)) (first | exact ⟨⟨c0, c1, c2, c3, c4, c5, c6⟩, d4, d5, d6⟩ | exact ⟨⟨e0, e1, e2, e3, e4, e5, e6⟩, d4', d5', d6'⟩) (first
              | (go_at_call 68; refine (HI.out _).mono ?_; rintro r w5 ⟨rfl, b5⟩; have s5 := S4.out _ b5; obtain ⟨e0, e1, e2, e3, e4, e5, e6⟩ := s5.1.seven; obtain ⟨_, _, _, _, d4', d5', d6'⟩ := s5.2.1.seven))
            rename_i hHeld
            have S5 := Lib.hid s5
            clear hHeld s5 b5 c0 c1 c2 c3 c4 c5 c6 d4 d5 d6 e0 e1 e2 e3 e4 e5 e6 d4' d5' d6' S4 HI P4 Q4 K4
            obtain ⟨d0, d1, d2, d3, d4, d5, d6⟩ := S5.out.2.1.seven
            have od := HO.out _ S5.out.2.2.h.bl
            go_wp2_with fail
            refine (HMu.out _ _).mono ?_
            rintro r w6 ⟨rfl, rfl⟩
            have hch := Hst.out hnf
            have hfo := foot_order (g := g) HF.out.1 HF.out.2.2 (ents_ok _ _ HOk.out) hch
            exact ⟨rfl, .inr ⟨by rw [hfo]; decide, by rw [hfo]; exact ⟨_, _, rfl, HE.out⟩⟩, S5.out.2.2.h.bl⟩
          · go_wp2_with fail
            rw [Hw4.out]
            clear r0 r1 r2 r3 r4 r5 r6
            obtain ⟨c0, c1, c2, c3, c4, c5, c6⟩ := P4.out.seven
            obtain ⟨_, _, _, _, d4, d5, d6⟩ := Q4.out.seven
            go_region_held3 (fun w' => (w'.cell? ⟨p, 0, none⟩ = some (.int .i64 a0) ∧ w'.cell? ⟨p, 1, none⟩ = some (.int .i64 a1) ∧ w'.cell? ⟨p, 2, none⟩ = some (.int .i64 l2) ∧ w'.cell? ⟨p, 3, none⟩ = some (.slice Xl lb.length xl) ∧ w'.cell? ⟨p, 4, none⟩ = some (.int .i64 k0) ∧ w'.cell? ⟨p, 5, none⟩ = some (.int .i64 k1) ∧ w'.cell? ⟨p, 6, none⟩ = some (.int .i64 k2)) ∧ w'.cell? ⟨wr.heap.size, 4, none⟩ = some (.int .i64 a0) ∧ w'.cell? ⟨wr.heap.size, 5, none⟩ = some (.int .i64 a1) ∧ w'.cell? ⟨wr.heap.size, 6, none⟩ = some (.int .i64 a2)) (first | exact ⟨⟨c0, c1, c2, c3, c4, c5, c6⟩, d4, d5, d6⟩ | exact ⟨⟨e0, e1, e2, e3, e4, e5, e6⟩, d4', d5', d6'⟩) (first
              | (go_at_call 68; refine (HI.out _).mono ?_; rintro r w5 ⟨rfl, b5⟩; have s5 := S4.out _ b5; obtain ⟨e0, e1, e2, e3, e4, e5, e6⟩ := s5.1.seven; obtain ⟨_, _, _, _, d4', d5', d6'⟩ := s5.2.1.seven))
            rename_i hHeld
            have S5 := Lib.hid s5
            clear hHeld s5 b5 c0 c1 c2 c3 c4 c5 c6 d4 d5 d6 e0 e1 e2 e3 e4 e5 e6 d4' d5' d6' S4 HI P4 Q4 K4
            obtain ⟨d0, d1, d2, d3, d4, d5, d6⟩ := S5.out.2.1.seven
            have od := HO.out _ S5.out.2.2.h.bl
            go_wp2_with fail
            refine (HMu.out _ _).mono ?_
            rintro r w6 ⟨rfl, rfl⟩
            have hch := Hst.out hnf
            have hfo := foot_order (g := g) HF.out.1 HF.out.2.2 (ents_ok _ _ HOk.out) hch
            exact ⟨rfl, .inr ⟨by rw [hfo]; decide, by rw [hfo]; exact ⟨_, _, rfl, HE.out⟩⟩, S5.out.2.2.h.bl⟩
      · obtain rfl : kk = m := by omega
        obtain ⟨Xl, xl, hBl⟩ := HFl.out.l
        have hrl : (rowsP ps).length = kk + 1 := by rw [LG.out.2.2]; exact HF.out.2.1
        have HD := Lib.hid (foot_done (g := g) HF.out.1 HF.out.2.2 (ents_ok _ _ HOk.out) (chain_all hrl HFo.out))
        have hls := lastR_at (f := f) hrl
        have hri : rightB (tellAt f (rowsP ps) kk).1 = true := by
          unfold tellAt
          exact ofR_right (HOk.out kk _ (by rw [List.getD_eq_getElem?_getD, List.getElem?_eq_getElem (show kk < (rowsP ps).length by omega)]; rfl))
        have h256 : ∀ p ∈ ps, p.zs.length = 256 := fun p hp => by
          obtain ⟨j, hj, e⟩ := List.getElem_of_mem hp
          have h1 := rowsP_get (List.getElem?_eq_getElem hj)
          rw [e] at h1
          exact ofR_len (HOk.out j _ h1)
        have hK := HFl.out.h
        have hpL : W.heap.size + 2 ≤ p := by have := HFl.out.gp; have := HFl.out.lg; omega
        obtain ⟨⟨⟨l0, l1, l2, lb⟩, k0, k1, k2⟩, htl⟩ : ∃ t, tellAt f (rowsP ps) kk = t := ⟨_, rfl⟩
        rw [htl] at hBl hls hri
        have hBl : BlockIs wr p 95 #[.int .i64 l0, .int .i64 l1, .int .i64 l2, .slice Xl lb.length xl, .int .i64 k0, .int .i64 k1, .int .i64 k2] := hBl
        have hls : lastR f (rowsP ps) = ⟨l0, l1, l2⟩ := hls
        obtain ⟨q1, q2, q3, _⟩ := ent_right hri
        have HFi := Lib.hid (show (⟨l0, l1, l2⟩ : IdentI).fits from ⟨q3, by have q1 : 1 ≤ l2 ∧ l2 ≤ 3 := q1; show 0 ≤ l2 ∧ l2 ≤ 255; omega⟩)
        have HLs := Lib.hid hls
        have hb1 := below_new wr (.cells #[.pointer none, .bool false] 116)
        have N1 := Lib.hid (WrN.new wr 116)
        have K1 := Lib.hid (hK.on (hb1.mono hK.sz))
        have P1 := Lib.hid (hBl.below hb1 hBl.lt)
        have LP := Lib.hid (And.intro hpL (show p < wr.heap.size from hBl.lt))
        obtain ⟨v1, hv1⟩ : ∃ v1, wr.alloc (.cells #[.pointer none, .bool false] 116) = v1 := ⟨_, rfl⟩
        have Ls1 := Lib.hid (show wr.heap.size + 1 = v1.heap.size by rw [← hv1]; simp)
        rw [hv1] at N1 K1 P1
        have Hv1 := Lib.hid hv1
        have HSm1 := Lib.hid (HSm.out v1 K1.out.bl h256)
        obtain ⟨s, hs⟩ : ∃ s, (Mx.sum (sumsB (rowsP ps))).toNat = s := ⟨_, rfl⟩
        rw [hs] at HSm1
        have Hs := Lib.hid hs
        have hsl : s < 4294967296 := by rw [← hs]; exact (Mx.sum (sumsB (rowsP ps))).isLt
        have Lwr := Lib.hid hK.sz
        clear hBl hls hri hK hpL htl hrl q1 q2 q3 hb1 hv1 hs h256 HSm
        go_wp2_with fail
        rw [Hv1.out]
        refine HSm1.out.mono ?_
        rintro r v2 ⟨rfl, b2⟩
        have hb3 := below_new v2 (.cells #[.int .i64 (s : Int)] 3)
        have Q3 := BlockIs.made v2 3 #[.int .i64 (s : Int)]
        have N3 := (N1.out.below b2).below hb3
        have K3 := Lib.hid ((K1.out.on (b2.mono K1.out.sz)).on (hb3.mono (Nat.le_trans K1.out.sz b2.size)))
        have P3 := Lib.hid ((P1.out.below b2 P1.out.lt).below hb3 (Nat.lt_of_lt_of_le P1.out.lt b2.size))
        have Ls3 := Lib.hid (show wr.heap.size < v2.heap.size by have := Ls1.out; have := b2.size; omega)
        have HFd := Lib.hid (N3.put (by have := hb3.size; have := Ls3.out; omega) Q3 (wd := 4) (by decide) (by omega) (by show (s : Int) ≤ 4294967295; omega))
        clear hb3 Q3 N3 b2 N1 K1 P1 HSm1
        go_wp2_with fail
        refine HFd.out.mono ?_
        rintro r v4 ⟨rfl, n4, g4⟩
        have K4 := Lib.hid (K3.out.grown g4 Lwr.out)
        have P4 := P3.out.kept g4 (fun e => by have := Option.some.inj e; have := LP.out; omega)
        obtain ⟨p0, p1, p2, p3, p4, p5, p6⟩ := P4.seven
        have HI := Lib.hid (rident_any v4 ⟨l0, l1, l2, lb⟩ Xl xl ⟨k0, k1, k2⟩)
        unfold recV Ent.ident IdentI.val at HI
        simp only at HI
        have N4 := Lib.hid n4
        clear n4 g4 HFd K3 P3 P4
        go_wp2_with fail
        refine HI.out.mono ?_
        rintro r v5 ⟨rfl, b5⟩
        have hb6 := below_new v5 (.cells #[.int .i64 l0, .int .i64 l1, .int .i64 l2] 26)
        have K6 := Lib.hid ((K4.out.on (b5.mono K4.out.sz)).on (hb6.mono (Nat.le_trans K4.out.sz b5.size)))
        have L5 := Lib.hid (show wr.heap.size < v5.heap.size from by have := N4.out.lt; have := b5.size; omega)
        have HI6 := Lib.hid (gidents1 wr.heap.size wr.heap.size v5.heap.size _ _ ((N4.out.below b5).below hb6) (by have := hb6.size; have := L5.out; omega) ⟨l0, l1, l2⟩ HFi.out (BlockIs.made v5 26 #[.int .i64 l0, .int .i64 l1, .int .i64 l2]) (by have := L5.out; omega))
        have HR := Lib.hid (show ([] ++ le (4 : Int).toNat (s : Int)) ++ (le 6 l1 ++ le 1 l2) = footBody (rowsP ps) (lastR f (rowsP ps)) by rw [HLs.out]; unfold footBody; rw [Hs.out]; simp)
        clear p0 p1 p2 p3 p4 p5 p6 b5 hb6 HI N4 K4
        go_wp2_with fail
        refine HI6.out.mono ?_
        rintro r v7 ⟨rfl, n7, g7⟩
        rw [HR.out] at n7
        have K7 := Lib.hid (K6.out.grown g7 Lwr.out)
        have HU := Lib.hid (gwunit_any _ _ v7 _ n7 (by rw [footBody_len]; decide) 6 g)
        rw [footBody_len] at HU
        clear n7 g7 HI6 K6
        obtain ⟨c0, c1, c2, c3, c4⟩ := K7.out.cells
        go_wp2_with fail
        refine HU.out.mono ?_
        rintro r v8 ⟨v, rfl, ho, b8⟩
        obtain ⟨X, cap, rfl, _, _⟩ := own_slice ho
        have K8 := Lib.hid (K7.out.on (b8.mono K7.out.sz))
        have Z := Lib.hid (K8.out.u.put3 (.int .i64 6) (.int .i64 g) (.slice X 11 cap))
        have HO8 := Lib.hid (own_lift (B' := W.heap.size + 2) ho (fun b x => by have := (ho.lt b x).1; have := K7.out.sz; omega))
        obtain ⟨u0, u1, u2, f0, f1, f2⟩ := K8.out.u.three
        clear ho b8 HU c0 c1 c2 c3 c4
        go_wp2_with fail
        clear u0 u1 u2 f0 f1 f2
        obtain ⟨z0, z1, z2, _⟩ := Z.out.1.three
        refine bodyPost_ret (v := .agg #[.int .i64 6, .int .i64 g, .slice X 11 cap]) (by simp [results, Tryz.results51, go_sem, z0, z1, z2]) rfl ⟨.inl ⟨by rw [HD.out], _, rfl, by rw [HD.out], ?_⟩, below_grown K8.out.bl Z.out.2 K8.out.bl.size (by omega)⟩
        exact HO8.out.kept Z.out.2 (.inr (fun x => by have := (HO8.out.lt _ x).1; omega))
  · exact ⟨rfl, .inr ⟨by rw [foot_err HF.out.1 HF.out.2.2 hn]; exact h0, by rw [foot_err HF.out.1 HF.out.2.2 hn]; exact ⟨n', v', rfl, hv⟩⟩, M1.out.bl.trans (b2.mono M1.out.bl.size)⟩
end Go.Proofs.YtpdfmpegcejmkaaGreatDoor
namespace Go.Proofs.YtpdfmpegcejmkaaGreatDoor
open Go.RowKit
theorem footR_none {f g : Int} {n : Nat} {rows : List (List Int)} (h : (footR f g n rows).2 ≠ 0) : (footR f g n rows).1 = noUnit := by
  unfold footR at *
  by_cases h1 : f < 0 ∨ rows.length ≠ n
  · rw [if_pos h1]
  · rw [if_neg h1] at h ⊢
    cases h2 : entsR f rows with
    | error e => rfl
    | ok r =>
      rw [h2] at h
      simp only at h ⊢
      by_cases h3 : chainR r = false
      · rw [if_pos h3]
      · rw [if_neg h3] at h; exact absurd rfl h
theorem footR_some {f g : Int} {n : Nat} {rows : List (List Int)} (h : (footR f g n rows).2 = 0) : (footR f g n rows).1.kind = 6 ∧ (footR f g n rows).1.num = g ∧ (footR f g n rows).1.body.length = 11 ∧ ∀ z ∈ (footR f g n rows).1.body, 0 ≤ z ∧ z < 256 := by
  unfold footR at *
  by_cases h1 : f < 0 ∨ rows.length ≠ n
  · rw [if_pos h1] at h; exact absurd h (by decide)
  · rw [if_neg h1] at h ⊢
    cases h2 : entsR f rows with
    | error e =>
      rw [h2] at h
      simp only at h ⊢
      exfalso
      subst h
      exact ents_ne h2 rfl
    | ok r =>
      rw [h2] at h
      simp only at h ⊢
      by_cases h3 : chainR r = false
      · rw [if_pos h3] at h; exact absurd h (by decide)
      · rw [if_neg h3]
        exact ⟨rfl, rfl, footBody_len _ _, footBody_bd _ _⟩
theorem gfoot_any (σ : Sen) (τ : SenU) (ρ : SenQ) (W : World) (hC : GlAt σ W) (hU : GlU τ W) (hQ : GlQ ρ W) (hM : GlM ρ W) (a b c g f : Int) (A : Option Addr) (ps : List Part) (k : Nat) (hp : PartsAt W A ps) (hf2 : f ≤ 1099511627776 * 64) (hb : 0 ≤ f → 1 ≤ b ∧ b ≤ 32) :
    Calls Tryz.prog 51 #[.agg (segC a b c g f), .slice A ps.length k] W fun r w' => (((footR f g b.toNat (rowsP ps)).2 = 0 ∧ ∃ v, r = .returned (.agg #[.int .i64 6, .int .i64 g, v]) ∧ w'.ownsRow (W.heap.size + 2) 5 1 v 11 (u8s (footR f g b.toNat (rowsP ps)).1.body)) ∨ Faults ρ (footR f g b.toNat (rowsP ps)).2 r) ∧ Below W.heap.size W w' := by
  by_cases h0 : (ps.length : Int) ≠ b ∨ f < 0
  · refine (gfoot_none ρ W hQ hM a b c g f A ps.length k h0).mono ?_
    rintro r w' ⟨h, hb'⟩
    refine ⟨.inr ?_, hb'⟩
    rw [show (footR f g b.toNat (rowsP ps)).2 = 2 by
      unfold footR
      rw [if_pos]
      rw [rowsP_len]
      by_cases hf : f < 0
      · exact .inl hf
      · have := hb (by omega)
        exact .inr (by omega)]
    exact h
  · have hf : 0 ≤ f := by omega
    obtain ⟨b1, b2⟩ := hb hf
    have hn : b.toNat = ps.length := by omega
    rw [hn]
    refine (gfoot_body σ τ ρ W hC hU hQ hM a b c g f A ps k (ps.length - 1) hp (by omega) (by omega) (by omega) hf hf2).mono ?_
    rintro r w' ⟨⟨h1, v, rfl, h2, h3⟩ | ⟨h1, h2⟩, hb'⟩
    · exact ⟨.inl ⟨h1, v, rfl, by rw [h2]; exact h3⟩, hb'⟩
    · exact ⟨.inr h2, hb'⟩
/-- Amid the closure of Foot. -/
structure FcI (W : World) (σ : SenQ) (a b c g f : Int) (A : Option Addr) (ps : List Part) (k : Nat) (z : Nat) (D : Nat → Bool) (V : Nat → Value) (w : World) : Prop where
  gr : W.grownBy w (some z)
  bl : D 5 = false → Below W.heap.size W w
  s54 : D 5 = true → D 4 = true
  z0 : D 5 = false → BlockIs w z 34 #[.int .i64 0, .int .i64 0, .slice none 0 0]
  z1 : D 5 = true → UnBox W.heap.size w z (footR f g b.toNat (rowsP ps)).1
  nz : D 5 = true → (footR f g b.toNat (rowsP ps)).2 = 0
  v0 : D 0 = true → V 0 = .agg #[.int .i64 a, .int .i64 b, .int .i64 c]
  v1 : D 1 = true → V 1 = .int .i64 g
  v2 : D 2 = true → V 2 = .agg (segC a b c g f)
  v3 : D 3 = true → V 3 = .slice A ps.length k
  v4 : D 4 = true → D 5 = false → (footR f g b.toNat (rowsP ps)).2 = 0 ∧ ∃ v, V 4 = .agg #[.int .i64 6, .int .i64 g, v] ∧ w.ownsRow (W.heap.size) 5 1 v 11 (u8s (footR f g b.toNat (rowsP ps)).1.body)
theorem FcI.world {W w w' : World} {σ : SenQ} {a b c g f : Int} {A : Option Addr} {ps : List Part} {k : Nat} {z : Nat} {D : Nat → Bool} {V : Nat → Value} (k' : FcI W σ a b c g f A ps k z D V w) (hb : Below w.heap.size w w') : FcI W σ a b c g f A ps k z D V w' :=
  { k' with gr := k'.gr.trans (grown_below hb _), bl := fun h => (k'.bl h).trans (hb.mono (k'.bl h).size), z0 := fun h => (k'.z0 h).below hb (k'.z0 h).lt, z1 := fun h => (by
      obtain ⟨v, h1, h2⟩ := (k'.z1 h).ex
      exact ⟨v, h1.below hb h1.lt, ownsRow_below h2 hb⟩), v4 := fun h h' => (by
      obtain ⟨h0, v, h1, h2⟩ := k'.v4 h h'
      exact ⟨h0, v, h1, ownsRow_below h2 hb⟩) }
theorem rows_load {w : World} {p : Nat} {A : Option Addr} {n k : Nat} (h : BlockIs w p 28 #[.slice A n k]) : (Instr.loadAt 28 (.pointer (some ⟨p, 0, none⟩))).run Tryz.prog w = .ok (.slice A n k) w := by
  have d0 := h.cell 0
  go_simp
theorem firstI_shape (a b c g : Int) : 0 ≤ firstI a b c g → 1 ≤ b ∧ b ≤ 32 := by
  intro h
  unfold firstI at h
  by_cases hc : shapeB a b c = true ∧ 0 ≤ g ∧ g ≤ 1099511627776
  · obtain ⟨S, R, P, rfl, rfl, rfl, hr⟩ := right_shape hc.1
    have h1 := hr.r0
    have h2 := hr.r1
    omega
  · rw [if_neg hc] at h; exact absurd h (by decide)
set_option maxRecDepth 100000 in
set_option maxHeartbeats 4000000 in
theorem gfoot1_any (σ : Sen) (τ : SenU) (ρ : SenQ) (W : World) (hC : GlAt σ W) (hU : GlU τ W) (hQ : GlQ ρ W) (hM : GlM ρ W) (a b c g : Int) (A : Option Addr) (ps : List Part) (k : Nat) (hps : PartsAt W A ps) (p q x z : Nat)
    (hp : BlockIs W p 23 #[.int .i64 a, .int .i64 b, .int .i64 c]) (hq : BlockIs W q 3 #[.int .i64 g]) (hx : BlockIs W x 28 #[.slice A ps.length k]) (hz : BlockIs W z 34 #[.int .i64 0, .int .i64 0, .slice none 0 0]) (hpz : p ≠ z) (hqz : q ≠ z) (hxz : x ≠ z) :
    Calls Tryz.prog 50 #[.pointer (some ⟨p, 0, none⟩), .pointer (some ⟨q, 0, none⟩), .pointer (some ⟨x, 0, none⟩), .pointer (some ⟨z, 0, none⟩)] W fun r w' => (((footR (firstI a b c g) g b.toNat (rowsP ps)).2 = 0 ∧ r = .returned (.tuple #[])) ∨ Faults ρ (footR (firstI a b c g) g b.toNat (rowsP ps)).2 r) ∧ UnBox W.heap.size w' z (footR (firstI a b c g) g b.toNat (rowsP ps)).1 ∧ W.grownBy w' (some z) := by
  have HF := Lib.hid (fun w => segmentOf_any w a b c g)
  have hf := firstI_le a b c g
  have hfb := firstI_shape a b c g
  obtain ⟨f, hff⟩ : ∃ f, firstI a b c g = f := ⟨_, rfl⟩
  rw [hff] at HF hf hfb ⊢
  have HH := Lib.hid (fun w (h : Below W.heap.size W w) => gfoot_any σ τ ρ w (hC.below h) (hU.below h) (hQ.below h) (hM.below h) a b c g f A ps k (hps.below h) hf hfb)
  have HP := Lib.hid (And.intro hp (And.intro hq (And.intro hx hz)))
  have HN := Lib.hid (And.intro hpz (And.intro hqz hxz))
  clear hC hU hQ hM hff hf hfb hps hp hq hx hz hpz hqz hxz
  go_enter Tryz.func50, Tryz.ntmps50
  go_wp2_with fail
  refine Ssa.wp_region_opsP (FcI W ρ a b c g f A ps k z) (fun ch w => (∃ n v, ch = [{ v := gfaultV n v, recovered := false }] ∧ GErr ρ (footR f g b.toNat (rowsP ps)).2 v) ∧ UnBox W.heap.size w z (footR f g b.toNat (rowsP ps)).1 ∧ W.grownBy w (some z)) (by kernel_rfl) (by kernel_rfl) (by kernel_rfl) (by kernel_rfl) (fun V => ⟨grown_below (Below.refl _ _).drew _, fun _ => (Below.refl _ _).drew, fun h => (by cases h), fun _ => HP.out.2.2.2, fun h => (by cases h), fun h => (by cases h), fun h => (by cases h), fun h => (by cases h), fun h => (by cases h), fun h => (by cases h), fun h => (by cases h)⟩) ?_ ?_ ?_
  · intro hd
    refine Ssa.OpsInv.cons (Ssa.opInv rfl fun D V w hi hall K => ?_) ?_
    · exact Ssa.ov_val (Ssa.exec_load rfl (Ssa.evT rfl rfl) (shape_load (HP.out.1.kept K.gr (fun e => HN.out.1 (Option.some.inj e))))) { K with v0 := fun _ => rfl }
    refine Ssa.OpsInv.cons (Ssa.opInv rfl fun D V w hi hall K => ?_) ?_
    · exact Ssa.ov_val (Ssa.exec_load rfl (Ssa.evT rfl rfl) (num_load (HP.out.2.1.kept K.gr (fun e => HN.out.2.1 (Option.some.inj e))))) { K with v1 := fun _ => rfl }
    refine Ssa.OpsInv.cons (Ssa.opInv rfl fun D V w hi hall K => ?_) ?_
    · have d0 : D 0 = true := Ssa.dep hall 0 rfl rfl
      have d1 : D 1 = true := Ssa.dep hall 1 rfl rfl
      refine Ssa.ov_call (Ssa.exec_call rfl rfl (Ssa.evs_cons ((Ssa.evM hd 0 rfl rfl).trans (K.v0 d0)) (Ssa.evs_cons ((Ssa.evM hd 1 rfl rfl).trans (K.v1 d1)) Ssa.evs_nil)) Tryz.func40 (by kernel_rfl) rfl) ((HF.out w).mono ?_)
      rintro r w' ⟨rfl, hb⟩
      exact ⟨_, rfl, { K.world hb with v2 := fun _ => rfl }⟩
    refine Ssa.OpsInv.cons (Ssa.opInv rfl fun D V w hi hall K => ?_) ?_
    · exact Ssa.ov_val (Ssa.exec_load rfl (Ssa.evT rfl rfl) (rows_load (HP.out.2.2.1.kept K.gr (fun e => HN.out.2.2 (Option.some.inj e))))) { K with v3 := fun _ => rfl }
    refine Ssa.OpsInv.cons (Ssa.opInv rfl fun D V w hi hall K => ?_) ?_
    · have d2 : D 2 = true := Ssa.dep hall 0 rfl rfl
      have d3 : D 3 = true := Ssa.dep hall 1 rfl rfl
      have d5 : D 5 = false := by
        cases h : D 5 with
        | false => rfl
        | true => rw [K.s54 h] at hi; cases hi
      refine Ssa.ov_callP (Ssa.exec_call rfl rfl (Ssa.evs_cons ((Ssa.evM hd 2 rfl rfl).trans (K.v2 d2)) (Ssa.evs_cons ((Ssa.evM hd 3 rfl rfl).trans (K.v3 d3)) Ssa.evs_nil)) Tryz.func51 (by kernel_rfl) rfl) ((HH.out w (K.bl d5)).mono ?_)
      rintro r w' ⟨⟨h0, v, rfl, ho⟩ | ⟨n, v, rfl, hv⟩, hb⟩
      · exact .inl ⟨_, rfl, { K.world hb with s54 := fun _ => rfl, v4 := fun _ _ => ⟨h0, v, rfl, own_lift ho (fun b x => by have := (ho.lt b x).1; have := (K.bl d5).size; omega)⟩ }⟩
      · have hne : (footR f g b.toNat (rowsP ps)).2 ≠ 0 := hv.ne
        refine .inr ⟨_, rfl, ⟨n, v, rfl, hv⟩, ⟨.slice none 0 0, ?_⟩, K.gr.trans (grown_below hb _)⟩
        rw [footR_none hne]
        exact ⟨(K.z0 d5).below hb (K.z0 d5).lt, World.ownsRow_nil _ _ _ _⟩
    refine Ssa.OpsInv.cons (Ssa.opInv rfl fun D V w hi hall K => ?_) ?_
    · have d4 : D 4 = true := Ssa.dep hall 0 rfl rfl
      obtain ⟨h0, v, e1, ho⟩ := K.v4 d4 hi
      obtain ⟨X, cx, rfl, _, _⟩ := own_slice ho
      have hB := K.z0 hi
      have hzl : z < W.heap.size := HP.out.2.2.2.lt
      obtain ⟨hZ, hg⟩ := BlockIs.put3 hB (.int .i64 6) (.int .i64 g) (.slice X 11 cx)
      obtain ⟨s1, s2, s3, _⟩ := footR_some h0
      refine Ssa.ov_skip (Ssa.exec_store rfl (Ssa.evT rfl rfl) ((Ssa.evM hd 4 rfl rfl).trans e1) (unit_store hB)) { K with gr := K.gr.trans hg, bl := fun h => (by cases h), s54 := fun _ => d4, z0 := fun h => (by cases h), z1 := fun _ => ⟨.slice X 11 cx, by rw [s1, s2]; exact hZ, ?_⟩, nz := fun _ => h0, v4 := fun _ h => (by cases h) }
      rw [s3]
      exact ho.kept hg (.inr (fun x => by have := (ho.lt _ x).1; omega))
    exact Ssa.OpsInv.nil
  · intro D V w5 hall K
    have e2 := K.z1 (hall 5 (by decide))
    have e3 := K.nz (hall 5 (by decide))
    have HK := Lib.hid (And.intro e3 (And.intro e2 K.gr))
    clear K e2 e3 hall
    simp only [Ssa.mixV, Ssa.putV, List.setIfInBounds_toArray, List.set_cons_zero, List.set_cons_succ, Nat.zero_add, Nat.reduceAdd]
    go_wp2_with fail
    go_end0
    exact ⟨.inl ⟨HK.out.1, rfl⟩, HK.out.2.1, HK.out.2.2⟩
  · rintro ch ac w5 hds ⟨⟨n, v, rfl, hv⟩, hu, hg⟩
    exact ⟨hds, .inr ⟨n, v, rfl, hv⟩, hu, hg⟩
set_option maxRecDepth 100000 in
set_option maxHeartbeats 4000000 in
/-- seg.Foot of anything. -/
theorem gsegFoot_any (σ : Sen) (τ : SenU) (ρ : SenQ) (W : World) (hC : GlAt σ W) (hU : GlU τ W) (hG : GlQ ρ W) (hM : GlM ρ W) (a b c g : Int) (A : Option Addr) (ps : List Part) (k0 : Nat) (hps : PartsAt W A ps) :
    Calls Tryz.prog 14 #[.agg #[.int .i64 a, .int .i64 b, .int .i64 c], .int .i64 g, .slice A ps.length k0] W fun r w' => ∃ v, r = .returned (.tuple #[.agg #[.int .i64 (footR (firstI a b c g) g b.toNat (rowsP ps)).1.kind, .int .i64 (footR (firstI a b c g) g b.toNat (rowsP ps)).1.num, v], .int .i64 (footR (firstI a b c g) g b.toNat (rowsP ps)).2]) ∧ w'.ownsRow W.heap.size 5 1 v (footR (firstI a b c g) g b.toNat (rowsP ps)).1.body.length (u8s (footR (firstI a b c g) g b.toNat (rowsP ps)).1.body) ∧ Below W.heap.size W w' := by
  have hmf : ∀ (fn : Fn) (first cap : Array Value) (w : World), (Instr.makeFunc fn first cap).run Tryz.prog w = .ok (.func fn first cap) w := fun _ _ _ _ => rfl
  have hb := boxes_below [(23, #[.int .i64 a, .int .i64 b, .int .i64 c]), (3, #[.int .i64 g]), (28, #[.slice A ps.length k0]), (34, #[.int .i64 0, .int .i64 0, .slice none 0 0]), (34, #[.int .i64 0, .int .i64 0, .slice none 0 0])] W
  have hs := boxes_size [(23, #[.int .i64 a, .int .i64 b, .int .i64 c]), (3, #[.int .i64 g]), (28, #[.slice A ps.length k0]), (34, #[.int .i64 0, .int .i64 0, .slice none 0 0]), (34, #[.int .i64 0, .int .i64 0, .slice none 0 0])] W
  have h0 := boxes_at [(23, #[.int .i64 a, .int .i64 b, .int .i64 c]), (3, #[.int .i64 g]), (28, #[.slice A ps.length k0]), (34, #[.int .i64 0, .int .i64 0, .slice none 0 0]), (34, #[.int .i64 0, .int .i64 0, .slice none 0 0])] W 0 _ _ rfl
  have h1 := boxes_at [(23, #[.int .i64 a, .int .i64 b, .int .i64 c]), (3, #[.int .i64 g]), (28, #[.slice A ps.length k0]), (34, #[.int .i64 0, .int .i64 0, .slice none 0 0]), (34, #[.int .i64 0, .int .i64 0, .slice none 0 0])] W 1 _ _ rfl
  have h2 := boxes_at [(23, #[.int .i64 a, .int .i64 b, .int .i64 c]), (3, #[.int .i64 g]), (28, #[.slice A ps.length k0]), (34, #[.int .i64 0, .int .i64 0, .slice none 0 0]), (34, #[.int .i64 0, .int .i64 0, .slice none 0 0])] W 2 _ _ rfl
  have h3 := boxes_at [(23, #[.int .i64 a, .int .i64 b, .int .i64 c]), (3, #[.int .i64 g]), (28, #[.slice A ps.length k0]), (34, #[.int .i64 0, .int .i64 0, .slice none 0 0]), (34, #[.int .i64 0, .int .i64 0, .slice none 0 0])] W 3 _ _ rfl
  have h4 := boxes_at [(23, #[.int .i64 a, .int .i64 b, .int .i64 c]), (3, #[.int .i64 g]), (28, #[.slice A ps.length k0]), (34, #[.int .i64 0, .int .i64 0, .slice none 0 0]), (34, #[.int .i64 0, .int .i64 0, .slice none 0 0])] W 4 _ _ rfl
  obtain ⟨w4, hw4⟩ : ∃ w4, boxes W [(23, #[.int .i64 a, .int .i64 b, .int .i64 c]), (3, #[.int .i64 g]), (28, #[.slice A ps.length k0]), (34, #[.int .i64 0, .int .i64 0, .slice none 0 0]), (34, #[.int .i64 0, .int .i64 0, .slice none 0 0])] = w4 := ⟨_, rfl⟩
  rw [hw4] at hb hs h0 h1 h2 h3 h4
  simp only [boxes] at hw4
  simp only [List.length_cons, List.length_nil] at hs
  have HB := Lib.hid (And.intro hb (And.intro hs (And.intro h3 h4)))
  have Hw4 := Lib.hid hw4
  have HT := Lib.hid (tried_any ρ w4 50 #[.pointer (some ⟨W.heap.size, 0, none⟩), .pointer (some ⟨W.heap.size + 1, 0, none⟩), .pointer (some ⟨W.heap.size + 1 + 1, 0, none⟩), .pointer (some ⟨W.heap.size + 1 + 1 + 1 + 1, 0, none⟩)] (fun _ => by simp [go_sem]) (some (W.heap.size + 4)) (fun b x => by have := Option.some.inj x; omega) (fun k w2 => k = (footR (firstI a b c g) g b.toNat (rowsP ps)).2 ∧ UnBox (w4.heap.size + 1) w2 (W.heap.size + 4) (footR (firstI a b c g) g b.toNat (rowsP ps)).1) (fun w1 b1 l1 => (gfoot1_any σ τ ρ w1 (hC.below (hb.trans (b1.mono hb.size))) (hU.below (hb.trans (b1.mono hb.size))) (hG.below (hb.trans (b1.mono hb.size))) (hM.below (hb.trans (b1.mono hb.size))) a b c g A ps k0 (hps.below (hb.trans (b1.mono hb.size))) W.heap.size (W.heap.size + 1) (W.heap.size + 1 + 1) (W.heap.size + 4) (h0.below b1 h0.lt) (h1.below b1 h1.lt) (h2.below b1 h2.lt) (h4.below b1 h4.lt) (by omega) (by omega) (by omega)).mono (by
      rintro r w2 ⟨hr, hu, hg⟩
      have bw := hb.trans (b1.mono hb.size)
      exact ⟨_, hr, hg, hG.below (below_grown bw hg bw.size (by omega)), rfl, hu.mono (by omega)⟩)))
  obtain ⟨rr, hrr⟩ : ∃ rr, footR (firstI a b c g) g b.toNat (rowsP ps) = rr := ⟨_, rfl⟩
  rw [hrr] at HT ⊢
  obtain ⟨⟨uk, un, ub⟩, rc⟩ := rr
  simp only at HT ⊢
  clear hb hs h0 h1 h2 h3 h4 hw4 hC hU hG hM hps hrr
  go_enter Tryz.func14, Tryz.ntmps14
  go_wp2_with fail
  rw [Hw4.out]
  refine HT.out.mono ?_
  rintro r w6 ⟨k, w5, rfl, ⟨rfl, hu⟩, g5, g6, l5⟩
  have HS := Lib.hid HB.out.2.1
  have ha4 : Hid (Below W.heap.size W w5) := Lib.hid (HB.out.1.trans ⟨g5.os, g5.tape, g5.output, by have := g5.size; have := HS.out; omega, fun k hk => g5.block k (by have := HS.out; omega) (fun x => by have := Option.some.inj x; omega)⟩)
  have hb6 := Lib.hid (below_grown ha4.out g6 ha4.out.size (by have := HS.out; omega))
  have hu6 := (show UnBox (w4.heap.size + 1) w5 (W.heap.size + 1 + 1 + 1 + 1) ⟨uk, un, ub⟩ from hu).kept g6 (by have := HS.out; omega) (by omega)
  have r5 := (show BlockIs w4 (W.heap.size + 1 + 1 + 1) 34 #[.int .i64 0, .int .i64 0, .slice none 0 0] from HB.out.2.2.1).kept g5 (fun x => by have := Option.some.inj x; omega)
  have r6 := r5.kept g6 (fun x => by have := Option.some.inj x; have := HS.out; omega)
  obtain ⟨v, k1, k2⟩ := hu6.ex
  obtain ⟨X, cap, rfl, _, _⟩ := own_slice k2
  simp only at k1 k2 ⊢
  have HK := Lib.hid (And.intro k1 k2)
  have HR6 := Lib.hid r6
  have u0 := k1.cell 0
  have u1 := k1.cell 1
  have u2 := k1.cell 2
  obtain ⟨c0, c1, c2, f0, f1, f2⟩ := r6.three
  have Z := Lib.hid (r6.put3 (.int .i64 uk) (.int .i64 un) (.slice X ub.length cap))
  clear k1 k2 r5 r6 hu hu6 g5 g6 l5 ha4
  go_wp2_with fail
  clear u0 u1 u2 c0 c1 c2 f0 f1 f2
  obtain ⟨z0, z1, z2, _⟩ := Z.out.1.three
  refine bodyPost_ret (v := .tuple #[.agg #[.int .i64 uk, .int .i64 un, .slice X ub.length cap], .int .i64 k]) (by simp [results, Tryz.results14, go_sem, z0, z1, z2]) rfl ⟨_, rfl, ?_, below_grown hb6.out Z.out.2 hb6.out.size (by omega)⟩
  have h := HK.out.2.kept Z.out.2 (.inr (fun x => by have := (HK.out.2.lt _ x).1; have := HS.out; omega))
  exact own_lift h (fun b x => by have := (HK.out.2.lt _ x).1; have := HS.out; omega)
end Go.Proofs.YtpdfmpegcejmkaaGreatDoor
