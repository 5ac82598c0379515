/- SegShut: the law's walk. -/
import Derived.Test.YtpdfmpegcejmkaaGreatDoorLaw08Awake
import Derived.Test.YtpdfmpegcejmkaaGreatDoorLaw08Rows
import Derived.Test.YtpdfmpegcejmkaaGreatDoorSegShutC
import Derived.Test.YtpdfmpegcejmkaaGreatDoorSegAheadC
import Derived.Test.YtpdfmpegcejmkaaGreatDoorUnitSmall
import Derived.Test.YtpdfmpegcejmkaaGreatDoorKitPick
import Derived.Deep.DeepCutAuto
import Derived.BigRegion
import Derived.StillTailTactics
namespace Go.Proofs.YtpdfmpegcejmkaaGreatDoor
open Go.RowKit
/-- The boxes of the law: the shape's, the ident's. -/
structure ShB (W : World) (a b c : Int) (q : Nat) (i : IdentI) (w : World) : Prop where
  s : BlockIs w W.heap.size 23 #[.int .i64 a, .int .i64 b, .int .i64 c]
  i : BlockIs w q 26 #[.int .i64 i.idx, .int .i64 i.term, .int .i64 i.kind]
  bl : Below W.heap.size W w
  sq : W.heap.size < q
section
variable {W w w' : World} {a b c : Int} {q : Nat} {i : IdentI}
theorem ShB.on (h : ShB W a b c q i w) (hb : Below w.heap.size w w') : ShB W a b c q i w' := ⟨h.s.below hb h.s.lt, h.i.below hb h.i.lt, h.bl.trans (hb.mono h.bl.size), h.sq⟩
theorem ShB.grown {p : Nat} (h : ShB W a b c q i w) (hg : w.grownBy w' (some p)) (hp : q < p) : ShB W a b c q i w' := ⟨h.s.kept hg (fun x => by have := Option.some.inj x; have := h.sq; omega), h.i.kept hg (fun x => by have := Option.some.inj x; omega), below_grown h.bl hg h.bl.size (by have := h.sq; omega), h.sq⟩
theorem ShB.cells (h : ShB W a b c q i w) : w.cell? ⟨W.heap.size, 0, none⟩ = some (.int .i64 a) ∧ w.cell? ⟨W.heap.size, 1, none⟩ = some (.int .i64 b) ∧ w.cell? ⟨W.heap.size, 2, none⟩ = some (.int .i64 c) := ⟨h.s.cell 0, h.s.cell 1, h.s.cell 2⟩
end
/-- Amid 'back, f := seg.Ahead(sealed(h), s, g)'. -/
structure HbI (w0 : World) (U S : Value) (g : Int) (sb : List Int) (i : IdentI) (D : Nat → Bool) (V : Nat → Value) (w : World) : Prop where
  bl : Below w0.heap.size w0 w
  v0 : D 0 = true → V 0 = U
  v1 : D 1 = true → D 4 = false → ∃ Z k, V 1 = .slice Z sb.length k ∧ BytesAt w Z sb ∧ sb.length ≤ k ∧ k ≤ 9223372036854775807
  v2 : D 2 = true → V 2 = S
  v3 : D 3 = true → V 3 = .int .i64 g
  v4 : D 4 = true → V 4 = .tuple #[i.val, .int .i64 0]
  v5 : D 5 = true → V 5 = .tuple #[i.val, .int .i64 0]
  v6 : D 6 = true → V 6 = i.val
  v7 : D 7 = true → V 7 = .int .i64 0
  v8 : D 8 = true → ∃ p, V 8 = .pointer (some ⟨p, 0, none⟩) ∧ w0.heap.size ≤ p ∧ (D 9 = false → BlockIs w p 26 #[.int .i64 0, .int .i64 0, .int .i64 0]) ∧ (D 9 = true → BlockIs w p 26 #[.int .i64 i.idx, .int .i64 i.term, .int .i64 i.kind])
  s98 : D 9 = true → D 8 = true
  v10 : D 10 = true → V 10 = .int .i64 0
theorem HbI.world {w0 w w' : World} {U S : Value} {g : Int} {sb : List Int} {i : IdentI} {D : Nat → Bool} {V : Nat → Value} (k : HbI w0 U S g sb i D V w) (hb : Below w.heap.size w w') : HbI w0 U S g sb i D V w' :=
  { k with bl := k.bl.trans (hb.mono k.bl.size), v1 := fun h h' => (by obtain ⟨Z, c, h1, h2, h3⟩ := k.v1 h h'; exact ⟨Z, c, h1, h2.below hb, h3⟩), v8 := fun h => (by
      obtain ⟨p, h1, h2, h3, h4⟩ := k.v8 h
      exact ⟨p, h1, h2, fun x => (h3 x).below hb (h3 x).lt, fun x => (h4 x).below hb (h4 x).lt⟩) }
theorem unit_load8 {w : World} {p : Nat} {x y : Int} {A : Option Addr} {n c : Nat} (h : BlockIs w p 34 #[.int .i64 x, .int .i64 y, .slice A n c]) : (Instr.loadAt 34 (.pointer (some ⟨p, 0, none⟩))).run Tryz.prog w = .ok (.agg #[.int .i64 x, .int .i64 y, .slice A n c]) w := by
  obtain ⟨h0, h1, h2, f0, f1, f2⟩ := h.three
  go_simp
theorem headR_right {f g : Int} {i : IdentI} (h : aheadI i f) (hf : 0 ≤ f) : headR f g i = (headU g i, 0) := by
  unfold headR
  rw [if_neg (by omega), if_neg (fun x => x h)]
theorem cell_one8 (W : World) (x : Value) (t : TypeId) : ∀ j u, [x][j]? = some u → (W.alloc (.cells #[x] t)).cell? ((⟨W.heap.size, 0, none⟩ : Addr).add j) = some u := by
  intro j u hj
  cases j with
  | zero =>
    obtain rfl : x = u := by simpa using hj
    exact cell_row W x t
  | succ j => simp at hj
/-- Amid the loop: the boxes, the records so far, their blocks. -/
structure RlG (W : World) (a b c : Int) (q LB : Nat) (f : Int) (i : IdentI) (n : Nat) (l : List Ent) (rv : Value) (qs : List Part) (w : World) : Prop where
  s : ShB W a b c q (lastE i l) w
  r : Recs f i n l
  b : BlkRow w LB rv qs
  e : rowsP qs = rowsE i l
  ql : q < LB
  lb : LB ≤ w.heap.size
section
variable {W w w' : World} {a b c : Int} {q LB n : Nat} {f : Int} {i : IdentI} {l : List Ent} {rv : Value} {qs : List Part}
theorem RlG.on (h : RlG W a b c q LB f i n l rv qs w) (hb : Below w.heap.size w w') : RlG W a b c q LB f i n l rv qs w' := ⟨h.s.on hb, h.r, h.b.below hb, h.e, h.ql, Nat.le_trans h.lb hb.size⟩
theorem RlG.typed {p : Nat} {t : TypeId} {cs : Array Value} (h : RlG W a b c q LB f i n l rv qs w) (hg : w.grownBy w' (some p)) (hp : LB ≤ p) (hq : BlockIs w p t cs) (h1 : 5 ≠ t) (h2 : 27 ≠ t) : RlG W a b c q LB f i n l rv qs w' :=
  ⟨h.s.grown hg (by have := h.ql; omega), h.r, h.b.typed hg hq h1 h2, h.e, h.ql, Nat.le_trans h.lb hg.size⟩
theorem RlG.len (h : RlG W a b c q LB f i n l rv qs w) : qs.length = n := by rw [← rowsP_len, h.e, rowsE_len, h.r.len]
end
/-- The entry of a round: its body is one of those that came in, or none. -/
structure XeI (W : World) (a b c : Int) (q LB : Nat) (f : Int) (i : IdentI) (n : Nat) (l : List Ent) (rv : Value) (qs : List Part) (x : Nat) (e : Ent) (X : Option Addr) (cx : Nat) (w : World) : Prop where
  h : RlG W a b c q LB f i n l rv qs w
  bx : BlockIs w x 50 #[.int .i64 e.index, .int .i64 e.term, .int .i64 e.kind, .slice X e.body.length cx]
  z : BytesAt w X e.body
  nn : X = none → cx = 0
  len : e.body.length ≤ 200
  lx : LB ≤ x
section
variable {W w w' : World} {a b c : Int} {q LB n x cx : Nat} {f : Int} {i : IdentI} {l : List Ent} {rv rv' : Value} {qs : List Part} {e : Ent} {X : Option Addr} {p : Part}
theorem XeI.on (h : XeI W a b c q LB f i n l rv qs x e X cx w) (hb : Below w.heap.size w w') : XeI W a b c q LB f i n l rv qs x e X cx w' := ⟨h.h.on hb, h.bx.below hb h.bx.lt, h.z.below hb, h.nn, h.len, h.lx⟩
theorem XeI.push (h : XeI W a b c q LB f i n l rv qs x e X cx w) (hp : BlkP w LB p) (ho : w'.ownsRow LB 27 1 rv' (qs.length + 1) (qs.map Part.val ++ [p.val])) (hg : w.grownBy w' rv.ownBlock) :
    BlkRow w' LB rv' (qs ++ [p]) ∧ ShB W a b c q (lastE i l) w' ∧ BlockIs w' x 50 #[.int .i64 e.index, .int .i64 e.term, .int .i64 e.kind, .slice X e.body.length cx] := by
  have hlt := h.h.b.own.lt
  have hne : ∀ k, k < LB → some k ≠ rv.ownBlock := fun k hk e => by have := (hlt k e.symm).1; omega
  have hq := h.h.ql
  have hs := h.h.s.sq
  refine ⟨h.h.b.push hp ho hg, ⟨h.h.s.s.kept hg (hne _ (by omega)), h.h.s.i.kept hg (hne _ hq), h.h.s.bl.grown hg h.h.s.bl.size (fun k e => by have := (hlt k e).1; omega), hs⟩, h.bx.kept hg (fun e => own_block h.h.b.own h.bx (by decide) e.symm)⟩
end
theorem ShB.turn {W w : World} {a b c : Int} {q : Nat} {i : IdentI} (h : ShB W a b c q i w) (j : IdentI) : ShB W a b c q j (((w.setCell ⟨q, 0, none⟩ (.int .i64 j.idx)).setCell ⟨q, 1, none⟩ (.int .i64 j.term)).setCell ⟨q, 2, none⟩ (.int .i64 j.kind)) ∧ w.grownBy (((w.setCell ⟨q, 0, none⟩ (.int .i64 j.idx)).setCell ⟨q, 1, none⟩ (.int .i64 j.term)).setCell ⟨q, 2, none⟩ (.int .i64 j.kind)) (some q) := by
  obtain ⟨hz, hg⟩ := h.i.put3 (.int .i64 j.idx) (.int .i64 j.term) (.int .i64 j.kind)
  have hs := h.sq
  exact ⟨⟨h.s.kept hg (fun e => by have := Option.some.inj e; omega), hz, below_grown h.bl hg h.bl.size (by omega), hs⟩, hg⟩
theorem entry_cells {w : World} {x : Nat} {e0 e1 e2 : Int} {v : Value} (h : BlockIs w x 50 #[.int .i64 e0, .int .i64 e1, .int .i64 e2, v]) : w.cell? ⟨x, 0, none⟩ = some (.int .i64 e0) ∧ w.cell? ⟨x, 1, none⟩ = some (.int .i64 e1) ∧ w.cell? ⟨x, 2, none⟩ = some (.int .i64 e2) ∧ w.cell? ⟨x, 3, none⟩ = some v := ⟨h.cell 0, h.cell 1, h.cell 2, h.cell 3⟩
/-- Behind the loop: the boxes, the blocks. -/
structure TlG (W : World) (a b c : Int) (q LB : Nat) (jl : IdentI) (rv : Value) (qs : List Part) (w : World) : Prop where
  s : ShB W a b c q jl w
  b : BlkRow w LB rv qs
  ql : q < LB
  lb : LB ≤ w.heap.size
theorem TlG.newer {W w w' : World} {a b c : Int} {q LB B g : Nat} {jl : IdentI} {rv : Value} {qs : List Part} (h : TlG W a b c q LB jl rv qs w) (hg : w.grownBy w' (some g)) (hB : LB ≤ B) (hBg : B ≤ g) (h1 : ∀ x ∈ qs, ∀ r, x.val.ownBlock = some r → r < B) (h2 : ∀ r, rv.ownBlock = some r → r < B) : TlG W a b c q LB jl rv qs w' :=
  ⟨h.s.grown hg (by have := h.ql; omega), ⟨h.b.own.kept hg (.inr (fun e => by have := h2 _ e; omega)), fun x hx => (h.b.blk x hx).kept hg (.inr (fun e => by have := h1 x hx _ e; omega))⟩, h.ql, Nat.le_trans h.lb hg.size⟩
theorem TlG.on {W w w' : World} {a b c : Int} {q LB : Nat} {jl : IdentI} {rv : Value} {qs : List Part} (h : TlG W a b c q LB jl rv qs w) (hb : Below w.heap.size w w') : TlG W a b c q LB jl rv qs w' := ⟨h.s.on hb, h.b.below hb, h.ql, Nat.le_trans h.lb hb.size⟩
/-- The ident ahead of the first record. -/
def beginI (f term : Int) : IdentI := if f = 1 then noIdent else ⟨f - 1, term, 1⟩
theorem begin_ahead {f term : Int} (h1 : 1 ≤ f) (h2 : f ≤ 1099511627776) (h3 : 0 ≤ term) (h4 : term ≤ 1099511627776) : aheadI (beginI f term) f := by
  unfold beginI
  by_cases h : f = 1
  · rw [if_pos h, h]; decide
  · rw [if_neg h]
    refine ⟨?_, rfl⟩
    unfold knownI
    simp only
    omega
set_option maxRecDepth 100000 in
set_option maxHeartbeats 16000000 in
theorem segShut_any (σ : Sen) (τ : SenU) (ρ : SenQ) (W : World) (hG : Gl8 σ τ ρ W) (hM : GlM ρ W) (a b c g term : Int) (A : Option Addr) (ps : List Part) (kb : Nat) (hp : PartsAt W A ps) (hpl : ps.length ≤ 140737488351232) (hpe : ∀ p ∈ ps, p.zs.length ≤ 140737488351232 ∧ (p.A = none → p.cap = 0)) (turn bit : Int) :
    Calls Tryz.prog 6 #[.agg #[.int .i64 a, .int .i64 b, .int .i64 c], .int .i64 g, .int .i64 term, .slice A ps.length kb, .int .i64 turn, .int .i64 bit] W fun r w' => r = .returned (.bool true) ∧ Below W.heap.size W w' := by
  have hb1 := below_new W (.cells #[.int .i64 a, .int .i64 b, .int .i64 c] 23)
  have hB := BlockIs.made W 23 #[.int .i64 a, .int .i64 b, .int .i64 c]
  have HA := Lib.hid (awake_any σ τ ρ _ (hG.below hb1))
  have HFi := Lib.hid (fun w => first_any a b c g w)
  have HG := Lib.hid (show ∀ w, Below W.heap.size W w → Gl8 σ τ ρ w ∧ GlM ρ w ∧ PartsAt w A ps from fun w h => ⟨hG.below h, hM.below h, hp.below h⟩)
  have HE := Lib.hid (And.intro hpl hpe)
  have hsh := firstI_shape a b c g
  have hle := firstI_le a b c g
  have hgg : 0 ≤ firstI a b c g → 0 ≤ g ∧ g ≤ 1099511627776 := fun h => by
    unfold firstI at h
    by_cases hc : shapeB a b c = true ∧ 0 ≤ g ∧ g ≤ 1099511627776
    · exact hc.2
    · rw [if_neg hc] at h; exact absurd h (by decide)
  have hnx : 0 ≤ firstI a b c g → firstI a b c (g + 1) ≠ firstI a b c g := fun h => by
    have hg' := hgg h
    have hb' := hsh h
    unfold firstI at h ⊢
    by_cases hc : shapeB a b c = true ∧ 0 ≤ g ∧ g ≤ 1099511627776
    · rw [if_pos hc] at h ⊢
      by_cases hc2 : shapeB a b c = true ∧ 0 ≤ g + 1 ∧ g + 1 ≤ 1099511627776
      · rw [if_pos hc2, Int.add_mul]; omega
      · rw [if_neg hc2]; omega
    · rw [if_neg hc] at h; exact absurd h (by decide)
  have HNx := Lib.hid hnx
  obtain ⟨w1, hw1⟩ : ∃ w1, W.alloc (.cells #[.int .i64 a, .int .i64 b, .int .i64 c] 23) = w1 := ⟨_, rfl⟩
  rw [hw1] at hb1 hB HA
  have H1 := Lib.hid (And.intro hb1 hB)
  have Hw1 := Lib.hid hw1
  obtain ⟨f, hf⟩ : ∃ f, firstI a b c g = f := ⟨_, rfl⟩
  rw [hf] at HFi hsh hle hgg HNx
  have HF := Lib.hid hf
  clear hG hM hp hpl hpe hb1 hB hw1 hf hnx
  go_enter Tryz.func6, Tryz.ntmps6
  go_wp2_with fail
  rw [Hw1.out]
  refine HA.out.mono ?_
  rintro r w2 ⟨rfl, b2⟩
  have hB2 := H1.out.2.below b2 H1.out.2.lt
  have K2 := Lib.hid (And.intro (H1.out.1.trans (b2.mono H1.out.1.size)) hB2)
  have c0 := hB2.cell 0
  have c1 := hB2.cell 1
  have c2 := hB2.cell 2
  clear b2 hB2 HA
  go_wp2_with fail
  refine (HFi.out _).mono ?_
  rintro r w3 ⟨rfl, b3⟩
  have hB3 := K2.out.2.below b3 K2.out.2.lt
  have K3 := Lib.hid (And.intro (K2.out.1.trans (b3.mono K2.out.1.size)) hB3)
  clear b3 hB3 c0 c1 c2
  have d0 := K3.out.2.cell 0
  have d1 := K3.out.2.cell 1
  have d2 := K3.out.2.cell 2
  have hcase : f < 1 ∨ (1 ≤ f ∧ (f + b > 1099511627776 ∨ (f + b ≤ 1099511627776 ∧ (term < 0 ∨ (0 ≤ term ∧ (term > 1099511627776 ∨ term ≤ 1099511627776)))))) := by omega
  rcases hcase with h | ⟨h1, h⟩
  · clear hsh hle hgg
    go_wp2_with fail
    go_ret
    exact ⟨rfl, K3.out.1⟩
  · have hb' := hsh (by omega)
    have hg' := hgg (by omega)
    clear hsh hgg
    rcases h with h | ⟨h2, h | ⟨h3, h | h4⟩⟩
    · go_wp2_with fail
      go_ret
      exact ⟨rfl, K3.out.1⟩
    · go_wp2_with fail
      go_ret
      exact ⟨rfl, K3.out.1⟩
    · go_wp2_with fail
      go_ret
      exact ⟨rfl, K3.out.1⟩
    · go_upto_if 57 with fail
      obtain ⟨q, hq⟩ : ∃ q, w3.heap.size = q := ⟨_, rfl⟩
      have hbq := below_new w3 (.cells #[.int .i64 (f - 1), .int .i64 term, .int .i64 1] 26)
      have Q0 := BlockIs.made w3 26 #[.int .i64 (f - 1), .int .i64 term, .int .i64 1]
      rw [hq] at Q0 ⊢
      obtain ⟨wq, hwq⟩ : ∃ wq, w3.alloc (.cells #[.int .i64 (f - 1), .int .i64 term, .int .i64 1] 26) = wq := ⟨_, rfl⟩
      rw [hwq] at Q0 hbq ⊢
      have HQ := Lib.hid (And.intro Q0 (And.intro hbq hq))
      clear Q0 hbq hq hwq
      go_cut [] (fun wx => Hid (ShB W a b c q (beginI f term) wx))
      case first =>
        have S3 := K3.out.2.below HQ.out.2.1 K3.out.2.lt
        have B3 := K3.out.1.trans (HQ.out.2.1.mono K3.out.1.size)
        have hlq : W.heap.size < q := by have := K3.out.2.lt; have := HQ.out.2.2; omega
        by_cases hf1 : f = 1
        · have HZ := HQ.out.1.put3 (.int .i64 0) (.int .i64 0) (.int .i64 0)
          have HR : Hid (ShB W a b c q (beginI f term) (((wq.setCell ⟨q, 0, none⟩ (.int .i64 0)).setCell ⟨q, 1, none⟩ (.int .i64 0)).setCell ⟨q, 2, none⟩ (.int .i64 0))) := Lib.hid (by
            rw [show beginI f term = noIdent from if_pos hf1]
            exact ⟨S3.kept HZ.2 (fun x => by have := Option.some.inj x; omega), HZ.1, below_grown B3 HZ.2 B3.size (by omega), hlq⟩)
          obtain ⟨i0, i1, i2, j0, j1, j2⟩ := HQ.out.1.three
          clear HZ S3 B3
          go_wp2_with fail
          go_meet
          exact HR
        · have HR : Hid (ShB W a b c q (beginI f term) wq) := Lib.hid (by
            rw [show beginI f term = ⟨f - 1, term, 1⟩ from if_neg hf1]
            exact ⟨S3, HQ.out.1, B3, hlq⟩)
          clear S3 B3
          go_wp2_with fail
          go_meet
          exact HR
      case rest =>
        have S := hcut.out
        have ha := begin_ahead (f := f) (term := term) h1 (by omega) h3 h4
        obtain ⟨i, hi⟩ : ∃ i, beginI f term = i := ⟨_, rfl⟩
        rw [hi] at S ha
        obtain ⟨gG, gM, _⟩ := HG.out wc S.bl
        have HHd := Lib.hid (gsegHead_any ρ wc gG.q gM a b c g i)
        rw [HF.out, headR_right ha (by omega)] at HHd
        simp only [show (headU g i).body = headBody i from rfl, headBody_len, show (headU g i).kind = 4 from rfl, show (headU g i).num = g from rfl] at HHd
        have SC := Lib.hid S
        have Ha := Lib.hid ha
        have HT := Lib.hid (And.intro h3 (And.intro h4 (And.intro h1 h2)))
        obtain ⟨c0, c1, c2⟩ := S.cells
        obtain ⟨i0, i1, i2, _⟩ := S.i.three
        unfold IdentI.val at HHd
        clear hcut S ha hi gG gM HQ K3 d0 d1 d2
        go_wp2_with fail
        refine HHd.out.mono ?_
        rintro r w5 ⟨v, rfl, ho, b5⟩
        obtain ⟨X, cx, rfl, hcx, hcm⟩ := own_slice ho
        have hb6 := below_new w5 (.cells #[.int .i64 4, .int .i64 g, .slice X 13 cx] 34)
        have S6 := Lib.hid ((SC.out.on b5).on hb6)
        have U6 := Lib.hid (BlockIs.made w5 34 #[.int .i64 4, .int .i64 g, .slice X 13 cx])
        have X6 := Lib.hid (BytesAt.below (own_reads ho (headU_bd (a := i) (g := g))) hb6)
        have LX := Lib.hid (And.intro hcx (show cx ≤ 9223372036854775807 by unfold maxLen at hcm; omega))
        clear ho b5 hb6 hcx hcm c0 c1 c2 i0 i1 i2 SC HHd
        obtain ⟨w6, hw6⟩ : ∃ w6, w5.alloc (.cells #[.int .i64 4, .int .i64 g, .slice X 13 cx] 34) = w6 := ⟨_, rfl⟩
        rw [hw6] at S6 U6 X6
        have Hw6 := Lib.hid hw6
        clear hw6
        have hsh := headU_right (a := i) hg'.1 hg'.2
        have HSl := Lib.hid (fun w Z k (hz : BytesAt w Z (headBody i)) (h1 : 13 ≤ k) (h2 : k ≤ 9223372036854775807) => lsealed_any w (headU g i) Z k hz (by rw [show (headU g i).body = headBody i from rfl, headBody_len]; exact h1) h2)
        rw [show sealR (headU g i) = (sealB (headU g i), 0) from if_pos hsh] at HSl
        unfold UnitV.val at HSl
        simp only [show (headU g i).body = headBody i from rfl, headBody_len, show (headU g i).kind = 4 from rfl, show (headU g i).num = g from rfl] at HSl
        have hob := headOf_head (a := i) (f := f) (g := g) (by omega) hg'.1 hg'.2 Ha.out
        have hsb := seal_bd hsh (headU_bd (a := i) (g := g))
        obtain ⟨sb, hsb'⟩ : ∃ sb, sealB (headU g i) = sb := ⟨_, rfl⟩
        rw [hsb'] at HSl hob hsb
        have HAh := Lib.hid (fun w (hw : Below W.heap.size W w) Z k (hz : BytesAt w Z sb) (h1 : sb.length ≤ k) (h2 : k ≤ 9223372036854775807) => gsegAhead_any σ τ ρ w (HG.out w hw).1.c (HG.out w hw).1.u (HG.out w hw).1.q (HG.out w hw).2.1 a b c g Z sb k hz h1 h2)
        rw [HF.out, hob] at HAh
        have HSb := Lib.hid hsb
        have Hhu := Lib.hid hsh
        clear hsh hob hsb hsb'
        go_wp2_with fail
        rw [Hw6.out]
        refine Ssa.wp_region_ops (HbI w6 (.agg #[.int .i64 4, .int .i64 g, .slice X 13 cx]) (.agg #[.int .i64 a, .int .i64 b, .int .i64 c]) g sb i) (by kernel_rfl) (by kernel_rfl) (by kernel_rfl) (by kernel_rfl) (fun V => ⟨(Below.refl _ _).drew, fun h => (by cases h), fun h => (by cases h), fun h => (by cases h), fun h => (by cases h), fun h => (by cases h), fun h => (by cases h), fun h => (by cases h), fun h => (by cases h), fun h => (by cases h), fun h => (by cases h), fun h => (by cases h)⟩) ?_ ?_
        · intro hd
          refine Ssa.OpsInv.cons (Ssa.opInv rfl fun D V w hi hall K => ?_) ?_
          · exact Ssa.ov_val (Ssa.exec_load rfl (Ssa.evT rfl rfl) (unit_load8 (U6.out.below K.bl U6.out.lt))) { K with v0 := fun _ => rfl }
          refine Ssa.OpsInv.cons (Ssa.opInv rfl fun D V w hi hall K => ?_) ?_
          · have d0 : D 0 = true := Ssa.dep hall 0 rfl rfl
            refine Ssa.ov_call (Ssa.exec_call rfl rfl (Ssa.evs_cons ((Ssa.evM hd 0 rfl rfl).trans (K.v0 d0)) Ssa.evs_nil) Tryz.func30 (by kernel_rfl) rfl) ((HSl.out w X cx (X6.out.below K.bl) LX.out.1 LX.out.2).mono ?_)
            rintro r w' ⟨v, rfl, ho, hb⟩
            obtain ⟨Z, cz, rfl, q1, q2⟩ := own_slice ho
            exact ⟨_, rfl, { K.world hb with v1 := fun _ _ => ⟨Z, cz, rfl, own_reads ho HSb.out, q1, by unfold maxLen at q2; omega⟩ }⟩
          refine Ssa.OpsInv.cons (Ssa.opInv rfl fun D V w hi hall K => ?_) ?_
          · exact Ssa.ov_val (Ssa.exec_load rfl (Ssa.evT rfl rfl) (shape_load (S6.out.on K.bl).s)) { K with v2 := fun _ => rfl }
          refine Ssa.OpsInv.cons (Ssa.opInv rfl fun D V w hi hall K => ?_) ?_
          · exact Ssa.ov_val (Ssa.exec_move (.inl rfl) (Ssa.evT rfl rfl)) { K with v3 := fun _ => rfl }
          refine Ssa.OpsInv.cons (Ssa.opInv rfl fun D V w hi hall K => ?_) ?_
          · have d1 : D 1 = true := Ssa.dep hall 0 rfl rfl
            have d2 : D 2 = true := Ssa.dep hall 1 rfl rfl
            have d3 : D 3 = true := Ssa.dep hall 2 rfl rfl
            obtain ⟨Z, cz, e1, q0, q1, q2⟩ := K.v1 d1 hi
            refine Ssa.ov_call (Ssa.exec_call rfl rfl (Ssa.evs_cons ((Ssa.evM hd 1 rfl rfl).trans e1) (Ssa.evs_cons ((Ssa.evM hd 2 rfl rfl).trans (K.v2 d2)) (Ssa.evs_cons ((Ssa.evM hd 3 rfl rfl).trans (K.v3 d3)) Ssa.evs_nil))) Tryz.func12 (by kernel_rfl) rfl) ((HAh.out w (S6.out.on K.bl).bl Z cz q0 q1 q2).mono ?_)
            rintro r w' ⟨rfl, hb⟩
            exact ⟨_, rfl, { K.world hb with v1 := fun _ h => (by cases h), v4 := fun _ => rfl }⟩
          refine Ssa.OpsInv.cons (Ssa.opInv rfl fun D V w hi hall K => ?_) ?_
          · have d4 : D 4 = true := Ssa.dep hall 0 rfl rfl
            exact Ssa.ov_val (Ssa.exec_move (.inl rfl) ((Ssa.evM hd 4 rfl rfl).trans (K.v4 d4))) { K with v5 := fun _ => rfl }
          refine Ssa.OpsInv.cons (Ssa.opInv rfl fun D V w hi hall K => ?_) ?_
          · have d5 : D 5 = true := Ssa.dep hall 0 rfl rfl
            exact Ssa.ov_val (Ssa.exec_extract rfl ((Ssa.evM hd 5 rfl rfl).trans (K.v5 d5)) rfl) { K with v6 := fun _ => rfl }
          refine Ssa.OpsInv.cons (Ssa.opInv rfl fun D V w hi hall K => ?_) ?_
          · have d5 : D 5 = true := Ssa.dep hall 0 rfl rfl
            exact Ssa.ov_val (Ssa.exec_extract rfl ((Ssa.evM hd 5 rfl rfl).trans (K.v5 d5)) rfl) { K with v7 := fun _ => rfl }
          refine Ssa.OpsInv.cons (Ssa.opInv rfl fun D V w hi hall K => ?_) ?_
          · have d9 : D 9 = false := by
              cases h : D 9 with
              | false => rfl
              | true => rw [K.s98 h] at hi; cases hi
            exact Ssa.ov_val (Ssa.exec_alloc rfl (ident_new8 w)) { K.world (below_new w _) with v8 := fun _ => ⟨_, rfl, K.bl.size, fun _ => BlockIs.made w _ _, fun h => (by have h' : D 9 = true := h; rw [d9] at h'; cases h')⟩, s98 := fun _ => rfl }
          refine Ssa.OpsInv.cons (Ssa.opInv rfl fun D V w hi hall K => ?_) ?_
          · have d8 : D 8 = true := Ssa.dep hall 0 rfl rfl
            have d6 : D 6 = true := Ssa.dep hall 1 rfl rfl
            have d4 : D 4 = true := Ssa.dep hall 2 rfl rfl
            obtain ⟨p, e8, hpw, hp0, _⟩ := K.v8 d8
            have hB := hp0 hi
            obtain ⟨hZ, hgr⟩ := BlockIs.put3 hB (.int .i64 i.idx) (.int .i64 i.term) (.int .i64 i.kind)
            exact Ssa.ov_skip (Ssa.exec_store rfl ((Ssa.evM hd 8 rfl rfl).trans e8) ((Ssa.evM hd 6 rfl rfl).trans (K.v6 d6)) (ident_store8 hB)) { K with bl := below_grown K.bl hgr K.bl.size hpw, v1 := fun _ h => (by have h' : D 4 = false := h; rw [d4] at h'; cases h'), v8 := fun _ => ⟨p, e8, hpw, fun h => (by cases h), fun _ => hZ⟩, s98 := fun _ => d8 }
          refine Ssa.OpsInv.cons (Ssa.opInv rfl fun D V w hi hall K => ?_) ?_
          · have d7 : D 7 = true := Ssa.dep hall 0 rfl rfl
            exact Ssa.ov_val (Ssa.exec_move (.inr rfl) ((Ssa.evM hd 7 rfl rfl).trans (K.v7 d7))) { K with v10 := fun _ => rfl }
          exact Ssa.OpsInv.nil
        intro D V w7 hall K
        obtain ⟨p, e8, hpw, _, hp1⟩ := K.v8 (hall 8 (by decide))
        have hP := hp1 (hall 9 (by decide))
        have e10 := K.v10 (hall 10 (by decide))
        have hb := K.bl
        simp only [Ssa.mixV, Ssa.putV, List.setIfInBounds_toArray, List.set_cons_zero, List.set_cons_succ, Nat.zero_add, Nat.reduceAdd]
        rw [e8, e10]
        have S7 := Lib.hid (S6.out.on hb)
        have U7 := Lib.hid (U6.out.below hb U6.out.lt)
        have P7 := Lib.hid (show BlockIs w7 p 26 #[.int .i64 i.idx, .int .i64 i.term, .int .i64 i.kind] from hP)
        have HSm := Lib.hid (usmall_any w7 (headU g i) X cx)
        rw [decide_eq_true (show (headU g i).small from ⟨Hhu.out, by rw [show (headU g i).body = headBody i from rfl, headBody_len]; decide⟩)] at HSm
        unfold UnitV.val at HSm
        simp only [show (headU g i).body = headBody i from rfl, headBody_len, show (headU g i).kind = 4 from rfl, show (headU g i).num = g from rfl] at HSm
        clear e8 hpw hp1 hP e10 hb K hall S6 U6 X6 HAh HSl Hw6
        obtain ⟨c0, c1, c2⟩ := S7.out.cells
        obtain ⟨i0, i1, i2, _⟩ := S7.out.i.three
        obtain ⟨u0, u1, u2, _⟩ := U7.out.three
        obtain ⟨p0, p1, p2, _⟩ := P7.out.three
        go_wp2_with fail
        refine HSm.out.mono ?_
        rintro r w8 ⟨rfl, b8⟩
        have S8 := Lib.hid (S7.out.on b8)
        clear b8 HSm c0 c1 c2 i0 i1 i2 u0 u1 u2 p0 p1 p2 S7 U7 P7
        go_wp2_with fail
        obtain ⟨n, hn⟩ : ∃ n : Nat, b = (n : Int) := ⟨b.toNat, by omega⟩
        subst hn
        obtain ⟨LB, hLB⟩ : ∃ LB, LB = w8.heap.size := ⟨_, rfl⟩
        have R8 : Hid (RlG W a (n : Int) c q LB f i 0 [] (.slice none 0 0) [] w8) := Lib.hid ⟨S8.out, Recs.nil Ha.out, BlkRow.nil _ _, rfl, by rw [hLB]; exact S8.out.i.lt, by rw [hLB]; exact Nat.le_refl _⟩
        have hn32 : n ≤ 32 := by omega
        have hn1 : 1 ≤ n := by omega
        clear hLB S8
        go_loopg [19, 20] n (fun gg rv ix wx => ∃ (kk : Nat) (l : List Ent) (qs : List Part), gg = n - kk ∧ kk ≤ n ∧ ix = .int .i64 (kk : Int) ∧ Hid (RlG W a (n : Int) c q LB f i kk l rv qs wx))
        case atStart => exact ⟨0, [], [], rfl, by omega, rfl, R8⟩
        case round =>
          obtain ⟨kk, l, qs, hgk, hk, rfl, hR⟩ := hrel
          have Hg := Lib.hid hgk
          clear hgk
          obtain ⟨c0, c1, c2⟩ := hR.out.s.cells
          by_cases hlt : kk < n
          · obtain ⟨_, _, hPs⟩ := HG.out _ hR.out.s.bl
            go_upto_region 18 with fail
            have hb9 := below_new wr (.cells #[.int .i64 (f + (kk : Int)), .int .i64 term, .int .i64 2, .slice none 0 0] 50)
            have X9 := Lib.hid (BlockIs.made wr 50 #[.int .i64 (f + (kk : Int)), .int .i64 term, .int .i64 2, .slice none 0 0])
            have R9 := Lib.hid (hR.out.on hb9)
            have HP9 := Lib.hid (hPs.below hb9)
            have LB9 := Lib.hid (hR.out.lb)
            obtain ⟨w9, hw9⟩ : ∃ w9, wr.alloc (.cells #[.int .i64 (f + (kk : Int)), .int .i64 term, .int .i64 2, .slice none 0 0] 50) = w9 := ⟨_, rfl⟩
            rw [hw9] at X9 R9 HP9 ⊢
            obtain ⟨x0, hx0⟩ : ∃ x0, wr.heap.size = x0 := ⟨_, rfl⟩
            rw [hx0] at X9 LB9 ⊢
            clear hb9 hw9 hPs hR c0 c1 c2
            go_cut [112] (fun v wx => wx = w9 ∧ ∃ bb : Bool, v = .bool bb ∧ (bb = true → ∃ pp : Part, ps[kk]? = some pp ∧ pp.zs.length ≤ 200))
            case first =>
              by_cases hl : kk < ps.length
              · have hq : ps[kk]? = some ps[kk] := List.getElem?_eq_getElem hl
                generalize hpk : ps[kk] = pp at hq
                obtain ⟨bb, off, rfl, hc⟩ := HP9.out.2 (by intro e; simp [e] at hl)
                have e1 := hc kk pp hq
                unfold Part.val at e1
                have Hq := Lib.hid hq
                clear hpk hc hq
                go_wp2_with fail
                go_meet
                exact ⟨rfl, _, rfl, fun h => ⟨pp, Hq.out, by have := of_decide_eq_true h; omega⟩⟩
              · go_wp2_with fail
                go_meet
                exact ⟨rfl, false, rfl, fun h => (by cases h)⟩
            case rest =>
              obtain ⟨rfl, bb, rfl, hbb⟩ := hcut
              go_upto_if 112 with fail
              go_cut [] (fun wx => Hid (∃ (bd : List Int) (X : Option Addr) (cx : Nat), XeI W a (n : Int) c q LB f i kk l u19 qs x0 ⟨f + kk, term, 2, bd⟩ X cx wx))
              case first =>
                cases bb with
                | true =>
                  obtain ⟨pp, hq, h200⟩ := hbb rfl
                  obtain ⟨bo, off, rfl, hc⟩ := HP9.out.2 (by intro e; simp [e] at hq)
                  have e1 := hc kk pp hq
                  have hok := HP9.out.1 pp (List.mem_of_getElem? hq)
                  have hnn := (HE.out.2 pp (List.mem_of_getElem? hq)).2
                  have hl : kk < ps.length := (List.getElem?_eq_some_iff.1 hq).1
                  unfold Part.val at e1
                  have x3 := X9.out.cell 3
                  have f3 := X9.out.free 3
                  have HZ := X9.out.set1 3 (.slice pp.A pp.zs.length pp.cap)
                  have gZ := grown_at (World.grownBy.refl wc (some x0)) 3 (.slice pp.A pp.zs.length pp.cap)
                  have HR : Hid (∃ (bd : List Int) (X : Option Addr) (cx : Nat), XeI W a (n : Int) c q LB f i kk l u19 qs x0 ⟨f + kk, term, 2, bd⟩ X cx (wc.setCell ⟨x0, 3, none⟩ (.slice pp.A pp.zs.length pp.cap))) := Lib.hid ⟨pp.zs, pp.A, pp.cap, ⟨R9.out.typed gZ LB9.out X9.out (by decide) (by decide), HZ, hok.1.tagged gZ X9.out (by intro k z; rcases k with _ | _ | _ | _ | k <;> simp), hnn, h200, LB9.out⟩⟩
                  clear hq hc hok hnn HZ gZ h200
                  go_wp2_with fail
                  go_meet
                  exact HR
                | false =>
                  go_wp2_with fail
                  go_meet
                  exact Lib.hid ⟨[], none, 0, ⟨R9.out, X9.out, ⟨fun z hz => (by cases hz), fun h => absurd rfl h⟩, fun _ => rfl, Nat.zero_le _, LB9.out⟩⟩
              case rest =>
                obtain ⟨bd, X, cX, HX⟩ := hcut.out
                have HXh := Lib.hid HX
                have hra : aheadI (lastE i l) (f + (kk : Int)) := HX.h.r.la
                have hri : rightB (⟨f + kk, term, 2, bd⟩ : Ent) = true := by
                  have h5 := HX.len
                  refine decide_eq_true ?_
                  have h6 : bd.length ≤ 200 := h5
                  simp only
                  omega
                have hrec : recordR (lastE i l) ⟨f + kk, term, 2, bd⟩ = (recU (lastE i l) ⟨f + kk, term, 2, bd⟩, 0) := by
                  unfold recordR
                  rw [if_neg (by rw [hri]; decide), if_neg (fun x => x hra)]
                obtain ⟨gG, _, _⟩ := HG.out wc HX.h.s.bl
                have HRe := Lib.hid (grecord_any ρ wc gG.q (lastE i l) ⟨f + kk, term, 2, bd⟩ X cX (by have h6 : bd.length ≤ 200 := HX.len; show bd.length ≤ 9223372036854775807; omega) HX.z HX.nn)
                rw [hrec] at HRe
                have Hre := Lib.hid (And.intro hri hra)
                obtain ⟨ra, hra'⟩ : ∃ ra, lastE i l = ra := ⟨_, rfl⟩
                have Hra := Lib.hid hra'
                have hsI := HX.h.s.i
                rw [hra'] at HRe hsI
                simp only [show (recU ra ⟨f + kk, term, 2, bd⟩).kind = 5 from rfl, show (recU ra ⟨f + kk, term, 2, bd⟩).num = f + kk from rfl] at HRe
                obtain ⟨i0, i1, i2, _⟩ := hsI.three
                have x0' := HX.bx.cell 0
                have x1' := HX.bx.cell 1
                have x2' := HX.bx.cell 2
                have x3' := HX.bx.cell 3
                unfold IdentI.val at HRe
                obtain ⟨ub, hub⟩ : ∃ ub, (recU ra ⟨f + kk, term, 2, bd⟩).body = ub := ⟨_, rfl⟩
                rw [hub] at HRe
                have Hub := Lib.hid hub
                clear hcut HX hra hri hrec gG hra' hsI hub hbb HP9 X9 R9
                simp only at x0' x1' x2' x3' HRe
                go_wp2_with fail
                refine HRe.out.mono ?_
                rintro r v1 ⟨v, rfl, ho, b1⟩
                obtain ⟨Y, cy, rfl, hcy, hcm⟩ := own_slice ho
                have hb2 := below_new v1 (.cells #[.int .i64 5, .int .i64 (f + (kk : Int)), .slice Y ub.length cy] 34)
                have U2 := Lib.hid (BlockIs.made v1 34 #[.int .i64 5, .int .i64 (f + (kk : Int)), .slice Y ub.length cy])
                have X2 := Lib.hid ((HXh.out.on b1).on hb2)
                have hbd := HXh.out.z.1
                have Y2 : Hid (BytesAt _ Y (recU ra ⟨f + kk, term, 2, bd⟩).body) := Lib.hid (by rw [Hub.out]; exact BytesAt.below (own_reads ho (by rw [← Hub.out]; exact recU_bd hbd)) hb2)
                obtain ⟨v2, hv2⟩ : ∃ v2, v1.alloc (.cells #[.int .i64 5, .int .i64 (f + (kk : Int)), .slice Y ub.length cy] 34) = v2 := ⟨_, rfl⟩
                rw [hv2] at U2 X2 Y2
                have Hv2 := Lib.hid hv2
                have HSe := Lib.hid (lsealed_any v2 (recU ra ⟨f + kk, term, 2, bd⟩) Y cy Y2.out (by rw [Hub.out]; exact hcy) (by unfold maxLen at hcm; omega))
                have hur := recU_right (a := ra) Hre.out.1
                rw [show sealR (recU ra ⟨f + kk, term, 2, bd⟩) = (sealB (recU ra ⟨f + kk, term, 2, bd⟩), 0) from if_pos hur] at HSe
                unfold UnitV.val at HSe
                simp only [show (recU ra ⟨f + kk, term, 2, bd⟩).kind = 5 from rfl, show (recU ra ⟨f + kk, term, 2, bd⟩).num = f + kk from rfl, Hub.out, seal_len hur.2.2] at HSe
                have Hbd := Lib.hid (And.intro hbd (And.intro (seal_bd hur (recU_bd hbd)) (seal_len hur.2.2)))
                obtain ⟨sb2, hsb2⟩ : ∃ s, sealB (recU ra ⟨f + kk, term, 2, bd⟩) = s := ⟨_, rfl⟩
                rw [hsb2] at HSe Hbd
                have Hsb2 := Lib.hid hsb2
                clear ho b1 hb2 hbd hv2 hur hsb2 hcy hcm x0' x1' x2' x3' i0 i1 i2 HRe
                go_wp2_with fail
                rw [Hv2.out]
                refine HSe.out.mono ?_
                rintro r v3 ⟨v, rfl, ho, b3⟩
                obtain ⟨Z, cz, rfl, _, _⟩ := own_slice ho
                have X3 := Lib.hid ((X2.out.on b3).on (below_new v3 (.cells #[.slice Z 256 cz] 27)))
                have hlb : LB ≤ v2.heap.size := X2.out.h.lb
                have P3 := Lib.hid (show BlkP (v3.alloc (.cells #[.slice Z 256 cz] 27)) LB ⟨Z, sb2, cz⟩ from (show BlkP v3 LB ⟨Z, sb2, cz⟩ from ⟨Hbd.out.2.2, Hbd.out.2.1, by unfold Part.val; simp only [Hbd.out.2.2]; exact own_lift ho (fun b x => by have := (ho.lt b x).1; omega)⟩).below (below_new v3 _))
                have hpv : (⟨Z, sb2, cz⟩ : Part).val = .slice Z 256 cz := by unfold Part.val; simp only [Hbd.out.2.2]
                have Hpv := Lib.hid hpv
                obtain ⟨ii, hi1, hi2, hi3, hi4⟩ := info_parts infoBytes8
                have hql : qs.length = kk := X3.out.h.len
                have Hql := Lib.hid hql
                have HI4 := Lib.hid (And.intro hi1 (And.intro hi2 (And.intro hi3 hi4)))
                have HPu := Lib.hid (fun rv5 v5 (ho : World.ownsRow v5 LB 27 1 rv5 (qs.length + 1) (qs.map Part.val ++ [.slice Z 256 cz])) hg => X3.out.push P3.out (rv' := rv5) (w' := v5) (by rw [Hpv.out]; exact ho) hg)
                have HCe := Lib.hid (fun v5 (h : BlockIs v5 x0 50 #[.int .i64 (f + kk), .int .i64 term, .int .i64 2, .slice X bd.length cX]) => entry_cells h)
                clear ho b3 hlb hpv hi1 hi2 hi3 hi4 hql HSe
                go_wp2_with (at_builtin; refine wpList_append_own _ rfl _ _ 28 rfl LB 27 ii (.slice none 0 0) 1 24 Tryz.underlying28 HI4.out.1 HI4.out.2.1 HI4.out.2.2.1 HI4.out.2.2.2 rfl (by decide) _ _ _ rfl X3.out.h.b.own ⟨v3.heap.size, 0, none⟩ 1 1 [.slice Z 256 cz] rfl rfl (cell_one8 v3 _ _) (fun u hu => by rw [List.mem_singleton.1 hu]; rfl) (by have := Hql.out; unfold maxLen; omega) (by have := Hql.out; omega) X3.out.h.lb ?_; intro rv5 v5 hown hgrow _; have h5 := HPu.out rv5 v5 hown hgrow; obtain ⟨y0, y1, y2, y3⟩ := HCe.out _ h5.2.2)
                have HIn := Lib.hid (segIdent_any v5 ⟨f + kk, term, 2, bd⟩ X cX)
                unfold Ent.ident IdentI.val at HIn
                simp only at HIn
                have H5 := Lib.hid h5
                clear hown hgrow h5 HPu HCe HI4 y0 y1 y2 y3 X2 U2 Y2
                refine HIn.out.mono ?_
                rintro r v6 ⟨rfl, b6⟩
                have S6' := Lib.hid (H5.out.2.1.on b6)
                have B6' := Lib.hid (H5.out.1.below b6)
                obtain ⟨i0, i1, i2, j0, j1, j2⟩ := S6'.out.i.three
                have T6 := Lib.hid (S6'.out.turn ⟨f + kk, term, 2⟩)
                have hlb6 := Lib.hid (show LB ≤ v6.heap.size from by
                  have h1 := X3.out.h.lb
                  have h2 := b6.size
                  have h3 := (H5.out.1.own.lt)
                  obtain ⟨g5, c5, e5, _, hlt5, _⟩ := own_form H5.out.1.own (by simp)
                  have h4 := (h3 g5 (by rw [e5]; rfl)).1
                  omega)
                clear b6 HIn
                go_wp2_with fail
                clear i0 i1 i2 j0 j1 j2
                go_roundg (n - (kk + 1))
                case measure => rw [Hg.out]; omega
                case rel =>
                  refine ⟨kk + 1, l ++ [⟨f + kk, term, 2, bd⟩], qs ++ [⟨Z, sb2, cz⟩], rfl, by omega, by first | rfl | go_num | (rw [IntWalk.wrap64_in _ (by omega)]; rfl), Lib.hid ⟨?_, ?_, ?_, ?_, ?_, ?_⟩⟩
                  · rw [lastE_snoc]
                    exact T6.out.1
                  · exact X3.out.h.r.snoc Hre.out.1 rfl Hbd.out.1
                  · exact B6'.out.old T6.out.2 X3.out.h.ql
                  · rw [rowsE_snoc, Hra.out, Hsb2.out, ← X3.out.h.e]
                    unfold rowsP
                    rw [List.map_append]
                    rfl
                  · exact X3.out.h.ql
                  · exact Nat.le_trans hlb6.out T6.out.2.size
          · obtain rfl : kk = n := by omega
            obtain ⟨A5, c5, hA5, _⟩ := hR.out.b.slice
            subst hA5
            obtain ⟨gG, gM, _⟩ := HG.out _ hR.out.s.bl
            have hch := hR.out.r.ch
            have hll := hR.out.r.len
            have hlne : l ≠ [] := by intro e; rw [e] at hll; simp at hll; omega
            have hrow := hR.out.e
            have hfoot := foot_any (g := g) hch (by omega) hlne kk hll.symm
            have hshut := shut_chainE (g := g) hch (by omega) hlne hg'.1 hg'.2
            rw [hll, hfoot] at hshut
            have hapart := shut_apart (g := g + 1) hch hlne (HNx.out (by omega)) kk (sealB ⟨6, g, footBody (rowsE i l) (lastE i l)⟩)
            have hturned := fun (k : Nat) (hk : k < 2048) => shut_turned (g := g) hch (by omega) hlne hg'.1 hg'.2 kk hll.symm hk
            rw [hfoot] at hturned
            have hhurt := fun (j : Nat) (hj : j < kk) (k : Nat) (hk : k < 2048) (b' : List Int) => shut_hurt (g := g) hch hR.out.r.bd (by omega) (j := j) (by omega) kk hll.symm hk b'
            have hfr : UnitV.right ⟨6, g, footBody (rowsE i l) (lastE i l)⟩ := footU_right hg'.1 hg'.2 _ _
            have HFt := Lib.hid (gsegFoot_any σ τ ρ _ gG.c gG.u gG.q gM a (kk : Int) c g A5 qs c5 hR.out.b.parts)
            rw [HF.out, hrow, Int.toNat_natCast, hfoot] at HFt
            simp only [footBody_len] at HFt
            have hbdF := footBody_bd (rowsE i l) (lastE i l)
            have hflen := footBody_len (rowsE i l) (lastE i l)
            have hrl : ∀ r ∈ rowsE i l, r.length = 256 ∧ ∀ z ∈ r, 0 ≤ z ∧ z < 256 := hR.out.r.row
            have hEN : (rowsE i l).length = kk := by rw [rowsE_len, hll]
            obtain ⟨rs, hrs⟩ : ∃ rs, rowsE i l = rs := ⟨_, rfl⟩
            obtain ⟨fb, hfb⟩ : ∃ fb, footBody (rowsE i l) (lastE i l) = fb := ⟨_, rfl⟩
            rw [hrs] at hrow hapart hturned hhurt HFt hrl hEN hshut hfb hbdF hflen hfr
            rw [hfb] at hapart hturned HFt hshut hbdF hflen hfr
            have HRw := Lib.hid (And.intro hrow (And.intro hrl hEN))
            have HSh := Lib.hid (And.intro hshut (And.intro hapart (And.intro hturned hhurt)))
            have HFb := Lib.hid (And.intro hfr (And.intro hbdF hflen))
            have hql : qs.length = kk := hR.out.len
            have Hql := Lib.hid hql
            rw [hql] at HFt
            obtain ⟨jl, hjl⟩ : ∃ jl, lastE i l = jl := ⟨_, rfl⟩
            have hS := hR.out.s
            rw [hjl] at hS
            have R0 := Lib.hid (show TlG W a (kk : Int) c q LB jl (.slice A5 kk c5) qs wr from ⟨hS, by have := hR.out.b; rw [hql] at this; exact this, hR.out.ql, hR.out.lb⟩)
            rw [hql]
            clear hch hll hlne hrow hfoot hshut hapart hturned hhurt hrl hEN hrs hfb hbdF hflen hfr hql hS hjl hR gG gM
            go_wp2_with fail
            refine HFt.out.mono ?_
            rintro r v1 ⟨v, rfl, ho, b1⟩
            obtain ⟨X, cx, rfl, hcx, hcm⟩ := own_slice ho
            have hb2 := below_new v1 (.cells #[.int .i64 6, .int .i64 g, .slice X 11 cx] 34)
            have U2 := Lib.hid (BlockIs.made v1 34 #[.int .i64 6, .int .i64 g, .slice X 11 cx])
            have R2 := Lib.hid ((R0.out.on b1).on hb2)
            have X2 := Lib.hid (BytesAt.below (own_reads ho HFb.out.2.1) hb2)
            obtain ⟨v2, hv2⟩ : ∃ v2, v1.alloc (.cells #[.int .i64 6, .int .i64 g, .slice X 11 cx] 34) = v2 := ⟨_, rfl⟩
            rw [hv2] at U2 R2 X2
            have Hv2 := Lib.hid hv2
            have HSe := lsealed_any v2 ⟨6, g, fb⟩ X cx X2.out (by show fb.length ≤ cx; rw [HFb.out.2.2]; exact hcx) (by unfold maxLen at hcm; omega)
            rw [show sealR ⟨6, g, fb⟩ = (sealB ⟨6, g, fb⟩, 0) from if_pos HFb.out.1] at HSe
            unfold UnitV.val at HSe
            have hsl := seal_len HFb.out.1.2.2
            simp only [HFb.out.2.2, hsl] at HSe
            have HSe := Lib.hid HSe
            have hsbd := seal_bd HFb.out.1 HFb.out.2.1
            obtain ⟨sb3, hsb3⟩ : ∃ s, sealB ⟨6, g, fb⟩ = s := ⟨_, rfl⟩
            rw [hsb3] at hsl hsbd HSh HSe
            have HS3 := Lib.hid (And.intro hsl hsbd)
            clear ho b1 hb2 hv2 hsl hsbd hsb3 hcx hcm HFt R0
            obtain ⟨u0, u1, u2, _⟩ := U2.out.three
            go_wp2_with fail
            rw [Hv2.out]
            refine HSe.out.mono ?_
            rintro r v3 ⟨v, rfl, ho, b3⟩
            obtain ⟨Z, cz, rfl, hcz, hczm⟩ := own_slice ho
            have U3 := U2.out.below b3 U2.out.lt
            have R3 := Lib.hid (R2.out.on b3)
            have Z3 := Lib.hid (show BlkP v3 0 ⟨Z, sb3, cz⟩ from ⟨HS3.out.1, HS3.out.2, by unfold Part.val; simp only [HS3.out.1]; exact own_lift ho (fun _ _ => Nat.zero_le _)⟩)
            have HZc := Lib.hid (And.intro hcz (And.intro (show cz ≤ 9223372036854775807 by unfold maxLen at hczm; omega) (own_nil_cap ho)))
            have HSm := usmall_any v3 ⟨6, g, fb⟩ X cx
            rw [decide_eq_true (show (⟨6, g, fb⟩ : UnitV).small from ⟨HFb.out.1, by show fb.length ≤ 20; rw [HFb.out.2.2]; decide⟩)] at HSm
            unfold UnitV.val at HSm
            simp only [HFb.out.2.2] at HSm
            have HSm := Lib.hid HSm
            clear ho b3 hcz hczm u0 u1 u2 HSe U2 R2 X2
            obtain ⟨u0, u1, u2, _⟩ := U3.three
            go_wp2_with fail
            refine HSm.out.mono ?_
            rintro r v4 ⟨rfl, b4⟩
            have R4 := Lib.hid (R3.out.on b4)
            have Z4 := Lib.hid (Z3.out.below b4)
            have HShF := Lib.hid (fun w (h : Below W.heap.size W w) g' (y : List Int) Y cy (hy : BytesAt w Y y) (h1 : y.length ≤ cy) (h2 : cy ≤ 9223372036854775807) (hb : BlkRow w LB (.slice A5 kk c5) qs) => gsegShut_any σ τ ρ w (HG.out w h).1.c (HG.out w h).1.u (HG.out w h).1.q (HG.out w h).2.1 a (kk : Int) c g' Y y cy hy h1 h2 A5 qs c5 (BlkRow.parts (by rw [Hql.out]; exact hb)))
            rw [Hql.out, HRw.out.1, Int.toNat_natCast] at HShF
            have HS4 := HShF.out v4 R4.out.s.bl g sb3 Z cz Z4.out.ok.1 (by rw [HS3.out.1]; exact HZc.out.1) HZc.out.2.1 R4.out.b
            rw [HF.out, HSh.out.1, HS3.out.1] at HS4
            have HS4 := Lib.hid HS4
            clear b4 u0 u1 u2 U3 HSm R3 Z3
            obtain ⟨c0, c1, c2⟩ := R4.out.s.cells
            go_wp2_with fail
            refine HS4.out.mono ?_
            rintro r v5 ⟨rfl, b5⟩
            have R5 := Lib.hid (R4.out.on b5)
            have Z5 := Lib.hid (Z4.out.below b5)
            have HS5 := HShF.out v5 R5.out.s.bl (g + 1) sb3 Z cz Z5.out.ok.1 (by rw [HS3.out.1]; exact HZc.out.1) HZc.out.2.1 R5.out.b
            rw [HS3.out.1] at HS5
            have hz5 := HSh.out.2.1
            obtain ⟨z5, hz5'⟩ : ∃ z, shutR sb3 (firstI a (kk : Int) c (g + 1)) (g + 1) kk rs = z := ⟨_, rfl⟩
            rw [hz5'] at HS5 hz5
            have HS5 := Lib.hid HS5
            clear b5 c0 c1 c2 HS4 R4 Z4 hz5'
            obtain ⟨c0, c1, c2⟩ := R5.out.s.cells
            go_wp2_with fail
            refine HS5.out.mono ?_
            rintro r v6 ⟨rfl, b6⟩
            have R6 := Lib.hid (R5.out.on b6)
            have Z6 := Lib.hid (Z5.out.below b6)
            have hb7 := below_new v6 (.cells #[] 5)
            have H7 := Lib.hid (And.intro (BlockIs.made v6 5 #[]) (And.intro ((Z5.out.below b6).below hb7) ((R5.out.on b6).on hb7)))
            clear b6 c0 c1 c2 HS5 R5 Z5 hb7
            go_wp2_with (at_builtin; refine wpList_clone8 rfl _ _ rfl v6.heap.size rfl H7.out.1 Z sb3 256 cz rfl HS3.out.1 (by decide) H7.out.2.1.ok.1 (by decide) ?_; intro g8 cap8 v8 ho8 hg8 hc8 hm8 hgr8)
            obtain ⟨k, hk, hk2⟩ : ∃ k : Nat, bit % 2048 = (k : Int) ∧ k < 2048 := ⟨(bit % 2048).toNat, by omega, by omega⟩
            have HPk := pick_any bit 2048 v8 (by decide) (by decide)
            rw [hk] at HPk
            have HPk := Lib.hid HPk
            have B7 := below_new v6 (.cells #[] 5)
            have hq6 := R6.out.lb
            have T8 := Lib.hid (show TlG W a (kk : Int) c q LB jl (.slice A5 kk c5) qs v8 from by
              have h := H7.out.2.2
              have hk7 := H7.out.1
              have hb8 := h.b.own.lt
              refine ⟨h.s.grown hgr8 (by have := h.ql; omega), ⟨h.b.own.kept hgr8 (.inr (own_block h.b.own hk7 (by decide))), fun x hx => (h.b.blk x hx).kept hgr8 (.inr (fun e => ?_))⟩, h.ql, Nat.le_trans h.lb hgr8.size⟩
              have hlt := ((R6.out.b.blk x hx).own.lt _ e).2
              omega)
            have P8 := Lib.hid (show BlkP v8 v6.heap.size ⟨some ⟨g8, 0, none⟩, sb3, cap8⟩ from ⟨HS3.out.1, HS3.out.2, by unfold Part.val; simp only [HS3.out.1]; exact own_lift ho8 (fun b e => by have e2 : g8 = b := Option.some.inj e; omega)⟩)
            have Z8 := Lib.hid (show BlkP v8 0 ⟨Z, sb3, cz⟩ from H7.out.2.1.kept hgr8 (.inr (fun e => by have := (Z6.out.own.lt _ e).2; omega)))
            have HBd := Lib.hid (show (∀ x ∈ qs, ∀ r, x.val.ownBlock = some r → r < v6.heap.size) ∧ (∀ r, (Value.slice A5 kk c5).ownBlock = some r → r < v6.heap.size) ∧ (∀ r, (⟨Z, sb3, cz⟩ : Part).val.ownBlock = some r → r < v6.heap.size) from ⟨fun x hx r e => ((R6.out.b.blk x hx).own.lt r e).2, fun r e => (R6.out.b.own.lt r e).2, fun r e => (Z6.out.own.lt r e).2⟩)
            have LG8 := Lib.hid (show v6.heap.size ≤ g8 ∧ LB ≤ v6.heap.size from ⟨hg8, hq6⟩)
            have Hk := Lib.hid hk2
            clear ho8 hg8 hc8 hm8 hgr8 B7 hq6 H7 R6 Z6 hk
            refine HPk.out.mono ?_
            rintro r v9 ⟨rfl, rfl⟩
            have hk8 : k / 8 < 256 := by omega
            have ho9 := P8.out.own
            unfold Part.val at ho9
            simp only [HS3.out.1] at ho9
            have cx : v8.cell? ⟨g8, k / 8, none⟩ = some (.int .u8 (sb3.getD (k / 8) 0)) := by
              rw [ho9.cellAt (k / 8) (by omega)]
              unfold u8s
              rw [List.getElem?_map, List.getD_eq_getElem?_getD, List.getElem?_eq_getElem (by rw [HS3.out.1]; exact hk8)]; rfl
            have fx := ho9.frozenAt (k / 8)
            obtain ⟨x8, hx8⟩ : ∃ x, sb3.getD (k / 8) 0 = x := ⟨_, rfl⟩
            rw [hx8] at cx
            have Hx8 := Lib.hid hx8
            clear ho9 hx8
            go_wp2_with fail
            go_region
            clear cx fx
            have hbx : 0 ≤ x8 ∧ x8 < 256 := by
              rw [← Hx8.out, List.getD_eq_getElem?_getD, List.getElem?_eq_getElem (by rw [HS3.out.1]; exact hk8)]
              exact HS3.out.2 _ (List.getElem_mem _)
            rw [xor8 hbx (Nat.mod_lt _ (by decide))]
            have hy8 := xor_byte hbx (Nat.mod_lt k (by decide : 0 < 8))
            have hP9 := P8.out.set (k / 8) (((x8.toNat ^^^ (1 <<< (k % 8)) : Nat) : Int)) hy8
            have T9 := Lib.hid (T8.out.newer hP9.2 LG8.out.2 LG8.out.1 HBd.out.1 HBd.out.2.1)
            have Z9 := Lib.hid (Z8.out.kept hP9.2 (.inr (fun e => by have := HBd.out.2.2 _ e; have := LG8.out.1; omega)))
            have P9 := Lib.hid hP9.1
            have HTn := Lib.hid (show sb3.set (k / 8) (((x8.toNat ^^^ (1 <<< (k % 8)) : Nat) : Int)) = turnB sb3 k by unfold turnB; rw [Hx8.out])
            obtain ⟨w9, hw9⟩ : ∃ w9, v8.setCell ⟨g8, k / 8, none⟩ (.int .u8 (((x8.toNat ^^^ (1 <<< (k % 8)) : Nat) : Int))) = w9 := ⟨_, rfl⟩
            rw [hw9] at T9 Z9 P9 ⊢
            rw [HTn.out] at P9
            have HShG := Lib.hid (fun w (h : Below W.heap.size W w) (y : List Int) Y cy (hy : BytesAt w Y y) (h1 : y.length ≤ cy) (h2 : cy ≤ 9223372036854775807) (qs' : List Part) (hl : qs'.length = kk) (hb : BlkRow w LB (.slice A5 kk c5) qs') => gsegShut_any σ τ ρ w (HG.out w h).1.c (HG.out w h).1.u (HG.out w h).1.q (HG.out w h).2.1 a (kk : Int) c g Y y cy hy h1 h2 A5 qs' c5 (BlkRow.parts (by rw [hl]; exact hb)))
            simp only [HF.out, Int.toNat_natCast] at HShG
            have B9 := (Below.refl w9.heap.size w9).drew
            have T10 := Lib.hid (T9.out.on B9)
            have Z10 := Lib.hid (Z9.out.below B9)
            have hok10 := (P9.out.below B9).ok
            have HS10 := HShG.out w9.drew T10.out.s.bl (turnB sb3 k) (some ⟨g8, 0, none⟩) cap8 hok10.1 hok10.2.1 hok10.2.2 qs Hql.out T10.out.b
            rw [Hql.out, HRw.out.1, show (turnB sb3 k).length = 256 from P9.out.len] at HS10
            have hz10 := HSh.out.2.2.1 k hk2
            obtain ⟨z10, hz10'⟩ : ∃ z, shutR (turnB sb3 k) f g kk rs = z := ⟨_, rfl⟩
            rw [hz10'] at HS10 hz10
            have HS10 := Lib.hid HS10
            clear hP9 hbx hy8 hw9 B9 hok10 hz10' T8 Z8 P8 T9 Z9 P9 HShF
            obtain ⟨c0, c1, c2⟩ := T10.out.s.cells
            go_wp2_with fail
            refine HS10.out.mono ?_
            rintro r v10 ⟨rfl, b10⟩
            have T11 := Lib.hid (T10.out.on b10)
            have Z11 := Lib.hid (Z10.out.below b10)
            have hsz10 := b10.size
            obtain ⟨jn, hjn, hjl⟩ : ∃ j : Nat, turn % (kk : Int) = (j : Int) ∧ j < kk := ⟨(turn % (kk : Int)).toNat, by have := Int.emod_nonneg turn (show (kk : Int) ≠ 0 by omega); omega, by have := Int.emod_nonneg turn (show (kk : Int) ≠ 0 by omega); have := Int.emod_lt_of_pos turn (show (0 : Int) < kk by omega); omega⟩
            have HPj := pick_any turn (kk : Int) v10 (by omega) (by omega)
            rw [hjn] at HPj
            have HPj := Lib.hid HPj
            clear b10 c0 c1 c2 HS10 T10 Z10 hsz10 hjn
            go_wp2_with fail
            refine HPj.out.mono ?_
            rintro r v11 ⟨rfl, rfl⟩
            obtain ⟨gr, cr, e5, hgrB, hgrL, hx1, hx2⟩ := own_form T11.out.b.own (by rw [Hql.out]; omega)
            clear hx1 hx2
            have hjq : jn < qs.length := by rw [Hql.out]; exact hjl
            obtain ⟨rfl, rfl⟩ : A5 = some ⟨gr, 0, none⟩ ∧ c5 = cr := by rw [Hql.out] at e5; simpa using e5
            have hq' : qs[jn]? = some qs[jn] := List.getElem?_eq_getElem hjq
            generalize hpk : qs[jn] = pj at hq'
            have hmem : pj ∈ qs := List.mem_of_getElem? hq'
            have hpj := T11.out.b.blk pj hmem
            have HCj := Lib.hid (fun v (h : TlG W a (kk : Int) c q LB jl (.slice (some ⟨gr, 0, none⟩) kk c5) qs v) => (show v.cell? ⟨gr, jn, none⟩ = some (.slice pj.A 256 pj.cap) ∧ v.frozen? ⟨gr, jn, none⟩ = false from by
              have ho := h.b.own
              rw [Hql.out] at ho
              refine ⟨?_, ho.frozenAt jn⟩
              rw [ho.cellAt jn (by omega), List.getElem?_map, hq']
              show some pj.val = _
              unfold Part.val
              rw [hpj.len]))
            have hb11 := below_new v10 (.cells #[] 5)
            have H11 := Lib.hid (And.intro (BlockIs.made v10 5 #[]) (And.intro (hpj.below hb11).ok (And.intro (T11.out.on hb11) (Z11.out.below hb11))))
            have HT12 := Lib.hid (fun v12 (hg : (v10.alloc (.cells #[] 5)).grownBy v12 (some v10.heap.size)) => H11.out.2.2.1.newer hg T11.out.lb (Nat.le_refl _) (fun x hx r e => ((T11.out.b.blk x hx).own.lt r e).2) (fun r e => (T11.out.b.own.lt r e).2))
            have Hpj := Lib.hid (And.intro hpj (And.intro hq' hmem))
            have HrL := Lib.hid (And.intro hgrB hgrL)
            obtain ⟨cj, fj⟩ := HCj.out _ H11.out.2.2.1
            clear e5 hgrB hgrL hpk hmem hpj hb11 hq' hz10 HPj hjq
            go_wp2_with (at_builtin; refine wpList_clone8 rfl _ _ rfl v10.heap.size rfl H11.out.1 pj.A pj.zs 256 pj.cap rfl Hpj.out.1.len (by decide) H11.out.2.1.1 (by decide) ?_; intro g12 cap12 v12 ho12 hg12 hc12 hm12 hgr12; have h12 := HT12.out v12 hgr12; obtain ⟨d12, e12⟩ := HCj.out v12 h12)
            have T12 := Lib.hid h12
            have hg10 : v10.heap.size ≤ g12 := hg12
            have P12 := Lib.hid (show BlkP v12 v10.heap.size ⟨some ⟨g12, 0, none⟩, pj.zs, cap12⟩ from ⟨Hpj.out.1.len, Hpj.out.1.bd, by unfold Part.val; simp only [Hpj.out.1.len]; exact own_lift ho12 (fun b e => by have e2 : g12 = b := Option.some.inj e; omega)⟩)
            have Z12 := H11.out.2.2.2.kept hgr12 (.inr (fun e => by have := (Z11.out.own.lt _ e).2; omega))
            have hset := BlkRow.set (g := gr) (cap := c5) (ps := qs) (by have h := T12.out.b; rw [← Hql.out] at h; exact h) (P12.out.mono T11.out.lb) jn
            rw [show (⟨some ⟨g12, 0, none⟩, pj.zs, cap12⟩ : Part).val = .slice (some ⟨g12, 0, none⟩) 256 cap12 by unfold Part.val; simp only [Hpj.out.1.len]] at hset
            have S13 := Lib.hid (T12.out.s.grown hset.2 (by have := T12.out.ql; have := HrL.out.1; omega))
            have B13 := Lib.hid (fun x hx => (T12.out.b.blk x hx).kept hset.2 (by have h := own_types (T12.out.b.blk x hx).own T12.out.b.own (by decide); exact h))
            have P13 := Lib.hid (P12.out.kept hset.2 (by have h := own_types P12.out.own T12.out.b.own (by decide); exact h))
            have Z13 := Lib.hid (Z12.kept hset.2 (by have h := own_types Z12.own T12.out.b.own (by decide); exact h))
            have R13 := Lib.hid hset.1
            have L13 := Lib.hid (show (∀ x ∈ qs, ∀ r, x.val.ownBlock = some r → r < g12) ∧ (∀ r, (⟨Z, sb3, cz⟩ : Part).val.ownBlock = some r → r < g12) ∧ LB ≤ v10.heap.size ∧ v10.heap.size ≤ g12 from ⟨fun x hx r e => by have := ((T11.out.b.blk x hx).own.lt r e).2; omega, fun r e => by have := (Z11.out.own.lt r e).2; omega, T11.out.lb, hg10⟩)
            obtain ⟨w13, hw13⟩ : ∃ w13, v12.setCell ⟨gr, jn, none⟩ (.slice (some ⟨g12, 0, none⟩) 256 cap12) = w13 := ⟨_, rfl⟩
            rw [hw13] at S13 B13 P13 Z13 R13 ⊢
            have hown13 := R13.out.own
            have hl13 : (qs.set jn ⟨some ⟨g12, 0, none⟩, pj.zs, cap12⟩).length = qs.length := List.length_set ..
            have cj' : w13.cell? ⟨gr, jn, none⟩ = some (.slice (some ⟨g12, 0, none⟩) 256 cap12) := by
              rw [hl13] at hown13
              rw [hown13.cellAt jn (by rw [Hql.out]; omega), List.getElem?_map, List.getElem?_set_self (by rw [Hql.out]; exact hjl)]
              show some (Part.val _) = _
              unfold Part.val
              simp only [Hpj.out.1.len]
            have ho13 := P13.out.own
            unfold Part.val at ho13
            simp only [Hpj.out.1.len] at ho13
            have cx : w13.cell? ⟨g12, k / 8, none⟩ = some (.int .u8 (pj.zs.getD (k / 8) 0)) := by
              rw [ho13.cellAt (k / 8) (by omega)]
              unfold u8s
              rw [List.getElem?_map, List.getD_eq_getElem?_getD, List.getElem?_eq_getElem (by rw [Hpj.out.1.len]; exact hk8)]; rfl
            have fx := ho13.frozenAt (k / 8)
            obtain ⟨x8', hx8⟩ : ∃ x, pj.zs.getD (k / 8) 0 = x := ⟨_, rfl⟩
            rw [hx8] at cx
            have Hx8' := Lib.hid hx8
            clear ho12 hg12 hc12 hm12 hgr12 h12 d12 e12 cj fj Z12 hset hw13 hown13 hl13 ho13 hx8 hg10 HT12 H11
            have D13 := (Below.refl w13.heap.size w13).drew
            have S14 := Lib.hid (S13.out.on D13)
            have B14 := Lib.hid (fun x hx => (B13.out x hx).below D13)
            have P14 := Lib.hid (P13.out.below D13)
            have Z14 := Lib.hid (Z13.out.below D13)
            have R14 := Lib.hid (R13.out.below D13)
            have fx14 : w13.drew.frozen? ⟨g12, k / 8, none⟩ = false := fx
            have cx14 : w13.drew.cell? ⟨g12, k / 8, none⟩ = some (.int .u8 x8') := cx
            clear D13 S13 B13 P13 Z13 R13
            have r8 : IntKind.i64.wrap ((k : Int) / 8) = (k : Int) / 8 := IntWalk.i64_in _ (by omega)
            have r9 : Int.tmod (k : Int) 8 = (k : Int) % 8 := Int.tmod_eq_emod_of_nonneg (by omega)
            have r10 : IntKind.i64.wrap ((k : Int) % 8) = (k : Int) % 8 := IntWalk.i64_in _ (by omega)
            have r11 : 0 ≤ (k : Int) / 8 := by omega
            have r12 : (k : Int) / 8 < 256 := by omega
            have r13 : ((k : Int) / 8).toNat = k / 8 := by omega
            have r14 : ((k : Int) % 8).toNat = k % 8 := by omega
            have r15 : ¬ (k : Int) % 8 < 0 := by omega
            have r16 : 0 ≤ (k : Int) % 8 := by omega
            go_still_tail 19, (by kernel_rfl)
            clear r8 r9 r10 r11 r12 r13 r14 r15 r16
            change wpList _ _ _ _ _ w13.drew
            obtain ⟨w14, hw14⟩ : ∃ w14, w13.drew = w14 := ⟨_, rfl⟩
            rw [hw14] at S14 B14 P14 Z14 R14 fx14 cx14 ⊢
            clear hw14 cj' fx cx
            have hlq : q < g12 := by have := T12.out.ql; have := L13.out.2.2; omega
            have hn1 : ¬ W.heap.size = g12 := by have := S14.out.sq; omega
            have hn2 : ¬ g12 = W.heap.size := by have := S14.out.sq; omega
            obtain ⟨c0, c1, c2⟩ := S14.out.cells
            have hbx : 0 ≤ x8' ∧ x8' < 256 := by
              rw [← Hx8'.out, List.getD_eq_getElem?_getD, List.getElem?_eq_getElem (by rw [Hpj.out.1.len]; exact hk8)]
              exact Hpj.out.1.bd _ (List.getElem_mem _)
            have hxx := xor8 hbx (Nat.mod_lt k (by decide : 0 < 8))
            have hlx : (qs.set jn ⟨some ⟨g12, 0, none⟩, pj.zs, cap12⟩).length = qs.length := List.length_set ..
            have hT := BlkRow.turn (w := w14) (B := LB) (lv := .slice (some ⟨gr, 0, none⟩) kk c5) (qs := qs) (j := jn) B14.out P14.out L13.out.2.2.1 (own_same (by have h := R14.out.own; rw [Hql.out] at h; exact h) (by rw [hlx]) rfl) L13.out.1 (k / 8) (bits .xor .u8 x8' (2 ^ (k % 8) % 256)) (by rw [hxx]; exact xor_byte hbx (Nat.mod_lt k (by decide : 0 < 8)))
            have Hxx := Lib.hid hxx
            have HT := Lib.hid hT
            have S15 := Lib.hid (S14.out.grown hT.2 hlq)
            have Z15 := Lib.hid (Z14.out.kept hT.2 (.inr (fun e => by have := L13.out.2.1 _ e; omega)))
            clear hT hxx hlx hbx S14 B14 P14 Z14 R14 hlq
            go_wp2_with fail
            clear c0 c1 c2 fx14 cx14 hn1 hn2
            obtain ⟨y, hy⟩ : ∃ y, bits .xor .u8 x8' (2 ^ (k % 8) % 256) = y := ⟨_, rfl⟩
            rw [hy] at HT S15 Z15 Hxx ⊢
            clear hy
            obtain ⟨w15, hw15⟩ : ∃ w15, w14.setCell ⟨g12, k / 8, none⟩ (.int .u8 y) = w15 := ⟨_, rfl⟩
            rw [hw15] at HT S15 Z15 ⊢
            clear hw15
            have hlen : (qs.set jn ⟨some ⟨g12, 0, none⟩, pj.zs.set (k / 8) y, cap12⟩).length = kk := by rw [List.length_set]; exact Hql.out
            have hrs : rowsP (qs.set jn ⟨some ⟨g12, 0, none⟩, pj.zs.set (k / 8) y, cap12⟩) = rs.set jn (turnB (rs.getD jn []) k) := by
              have hget : rs.getD jn [] = pj.zs := by
                have h := rowsP_get Hpj.out.2.1
                rw [HRw.out.1] at h
                rw [List.getD_eq_getElem?_getD, h]; rfl
              rw [hget]
              unfold rowsP turnB
              rw [List.map_set, Hx8'.out, Hxx.out]
              have h := HRw.out.1
              unfold rowsP at h
              rw [h]
            have HS15 := HShG.out w15 S15.out.bl sb3 Z cz Z15.out.ok.1 (by rw [HS3.out.1]; exact HZc.out.1) HZc.out.2.1 _ hlen HT.out.1
            rw [hlen, hrs, HS3.out.1] at HS15
            have hz15 := HSh.out.2.2.2 jn hjl k hk2 sb3
            obtain ⟨z15, hz15'⟩ : ∃ z, shutR sb3 f g kk (rs.set jn (turnB (rs.getD jn []) k)) = z := ⟨_, rfl⟩
            rw [hz15'] at HS15 hz15
            have HS15 := Lib.hid HS15
            clear hz15' hlen hrs
            refine HS15.out.mono ?_
            rintro r v16 ⟨rfl, b16⟩
            have B16 := Lib.hid (S15.out.bl.trans (b16.mono S15.out.bl.size))
            clear b16 HS15
            go_wp2_with fail
            go_ret
            exact ⟨by simp [hz15], B16.out⟩
end Go.Proofs.YtpdfmpegcejmkaaGreatDoor
