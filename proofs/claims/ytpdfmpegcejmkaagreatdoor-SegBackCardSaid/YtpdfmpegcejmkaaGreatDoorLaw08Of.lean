/- What holds amid 'p, i, g := seg.Of(sealed(u), n)', a statement that draws its order and makes boxes. -/
import Derived.Test.YtpdfmpegcejmkaaGreatDoorSegRecord
import Derived.Test.YtpdfmpegcejmkaaGreatDoorKitInv
namespace Go.Proofs.YtpdfmpegcejmkaaGreatDoor
open Go.RowKit
/-- A block without bytes turns: bytes stay. -/
theorem BytesAt.typed {w w' : World} {q : Nat} {t : TypeId} {cs : Array Value} {A : Option Addr} {zs : List Int} (h : BytesAt w A zs) (hg : w.grownBy w' (some q)) (hq : BlockIs w q t cs) (hc : ∀ (i : Nat) (z : Int), cs[i]? ≠ some (Value.int .u8 z)) : BytesAt w' A zs :=
  ⟨h.1, fun hne => by
    obtain ⟨b, off, e, hcl⟩ := h.2 hne
    refine ⟨b, off, e, fun i hi => hg.cell (hcl i hi) (fun e2 => ?_)⟩
    have e3 : b = q := Option.some.inj e2
    subst e3
    have h1 := hcl i hi
    rw [hq.cell] at h1
    exact hc _ _ h1⟩
abbrev zeroE : Array Value := #[.int .i64 0, .int .i64 0, .int .i64 0, .slice none 0 0]
abbrev zeroI : Array Value := #[.int .i64 0, .int .i64 0, .int .i64 0]
theorem zeroE_no (i : Nat) (z : Int) : zeroE[i]? ≠ some (Value.int .u8 z) := by rcases i with _ | _ | _ | _ | i <;> simp [zeroE]
theorem zeroI_no (i : Nat) (z : Int) : zeroI[i]? ≠ some (Value.int .u8 z) := by rcases i with _ | _ | _ | i <;> simp [zeroI]
theorem typed_ne {w : World} {p q : Nat} {t u : TypeId} {cs ds : Array Value} (h : BlockIs w p t cs) (k : BlockIs w q u ds) (hne : t ≠ u) : p ≠ q := by
  rintro rfl
  unfold BlockIs at h k
  rw [h] at k
  injection k with k
  injection k with k1 k2
  exact hne k2
/-- What an entry's value is, of some bytes. -/
def EntAt (w : World) (E : Ent) (x y z v : Value) : Prop := x = .int .i64 E.index ∧ y = .int .i64 E.term ∧ z = .int .i64 E.kind ∧ ∃ X k, v = .slice X E.body.length k ∧ BytesAt w X E.body
theorem EntAt.below {w w' : World} {E : Ent} {x y z v : Value} (h : EntAt w E x y z v) (hb : Below w.heap.size w w') : EntAt w' E x y z v := by
  obtain ⟨h1, h2, h3, X, k, h4, h5⟩ := h
  exact ⟨h1, h2, h3, X, k, h4, h5.below hb⟩
theorem EntAt.typed {w w' : World} {q : Nat} {t : TypeId} {cs : Array Value} {E : Ent} {x y z v : Value} (h : EntAt w E x y z v) (hg : w.grownBy w' (some q)) (hq : BlockIs w q t cs) (hc : ∀ (i : Nat) (z : Int), cs[i]? ≠ some (Value.int .u8 z)) : EntAt w' E x y z v := by
  obtain ⟨h1, h2, h3, X, k, h4, h5⟩ := h
  exact ⟨h1, h2, h3, X, k, h4, h5.typed hg hq hc⟩
/-- Amid the statement: what each operation that has come up has yielded, and the boxes. -/
structure RgI (w0 : World) (U eA : Value) (m n : Int) (sb : List Int) (E : Ent) (a : IdentI) (cd : Int) (f0 f1 f2 f3 fN fO fM fE fI fC fP fQ fS fT : Bool) (v0 v1 v2 v3 vN vO vM vE vI vC vP vQ : Value) (w : World) : Prop where
  bl : Below w0.heap.size w0 w
  h0 : f0 = true → v0 = U
  h1 : f1 = true → fO = false → ∃ Z k, v1 = .slice Z 256 k ∧ BytesAt w Z sb ∧ 256 ≤ k ∧ k ≤ 9223372036854775807
  h2 : f2 = true → v2 = eA
  h3 : f3 = true → v3 = .int .i64 m
  hN : fN = true → vN = .int .i64 n
  hO : fO = true → ∃ x y z v, vO = .tuple #[.agg #[x, y, z, v], a.val, .int .i64 cd] ∧ EntAt w E x y z v
  hM : fM = true → ∃ x y z v, vM = .tuple #[.agg #[x, y, z, v], a.val, .int .i64 cd] ∧ EntAt w E x y z v
  hE : fE = true → ∃ x y z v, vE = .agg #[x, y, z, v] ∧ EntAt w E x y z v
  hI : fI = true → vI = a.val
  hC : fC = true → vC = .int .i64 cd
  hP : fP = true → ∃ p, vP = .pointer (some ⟨p, 0, none⟩) ∧ w0.heap.size ≤ p ∧ (fS = false → BlockIs w p 50 zeroE) ∧ (fS = true → ∃ x y z v, BlockIs w p 50 #[x, y, z, v] ∧ EntAt w E x y z v)
  hQ : fQ = true → ∃ q, vQ = .pointer (some ⟨q, 0, none⟩) ∧ w0.heap.size ≤ q ∧ (fT = false → BlockIs w q 26 zeroI) ∧ (fT = true → BlockIs w q 26 #[.int .i64 a.idx, .int .i64 a.term, .int .i64 a.kind])
  sO : fS = true → fO = true
  sP : fS = true → fP = true
  sQ : fT = true → fQ = true
section
variable {w0 w w' : World} {U eA : Value} {m n : Int} {sb : List Int} {E : Ent} {a : IdentI} {cd : Int} {f0 f1 f2 f3 fN fO fM fE fI fC fP fQ fS fT : Bool} {v0 v1 v2 v3 vN vO vM vE vI vC vP vQ : Value}
theorem RgI.start (w0 : World) : RgI w0 U eA m n sb E a cd false false false false false false false false false false false false false false v0 v1 v2 v3 vN vO vM vE vI vC vP vQ w0.drew :=
  ⟨(Below.refl _ _).drew, fun h => (by cases h), fun h => (by cases h), fun h => (by cases h), fun h => (by cases h), fun h => (by cases h), fun h => (by cases h), fun h => (by cases h), fun h => (by cases h), fun h => (by cases h), fun h => (by cases h), fun h => (by cases h), fun h => (by cases h), fun h => (by cases h), fun h => (by cases h), fun h => (by cases h)⟩
/-- Something is made, or called. -/
theorem RgI.world (k : RgI w0 U eA m n sb E a cd f0 f1 f2 f3 fN fO fM fE fI fC fP fQ fS fT v0 v1 v2 v3 vN vO vM vE vI vC vP vQ w) (hb : Below w.heap.size w w') :
    RgI w0 U eA m n sb E a cd f0 f1 f2 f3 fN fO fM fE fI fC fP fQ fS fT v0 v1 v2 v3 vN vO vM vE vI vC vP vQ w' :=
  ⟨k.bl.trans (hb.mono k.bl.size), k.h0, fun h h' => (by obtain ⟨Z, c, h1, h2, h3⟩ := k.h1 h h'; exact ⟨Z, c, h1, h2.below hb, h3⟩), k.h2, k.h3, k.hN,
    fun h => (by obtain ⟨x, y, z, v, h1, h2⟩ := k.hO h; exact ⟨x, y, z, v, h1, h2.below hb⟩), fun h => (by obtain ⟨x, y, z, v, h1, h2⟩ := k.hM h; exact ⟨x, y, z, v, h1, h2.below hb⟩),
    fun h => (by obtain ⟨x, y, z, v, h1, h2⟩ := k.hE h; exact ⟨x, y, z, v, h1, h2.below hb⟩), k.hI, k.hC,
    fun h => (by
      obtain ⟨p, h1, h2, h3, h4⟩ := k.hP h
      exact ⟨p, h1, h2, fun hf => (h3 hf).below hb (h3 hf).lt, fun hf => (by obtain ⟨x, y, z, v, h5, h6⟩ := h4 hf; exact ⟨x, y, z, v, h5.below hb h5.lt, h6.below hb⟩)⟩),
    fun h => (by
      obtain ⟨q, h1, h2, h3, h4⟩ := k.hQ h
      exact ⟨q, h1, h2, fun hf => (h3 hf).below hb (h3 hf).lt, fun hf => (h4 hf).below hb (h4 hf).lt⟩), k.sO, k.sP, k.sQ⟩
theorem RgI.op0 (k : RgI w0 U eA m n sb E a cd f0 f1 f2 f3 fN fO fM fE fI fC fP fQ fS fT v0 v1 v2 v3 vN vO vM vE vI vC vP vQ w) : RgI w0 U eA m n sb E a cd true f1 f2 f3 fN fO fM fE fI fC fP fQ fS fT U v1 v2 v3 vN vO vM vE vI vC vP vQ w := { k with h0 := fun _ => rfl }
theorem RgI.op2 (k : RgI w0 U eA m n sb E a cd f0 f1 f2 f3 fN fO fM fE fI fC fP fQ fS fT v0 v1 v2 v3 vN vO vM vE vI vC vP vQ w) : RgI w0 U eA m n sb E a cd f0 f1 true f3 fN fO fM fE fI fC fP fQ fS fT v0 v1 eA v3 vN vO vM vE vI vC vP vQ w := { k with h2 := fun _ => rfl }
theorem RgI.op3 (k : RgI w0 U eA m n sb E a cd f0 f1 f2 f3 fN fO fM fE fI fC fP fQ fS fT v0 v1 v2 v3 vN vO vM vE vI vC vP vQ w) : RgI w0 U eA m n sb E a cd f0 f1 f2 true fN fO fM fE fI fC fP fQ fS fT v0 v1 v2 (.int .i64 m) vN vO vM vE vI vC vP vQ w := { k with h3 := fun _ => rfl }
theorem RgI.opN (k : RgI w0 U eA m n sb E a cd f0 f1 f2 f3 fN fO fM fE fI fC fP fQ fS fT v0 v1 v2 v3 vN vO vM vE vI vC vP vQ w) : RgI w0 U eA m n sb E a cd f0 f1 f2 f3 true fO fM fE fI fC fP fQ fS fT v0 v1 v2 v3 (.int .i64 n) vO vM vE vI vC vP vQ w := { k with hN := fun _ => rfl }
theorem RgI.op1 (k : RgI w0 U eA m n sb E a cd f0 f1 f2 f3 fN fO fM fE fI fC fP fQ fS fT v0 v1 v2 v3 vN vO vM vE vI vC vP vQ w) {Z : Option Addr} {c : Nat} (h1 : BytesAt w Z sb) (h2 : 256 ≤ c) (h3 : c ≤ 9223372036854775807) : RgI w0 U eA m n sb E a cd f0 true f2 f3 fN fO fM fE fI fC fP fQ fS fT v0 (.slice Z 256 c) v2 v3 vN vO vM vE vI vC vP vQ w := { k with h1 := fun _ _ => ⟨Z, c, rfl, h1, h2, h3⟩ }
theorem RgI.opO (k : RgI w0 U eA m n sb E a cd f0 f1 f2 f3 fN fO fM fE fI fC fP fQ fS fT v0 v1 v2 v3 vN vO vM vE vI vC vP vQ w) {x y z v : Value} (h : EntAt w E x y z v) : RgI w0 U eA m n sb E a cd f0 f1 f2 f3 fN true fM fE fI fC fP fQ fS fT v0 v1 v2 v3 vN (.tuple #[.agg #[x, y, z, v], a.val, .int .i64 cd]) vM vE vI vC vP vQ w := { k with h1 := fun _ h => (by cases h), hO := fun _ => ⟨x, y, z, v, rfl, h⟩, sO := fun _ => rfl }
theorem RgI.opM (k : RgI w0 U eA m n sb E a cd f0 f1 f2 f3 fN fO fM fE fI fC fP fQ fS fT v0 v1 v2 v3 vN vO vM vE vI vC vP vQ w) (h : fO = true) : RgI w0 U eA m n sb E a cd f0 f1 f2 f3 fN fO true fE fI fC fP fQ fS fT v0 v1 v2 v3 vN vO vO vE vI vC vP vQ w := { k with hM := fun _ => k.hO h }
theorem RgI.opE (k : RgI w0 U eA m n sb E a cd f0 f1 f2 f3 fN fO fM fE fI fC fP fQ fS fT v0 v1 v2 v3 vN vO vM vE vI vC vP vQ w) (h : fM = true) : ∃ x y z v, vM = .tuple #[.agg #[x, y, z, v], a.val, .int .i64 cd] ∧ RgI w0 U eA m n sb E a cd f0 f1 f2 f3 fN fO fM true fI fC fP fQ fS fT v0 v1 v2 v3 vN vO vM (.agg #[x, y, z, v]) vI vC vP vQ w := by
  obtain ⟨x, y, z, v, h1, h2⟩ := k.hM h
  exact ⟨x, y, z, v, h1, { k with hE := fun _ => ⟨x, y, z, v, rfl, h2⟩ }⟩
theorem RgI.opI (k : RgI w0 U eA m n sb E a cd f0 f1 f2 f3 fN fO fM fE fI fC fP fQ fS fT v0 v1 v2 v3 vN vO vM vE vI vC vP vQ w) : RgI w0 U eA m n sb E a cd f0 f1 f2 f3 fN fO fM fE true fC fP fQ fS fT v0 v1 v2 v3 vN vO vM vE a.val vC vP vQ w := { k with hI := fun _ => rfl }
theorem RgI.opC (k : RgI w0 U eA m n sb E a cd f0 f1 f2 f3 fN fO fM fE fI fC fP fQ fS fT v0 v1 v2 v3 vN vO vM vE vI vC vP vQ w) : RgI w0 U eA m n sb E a cd f0 f1 f2 f3 fN fO fM fE fI true fP fQ fS fT v0 v1 v2 v3 vN vO vM vE vI (.int .i64 cd) vP vQ w := { k with hC := fun _ => rfl }
theorem RgI.opP (k : RgI w0 U eA m n sb E a cd f0 f1 f2 f3 fN fO fM fE fI fC fP fQ fS fT v0 v1 v2 v3 vN vO vM vE vI vC vP vQ w) (hP : fP = false) : RgI w0 U eA m n sb E a cd f0 f1 f2 f3 fN fO fM fE fI fC true fQ fS fT v0 v1 v2 v3 vN vO vM vE vI vC (.pointer (some ⟨w.heap.size, 0, none⟩)) vQ (w.alloc (.cells zeroE 50)) := by
  have hb := below_new w (.cells zeroE 50)
  have k' := k.world hb
  exact { k' with hP := fun _ => ⟨_, rfl, k.bl.size, fun _ => BlockIs.made w 50 zeroE, fun h => by rw [k.sP h] at hP; cases hP⟩, sP := fun _ => rfl }
theorem RgI.opQ (k : RgI w0 U eA m n sb E a cd f0 f1 f2 f3 fN fO fM fE fI fC fP fQ fS fT v0 v1 v2 v3 vN vO vM vE vI vC vP vQ w) (hQ : fQ = false) : RgI w0 U eA m n sb E a cd f0 f1 f2 f3 fN fO fM fE fI fC fP true fS fT v0 v1 v2 v3 vN vO vM vE vI vC vP (.pointer (some ⟨w.heap.size, 0, none⟩)) (w.alloc (.cells zeroI 26)) := by
  have hb := below_new w (.cells zeroI 26)
  have k' := k.world hb
  exact { k' with hQ := fun _ => ⟨_, rfl, k.bl.size, fun _ => BlockIs.made w 26 zeroI, fun h => by rw [k.sQ h] at hQ; cases hQ⟩, sQ := fun _ => rfl }
/-- The entry is stored in its box. -/
theorem RgI.storeP (k : RgI w0 U eA m n sb E a cd f0 f1 f2 f3 fN fO fM fE fI fC fP fQ fS fT v0 v1 v2 v3 vN vO vM vE vI vC vP vQ w) (h1 : fO = true) (h2 : fE = true) (h3 : fP = true) (h4 : fS = false) :
    ∃ p x y z v, vP = .pointer (some ⟨p, 0, none⟩) ∧ vE = .agg #[x, y, z, v] ∧ BlockIs w p 50 zeroE ∧ (∃ X c, v = .slice X E.body.length c) ∧ x = .int .i64 E.index ∧ y = .int .i64 E.term ∧ z = .int .i64 E.kind ∧
      RgI w0 U eA m n sb E a cd f0 f1 f2 f3 fN fO fM fE fI fC fP fQ true fT v0 v1 v2 v3 vN vO vM vE vI vC vP vQ ((((w.setCell ⟨p, 0, none⟩ x).setCell ⟨p, 1, none⟩ y).setCell ⟨p, 2, none⟩ z).setCell ⟨p, 3, none⟩ v) := by
  subst h1
  subst h2
  subst h3
  subst h4
  obtain ⟨p, h1, h2, h3, _⟩ := k.hP rfl
  obtain ⟨x, y, z, v, h5, h6⟩ := k.hE rfl
  have hB := h3 rfl
  obtain ⟨hZ, hg⟩ := BlockIs.four hB x y z v
  have ht := fun {x y z v : Value} (h : EntAt w E x y z v) => h.typed hg hB zeroE_no
  refine ⟨p, x, y, z, v, h1, h5, hB, ⟨_, _, h6.2.2.2.choose_spec.choose_spec.1⟩, h6.1, h6.2.1, h6.2.2.1, ⟨below_grown k.bl hg k.bl.size h2, k.h0, fun _ h => (by cases h), k.h2, k.h3, k.hN, fun h => (by obtain ⟨x, y, z, v, h1, h2⟩ := k.hO h; exact ⟨x, y, z, v, h1, ht h2⟩), fun h => (by obtain ⟨x, y, z, v, h1, h2⟩ := k.hM h; exact ⟨x, y, z, v, h1, ht h2⟩), fun h => (by obtain ⟨x, y, z, v, h1, h2⟩ := k.hE h; exact ⟨x, y, z, v, h1, ht h2⟩), k.hI, k.hC,
    fun _ => ⟨p, h1, h2, fun h => (by cases h), fun _ => ⟨x, y, z, v, hZ, ht h6⟩⟩, fun h => ?_, fun _ => rfl, fun _ => rfl, k.sQ⟩⟩
  obtain ⟨q, h7, h8, h9, h10⟩ := k.hQ h
  have hne : ∀ {cs : Array Value}, BlockIs w q 26 cs → some q ≠ some p := fun hq e => typed_ne hB hq (by decide) (Option.some.inj e).symm
  exact ⟨q, h7, h8, fun hf => (h9 hf).kept hg (hne (h9 hf)), fun hf => (h10 hf).kept hg (hne (h10 hf))⟩
/-- The ident is stored in its box. -/
theorem RgI.storeQ (k : RgI w0 U eA m n sb E a cd f0 f1 f2 f3 fN fO fM fE fI fC fP fQ fS fT v0 v1 v2 v3 vN vO vM vE vI vC vP vQ w) (h1 : fO = true) (h2 : fI = true) (h3 : fQ = true) (h4 : fT = false) :
    ∃ q, vQ = .pointer (some ⟨q, 0, none⟩) ∧ vI = a.val ∧ BlockIs w q 26 zeroI ∧
      RgI w0 U eA m n sb E a cd f0 f1 f2 f3 fN fO fM fE fI fC fP fQ fS true v0 v1 v2 v3 vN vO vM vE vI vC vP vQ (((w.setCell ⟨q, 0, none⟩ (.int .i64 a.idx)).setCell ⟨q, 1, none⟩ (.int .i64 a.term)).setCell ⟨q, 2, none⟩ (.int .i64 a.kind)) := by
  have h5 := k.hI h2
  subst h1
  subst h2
  subst h3
  subst h4
  obtain ⟨q, h1, h2, h3, _⟩ := k.hQ rfl
  have hB := h3 rfl
  obtain ⟨hZ, hg⟩ := BlockIs.put3 hB (.int .i64 a.idx) (.int .i64 a.term) (.int .i64 a.kind)
  have ht := fun {x y z v : Value} (h : EntAt w E x y z v) => h.typed hg hB zeroI_no
  refine ⟨q, h1, h5, hB, ⟨below_grown k.bl hg k.bl.size h2, k.h0, fun _ h => (by cases h), k.h2, k.h3, k.hN, fun h => (by obtain ⟨x, y, z, v, h1, h2⟩ := k.hO h; exact ⟨x, y, z, v, h1, ht h2⟩), fun h => (by obtain ⟨x, y, z, v, h1, h2⟩ := k.hM h; exact ⟨x, y, z, v, h1, ht h2⟩), fun h => (by obtain ⟨x, y, z, v, h1, h2⟩ := k.hE h; exact ⟨x, y, z, v, h1, ht h2⟩), k.hI, k.hC, fun h => ?_,
    fun _ => ⟨q, h1, h2, fun h => (by cases h), fun _ => hZ⟩, k.sO, k.sP, fun _ => rfl⟩⟩
  obtain ⟨p, h7, h8, h9, h10⟩ := k.hP h
  have hne : ∀ {cs : Array Value}, BlockIs w p 50 cs → some p ≠ some q := fun hp e => typed_ne hp hB (by decide) (Option.some.inj e)
  exact ⟨p, h7, h8, fun hf => (h9 hf).kept hg (hne (h9 hf)), fun hf => (by obtain ⟨x, y, z, v, h11, h12⟩ := h10 hf; exact ⟨x, y, z, v, h11.kept hg (hne h11), ht h12⟩)⟩
end
/-- The statement of 14 operations, of 15 (the number one more). -/
def rgA (w0 : World) (U eA : Value) (m : Int) (sb : List Int) (E : Ent) (a : IdentI) (cd : Int) (D : Nat → Bool) (V : Nat → Value) (w : World) : Prop := RgI w0 U eA m m sb E a cd (D 0) (D 1) (D 2) (D 3) (D 3) (D 4) (D 5) (D 6) (D 7) (D 8) (D 9) (D 10) (D 11) (D 12) (V 0) (V 1) (V 2) (V 3) (V 3) (V 4) (V 5) (V 6) (V 7) (V 8) (V 9) (V 10) w ∧ (D 13 = true → V 13 = .int .i64 cd)
def rgB (w0 : World) (U eA : Value) (m n : Int) (sb : List Int) (E : Ent) (a : IdentI) (cd : Int) (D : Nat → Bool) (V : Nat → Value) (w : World) : Prop := RgI w0 U eA m n sb E a cd (D 0) (D 1) (D 2) (D 3) (D 4) (D 5) (D 6) (D 7) (D 8) (D 9) (D 10) (D 11) (D 12) (D 13) (V 0) (V 1) (V 2) (V 3) (V 4) (V 5) (V 6) (V 7) (V 8) (V 9) (V 10) (V 11) w ∧ (D 14 = true → V 14 = .int .i64 cd)
theorem unit_load {w : World} {g : Nat} {x y : Int} {A : Option Addr} {n c : Nat} (h : BlockIs w g 34 #[.int .i64 x, .int .i64 y, .slice A n c]) : (Instr.loadAt 34 (.pointer (some ⟨g, 0, none⟩))).run Tryz.prog w = .ok (.agg #[.int .i64 x, .int .i64 y, .slice A n c]) w := by
  obtain ⟨h0, h1, h2, _⟩ := h.three
  go_simp
theorem int_load {w : World} {a : Addr} {x : Int} (h : w.cell? a = some (.int .i64 x)) : (Instr.loadAt 3 (.pointer (some a))).run Tryz.prog w = .ok (.int .i64 x) w := by go_simp
theorem entry_new (w : World) : (Instr.alloc 50 true (.tuple #[])).run Tryz.prog w = .ok (.pointer (some ⟨w.heap.size, 0, none⟩)) (w.alloc (.cells zeroE 50)) := by
  unfold zeroE
  go_simp
theorem ident_new (w : World) : (Instr.alloc 26 true (.tuple #[])).run Tryz.prog w = .ok (.pointer (some ⟨w.heap.size, 0, none⟩)) (w.alloc (.cells zeroI 26)) := by
  unfold zeroI
  go_simp
theorem entry_field (g : Nat) (w : World) : (Instr.fieldAt 50 (.pointer (some ⟨g, 0, none⟩)) 0).run Tryz.prog w = .ok (.pointer (some ⟨g, 0, none⟩)) w := by go_simp
theorem entry_store {w : World} {g : Nat} {x y z : Int} {A : Option Addr} {n c : Nat} (h : BlockIs w g 50 zeroE) : (Instr.storeAt 50 (.pointer (some ⟨g, 0, none⟩)) (.agg #[.int .i64 x, .int .i64 y, .int .i64 z, .slice A n c])).run Tryz.prog w = .ok () ((((w.setCell ⟨g, 0, none⟩ (.int .i64 x)).setCell ⟨g, 1, none⟩ (.int .i64 y)).setCell ⟨g, 2, none⟩ (.int .i64 z)).setCell ⟨g, 3, none⟩ (.slice A n c)) := by
  have h0 := h.cell 0
  have h1 := h.cell 1
  have h2 := h.cell 2
  have h3 := h.cell 3
  have f0 := h.free 0
  have f1 := h.free 1
  have f2 := h.free 2
  have f3 := h.free 3
  go_simp
theorem ident_store {w : World} {g : Nat} {x y z : Int} (h : BlockIs w g 26 zeroI) : (Instr.storeAt 26 (.pointer (some ⟨g, 0, none⟩)) (.agg #[.int .i64 x, .int .i64 y, .int .i64 z])).run Tryz.prog w = .ok () (((w.setCell ⟨g, 0, none⟩ (.int .i64 x)).setCell ⟨g, 1, none⟩ (.int .i64 y)).setCell ⟨g, 2, none⟩ (.int .i64 z)) := by
  obtain ⟨h0, h1, h2, f0, f1, f2⟩ := h.three
  go_simp
theorem wrap_one {n : Int} (h1 : 1 ≤ n) (h2 : n ≤ 1099511627776) : IntKind.i64.wrap (n + 1) = n + 1 := by rw [IntKind.wrap_i64]; omega
end Go.Proofs.YtpdfmpegcejmkaaGreatDoor
