/- Blocks of records, one by one, and what a bit that is turned does: plain mathematics. -/
import Derived.Test.YtpdfmpegcejmkaaGreatDoorSegChain
import Derived.Test.YtpdfmpegcejmkaaGreatDoorMarkV
namespace Go.Proofs.YtpdfmpegcejmkaaGreatDoor
open Mx
/-- What blocks tell, one by one, from an index on. -/
def tellsR : Int → List (List Int) → List (Ent × IdentI)
  | _, [] => []
  | f, b :: l => ((ofR b f).1, (ofR b f).2.1) :: tellsR (f + 1) l
theorem tellsR_get : ∀ (l : List (List Int)) (f : Int) (j : Nat) (b : List Int), l[j]? = some b → (tellsR f l)[j]? = some ((ofR b (f + j)).1, (ofR b (f + j)).2.1)
  | [], _, j, b, h => by simp at h
  | x :: l, f, 0, b, h => by
    obtain rfl : x = b := by simpa using h
    show some _ = _
    rw [show f + ((0 : Nat) : Int) = f by omega]
  | x :: l, f, j + 1, b, h => by
    have := tellsR_get l (f + 1) j b (by simpa using h)
    show (tellsR (f + 1) l)[j]? = _
    rw [this, show f + 1 + (j : Int) = f + ((j + 1 : Nat) : Int) by omega]
theorem tellsR_len : ∀ (l : List (List Int)) (f : Int), (tellsR f l).length = l.length
  | [], _ => rfl
  | _ :: l, f => by show (tellsR (f + 1) l).length + 1 = _; rw [tellsR_len l]; rfl
theorem ents_ok : ∀ (l : List (List Int)) (f : Int), (∀ (j : Nat) (b : List Int), l[j]? = some b → (ofR b (f + j)).2.2 = 0) → entsR f l = .ok (tellsR f l)
  | [], _, _ => rfl
  | x :: l, f, h => by
    have h0 := h 0 x rfl
    rw [show f + ((0 : Nat) : Int) = f by omega] at h0
    show (if (ofR x f).2.2 ≠ 0 then _ else _) = _
    rw [if_neg (fun e => e h0), ents_ok l (f + 1) (fun j b hb => by
      have := h (j + 1) b (by simpa using hb)
      rw [show f + ((j + 1 : Nat) : Int) = f + 1 + (j : Int) by omega] at this
      exact this)]
    rfl
theorem ents_err : ∀ (l : List (List Int)) (f : Int) (k : Nat) (b : List Int), l[k]? = some b → (∀ (j : Nat) (b' : List Int), j < k → l[j]? = some b' → (ofR b' (f + j)).2.2 = 0) → (ofR b (f + k)).2.2 ≠ 0 → entsR f l = .error (ofR b (f + k)).2.2
  | [], _, k, b, h, _, _ => by simp at h
  | x :: l, f, 0, b, h, _, hn => by
    obtain rfl : x = b := by simpa using h
    rw [show f + ((0 : Nat) : Int) = f by omega] at hn ⊢
    show (if (ofR x f).2.2 ≠ 0 then _ else _) = _
    rw [if_pos hn]
  | x :: l, f, k + 1, b, h, ho, hn => by
    have h0 := ho 0 x (by omega) rfl
    rw [show f + ((0 : Nat) : Int) = f by omega] at h0
    rw [show f + ((k + 1 : Nat) : Int) = f + 1 + (k : Int) by omega] at hn ⊢
    show (if (ofR x f).2.2 ≠ 0 then _ else _) = _
    rw [if_neg (fun e => e h0), ents_err l (f + 1) k b (by simpa using h) (fun j b' hj hb => by
      have := ho (j + 1) b' (by omega) (by simpa using hb)
      rw [show f + ((j + 1 : Nat) : Int) = f + 1 + (j : Int) by omega] at this
      exact this) hn]
theorem ents_ne : ∀ {l : List (List Int)} {f n : Int}, entsR f l = .error n → n ≠ 0
  | [], _, _, h => by cases h
  | x :: l, f, n, h => by
    have h : (if (ofR x f).2.2 ≠ 0 then Except.error (ofR x f).2.2 else match entsR (f + 1) l with | .error n => .error n | .ok r => .ok (((ofR x f).1, (ofR x f).2.1) :: r)) = Except.error n := h
    by_cases h0 : (ofR x f).2.2 ≠ 0
    · rw [if_pos h0] at h
      injection h with h
      rw [← h]; exact h0
    · rw [if_neg h0] at h
      cases h2 : entsR (f + 1) l with
      | error e =>
        rw [h2] at h
        injection h with h
        rw [← h]
        exact ents_ne h2
      | ok r => rw [h2] at h; cases h
/-- One ident is the one ahead of the next. -/
def follows (x y : Ent × IdentI) : Prop := y.2.idx = x.1.index ∧ y.2.term = x.1.term ∧ y.2.kind = x.1.kind
instance (x y : Ent × IdentI) : Decidable (follows x y) := by unfold follows; exact inferInstance
theorem chain_of : ∀ (l : List (Ent × IdentI)), (∀ (i : Nat) (x y : Ent × IdentI), l[i]? = some x → l[i + 1]? = some y → follows x y) → chainR l = true
  | [], _ => rfl
  | [_], _ => rfl
  | x :: y :: l, h => by
    show (decide (y.2.idx = x.1.index ∧ y.2.term = x.1.term ∧ y.2.kind = x.1.kind) && chainR (y :: l)) = true
    rw [chain_of (y :: l) (fun i a b ha hb => h (i + 1) a b (by simpa using ha) (by simpa using hb)), Bool.and_true]
    exact decide_eq_true (h 0 x y rfl rfl)
theorem chain_not : ∀ (l : List (Ent × IdentI)) (i : Nat) (x y : Ent × IdentI), l[i]? = some x → l[i + 1]? = some y → ¬ follows x y → chainR l = false
  | [], _, _, _, h, _, _ => by simp at h
  | [_], _, _, _, _, h, _ => by simp at h
  | a :: b :: l, 0, x, y, hx, hy, hn => by
    obtain rfl : a = x := by simpa using hx
    obtain rfl : b = y := by simpa using hy
    show (decide (b.2.idx = a.1.index ∧ b.2.term = a.1.term ∧ b.2.kind = a.1.kind) && chainR (b :: l)) = false
    rw [show decide (b.2.idx = a.1.index ∧ b.2.term = a.1.term ∧ b.2.kind = a.1.kind) = false from decide_eq_false hn, Bool.false_and]
  | a :: b :: l, i + 1, x, y, hx, hy, hn => by
    show (decide (b.2.idx = a.1.index ∧ b.2.term = a.1.term ∧ b.2.kind = a.1.kind) && chainR (b :: l)) = false
    rw [chain_not (b :: l) i x y (by simpa using hx) (by simpa using hy) hn, Bool.and_false]
/-- The last ident that blocks tell. -/
def lastR (f : Int) (l : List (List Int)) : IdentI := match (tellsR f l).getLast? with | some x => x.1.ident | none => noIdent
theorem foot_err {f g : Int} {many : Nat} {rows : List (List Int)} {n : Int} (hf : 0 ≤ f) (hm : rows.length = many) (h : entsR f rows = .error n) : footR f g many rows = (noUnit, n) := by
  unfold footR
  rw [if_neg (by rintro (x | x) <;> omega), h]
theorem foot_order {f g : Int} {many : Nat} {rows : List (List Int)} (hf : 0 ≤ f) (hm : rows.length = many) (h : entsR f rows = .ok (tellsR f rows)) (hc : chainR (tellsR f rows) = false) : footR f g many rows = (noUnit, 12) := by
  unfold footR
  rw [if_neg (by rintro (x | x) <;> omega), h]
  simp only
  rw [if_pos hc]
theorem foot_done {f g : Int} {many : Nat} {rows : List (List Int)} (hf : 0 ≤ f) (hm : rows.length = many) (h : entsR f rows = .ok (tellsR f rows)) (hc : chainR (tellsR f rows) = true) : footR f g many rows = (⟨6, g, footBody rows (lastR f rows)⟩, 0) := by
  unfold footR
  rw [if_neg (by rintro (x | x) <;> omega), h]
  simp only
  rw [if_neg (by rw [hc]; decide)]
  rfl
/-- What one of the blocks tells. -/
def tellAt (f : Int) (rows : List (List Int)) (j : Nat) : Ent × IdentI := ((ofR (rows.getD j []) (f + j)).1, (ofR (rows.getD j []) (f + j)).2.1)
theorem tellAt_get {f : Int} {rows : List (List Int)} {j : Nat} (h : j < rows.length) : (tellsR f rows)[j]? = some (tellAt f rows j) := by
  rw [tellsR_get rows f j rows[j] (List.getElem?_eq_getElem h)]
  unfold tellAt
  rw [List.getD_eq_getElem?_getD, List.getElem?_eq_getElem h]; rfl
theorem lastR_at {f : Int} {rows : List (List Int)} {m : Nat} (h : rows.length = m + 1) : lastR f rows = (tellAt f rows m).1.ident := by
  unfold lastR
  rw [List.getLast?_eq_getElem?, tellsR_len, h, Nat.add_sub_cancel, tellAt_get (by omega)]
theorem chain_all {f : Int} {rows : List (List Int)} {m : Nat} (h : rows.length = m + 1) (hf : ∀ j, j < m → follows (tellAt f rows j) (tellAt f rows (j + 1))) : chainR (tellsR f rows) = true := by
  refine chain_of _ fun i x y hx hy => ?_
  have hl : i + 1 < rows.length := by
    have := (List.getElem?_eq_some_iff.1 hy).1
    rwa [tellsR_len] at this
  rw [tellAt_get (by omega)] at hx
  rw [tellAt_get hl] at hy
  obtain rfl := Option.some.inj hx
  obtain rfl := Option.some.inj hy
  exact hf i (by omega)
theorem chain_stop {f : Int} {rows : List (List Int)} {j : Nat} (h : j + 1 < rows.length) (hn : ¬ follows (tellAt f rows j) (tellAt f rows (j + 1))) : chainR (tellsR f rows) = false :=
  chain_not _ j _ _ (tellAt_get (by omega)) (tellAt_get h) hn
theorem ofR_right {b : List Int} {n : Int} (h : (ofR b n).2.2 = 0) : rightB (ofR b n).1 = true := by
  unfold ofR at *
  by_cases hn : n < 0
  · rw [if_pos hn] at h; exact absurd h (by decide)
  · rw [if_neg hn] at h ⊢
    by_cases ha : (asB b 5 n).2 ≠ 0
    · rw [if_pos ha] at h; exact absurd h ha
    · rw [if_neg ha] at h ⊢
      unfold partedE at *
      by_cases hc : 14 ≤ (asB b 5 n).1.length ∧ rightB (bodyE n (asB b 5 n).1) = true ∧ aheadI (bodyA n (asB b 5 n).1) n
      · rw [if_pos hc]; exact hc.2.1
      · rw [if_neg hc] at h; exact absurd h (by decide)
/-! ### A bit is turned -/
def turnB (b : List Int) (at' : Nat) : List Int := b.set (at' / 8) (((b.getD (at' / 8) 0).toNat ^^^ (1 <<< (at' % 8)) : Nat) : Int)
theorem turn_flip (b : List Int) (k : Nat) : flipK b k 1 1 = turnB b k := by
  show flipAt b k 1 0 = _
  unfold flipAt
  rw [if_pos (by decide)]
  rfl
theorem turn_other {b : List Int} (hb : b.length = 256) {k : Nat} (hk : k < 2048) : turnB b k ≠ b := by
  intro e
  have h1 : ((turnB b k).getD (k / 8) 0).toNat.testBit (k % 8) = !((b.getD (k / 8) 0).toNat.testBit (k % 8)) := by
    unfold turnB
    rw [List.getD_eq_getElem?_getD, List.getElem?_set_self (by omega), Option.getD_some, Int.toNat_natCast, Nat.testBit_xor, Nat.one_shiftLeft, Nat.testBit_two_pow_self, Bool.xor_true]
  rw [e] at h1
  cases hx : (b.getD (k / 8) 0).toNat.testBit (k % 8) <;> rw [hx] at h1 <;> cases h1
theorem open_turned {u : UnitV} (hu : u.right) (hb : ∀ z ∈ u.body, 0 ≤ z ∧ z < 256) {k : Nat} (hk : k < 2048) : (openB (turnB (sealB u) k)).2 ≠ 0 := by
  intro h
  rw [← turn_flip] at h
  have := open_burst hu hb k 1 1 (by omega) (by omega) h
  rw [turn_flip] at this
  exact turn_other (seal_len hu.2.2) hk this
theorem as_turned {u : UnitV} (hu : u.right) (hb : ∀ z ∈ u.body, 0 ≤ z ∧ z < 256) {k : Nat} (hk : k < 2048) (kd n : Int) : (asB (turnB (sealB u) k) kd n).2 ≠ 0 := by
  unfold asB
  rw [if_pos (open_turned hu hb hk)]
  exact open_turned hu hb hk
theorem of_turned {a : IdentI} {e : Ent} (h : rightB e = true) (hb : ∀ z ∈ e.body, 0 ≤ z ∧ z < 256) {k : Nat} (hk : k < 2048) (n : Int) : (ofR (turnB (sealB (recU a e)) k) n).2.2 ≠ 0 := by
  have h1 := as_turned (recU_right (a := a) h) (recU_bd hb) hk 5 n
  unfold ofR
  by_cases hn : n < 0
  · rw [if_pos hn]; decide
  · rw [if_neg hn, if_pos h1]; exact h1
/-! ### Records of entries that follow each other -/
theorem rowsE_get : ∀ (l : List Ent) (f : Int) (a : IdentI) (j : Nat), ChainE f a l → j < l.length → ∃ e a', e ∈ l ∧ rightB e = true ∧ aheadI a' e.index ∧ e.index = f + j ∧ (rowsE a l)[j]? = some (sealB (recU a' e))
  | [], _, _, j, _, h => absurd h (by simp)
  | e :: l, f, a, 0, h, _ => by
    obtain ⟨hr, he, ha, _⟩ := h
    exact ⟨e, a, List.mem_cons_self, hr, by rw [he]; exact ha, by omega, rfl⟩
  | e :: l, f, a, j + 1, h, hj => by
    obtain ⟨_, _, _, hc⟩ := h
    obtain ⟨e', a', h1, h2, h3, h4, h5⟩ := rowsE_get l (f + 1) e.ident j hc (by simpa using hj)
    exact ⟨e', a', List.mem_cons_of_mem _ h1, h2, h3, by omega, by simpa [rowsE] using h5⟩
theorem foot_any {l : List Ent} {f g : Int} {a : IdentI} (h : ChainE f a l) (hf : 0 ≤ f) (hl : l ≠ []) (n : Nat) (hn : n = l.length) : footR f g n (rowsE a l) = (⟨6, g, footBody (rowsE a l) (lastE a l)⟩, 0) := by
  subst hn; exact foot_chainE h hf hl
theorem footU_right {g : Int} (h0 : 0 ≤ g) (h1 : g ≤ 1099511627776) (rows : List (List Int)) (i : IdentI) : UnitV.right ⟨6, g, footBody rows i⟩ := ⟨by show (1 : Int) ≤ 6 ∧ (6 : Int) ≤ 8; decide, ⟨h0, h1⟩, by show (footBody rows i).length ≤ 239; rw [footBody_len]; decide⟩
theorem footBody_bd (rows : List (List Int)) (i : IdentI) : ∀ z ∈ footBody rows i, 0 ≤ z ∧ z < 256 := by
  intro z hz
  unfold footBody at hz
  rcases List.mem_append.1 hz with h | h
  · exact le_bd _ _ z h
  · rcases List.mem_append.1 h with h | h <;> exact le_bd _ _ z h
/-- Other records' indices: no foot. -/
theorem foot_apart {l : List Ent} {f f' g : Int} {a : IdentI} (h : ChainE f a l) (hl : l ≠ []) (hne : f' ≠ f) (n : Nat) : (footR f' g n (rowsE a l)).2 ≠ 0 := by
  unfold footR
  by_cases hc : f' < 0 ∨ (rowsE a l).length ≠ n
  · rw [if_pos hc]; decide
  · rw [if_neg hc]
    have hf' : 0 ≤ f' := by omega
    cases l with
    | nil => exact absurd rfl hl
    | cons e l =>
      obtain ⟨hr, he, ha, _⟩ := h
      have h6 := of_rec_other (a := a) hr hf' (by rw [he]; exact hne)
      have he : entsR f' (rowsE a (e :: l)) = .error 6 := by
        show (if (ofR (sealB (recU a e)) f').2.2 ≠ 0 then _ else _) = _
        rw [h6, if_pos (by decide)]
      rw [he]
      exact (by decide : (6 : Int) ≠ 0)
theorem shut_apart {l : List Ent} {f f' g : Int} {a : IdentI} (h : ChainE f a l) (hl : l ≠ []) (hne : f' ≠ f) (n : Nat) (b : List Int) : shutR b f' g n (rowsE a l) ≠ 0 := by
  have := foot_apart (g := g) h hl hne n
  unfold shutR
  rw [if_pos this]; exact this
/-- A turned bit of the foot. -/
theorem shut_turned {l : List Ent} {f g : Int} {a : IdentI} (h : ChainE f a l) (hf : 0 ≤ f) (hl : l ≠ []) (h0 : 0 ≤ g) (h1 : g ≤ 1099511627776) (n : Nat) (hn : n = l.length) {k : Nat} (hk : k < 2048) : shutR (turnB (sealB (footR f g n (rowsE a l)).1) k) f g n (rowsE a l) ≠ 0 := by
  unfold shutR
  rw [foot_any h hf hl n hn]
  simp only
  have := as_turned (footU_right h0 h1 (rowsE a l) (lastE a l)) (footBody_bd _ _) hk 6 g
  rw [if_neg (fun x => x rfl), if_pos this]
  exact this
/-- A turned bit of a record. -/
theorem shut_hurt {l : List Ent} {f g : Int} {a : IdentI} (h : ChainE f a l) (hbd : ∀ e ∈ l, ∀ z ∈ e.body, 0 ≤ z ∧ z < 256) (hf : 0 ≤ f) {j : Nat} (hj : j < l.length) (n : Nat) (hn : n = l.length) {k : Nat} (hk : k < 2048) (b : List Int) : shutR b f g n ((rowsE a l).set j (turnB ((rowsE a l).getD j []) k)) ≠ 0 := by
  obtain ⟨e, a', hm, hr, ha, hi, hg⟩ := rowsE_get l f a j h hj
  have hjl : j < (rowsE a l).length := by rw [rowsE_len]; exact hj
  have hq : (footR f g n ((rowsE a l).set j (turnB ((rowsE a l).getD j []) k))).2 ≠ 0 := by
    have hx := of_turned (a := a') hr (hbd e hm) hk (f + j)
    rw [foot_err (n := (ofR (turnB (sealB (recU a' e)) k) (f + j)).2.2) hf (by rw [List.length_set, rowsE_len, hn]) (ents_err _ f j (turnB (sealB (recU a' e)) k) (by rw [List.getD_eq_getElem?_getD, hg, Option.getD_some, List.getElem?_set_self hjl]) (fun i b' hi' hb' => by
      rw [List.getElem?_set_ne (by omega)] at hb'
      obtain ⟨e2, a2, _, hr2, ha2, hi2, hg2⟩ := rowsE_get l f a i h (by omega)
      rw [hg2] at hb'
      obtain rfl := Option.some.inj hb'
      rw [← hi2, of_rec hr2 ha2]) hx)]
    exact hx
  unfold shutR
  rw [if_pos hq]; exact hq
end Go.Proofs.YtpdfmpegcejmkaaGreatDoor
