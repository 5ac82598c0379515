/- Is an ident right: the package's, and the page's own. -/
/- Idents, records, heads, feet, and what is read of their blocks: plain mathematics. -/
/- append onto bytes that are owned, and a copy of a row of bytes, at a step of a region that draws its order. -/
/- limpetref08: whether an ident is one ahead of an index; a record. -/
import Derived.Test.YtpdfmpegcejmkaaGreatDoorCodeRight
import Derived.Test.YtpdfmpegcejmkaaGreatDoorMarkV
import Derived.Test.YtpdfmpegcejmkaaGreatDoorCodeAdd
import Derived.Laws.AppendOwnNone
import Derived.Maps.AppendAt
import Derived.Test.YtpdfmpegcejmkaaGreatDoorRefEnt
namespace Go.Proofs.YtpdfmpegcejmkaaGreatDoor
open Go.RowKit
def identV (i t k : Int) : Value := .agg #[.int .i64 i, .int .i64 t, .int .i64 k]
theorem row5_cells (W : World) (x y z u v : Value) (t : TypeId) : ∀ i p, [x, y, z, u, v][i]? = some p → (W.alloc (.cells #[x, y, z, u, v] t)).cell? ⟨W.heap.size, i, none⟩ = some p := by
  intro i p hp
  have h := cell_of_row (W.alloc (.cells #[x, y, z, u, v] t)) W.heap.size i #[x, y, z, u, v] t (0, 0) (heap_alloc_new W _)
  rw [h]
  simpa using hp
theorem right_known (i t k : Int) : rightB ⟨i, t, k, []⟩ = decide (1 ≤ i ∧ i ≤ 1099511627776 ∧ 0 ≤ t ∧ t ≤ 1099511627776 ∧ 1 ≤ k ∧ k ≤ 3) := by
  unfold rightB
  rw [decide_eq_decide]
  simp only [List.length_nil]
  omega
theorem known_right (i t k : Int) (h : ¬ (i = 0 ∧ t = 0 ∧ k = 0)) : rightB ⟨i, t, k, []⟩ = decide (knownI i t k) := by
  rw [right_known, decide_eq_decide]
  unfold knownI
  omega
set_option maxRecDepth 100000 in
set_option maxHeartbeats 1000000 in
theorem known_any (w : World) (i t k : Int) :
    Calls Tryz.prog 26 #[identV i t k] w fun e w' => e = .returned (.bool (decide (knownI i t k))) ∧ Below w.heap.size w w' := by
  unfold identV
  by_cases h0 : i = 0 ∧ t = 0 ∧ k = 0
  · obtain ⟨rfl, rfl, rfl⟩ := h0
    go_enter Tryz.func26, Tryz.ntmps26
    go_wp2_with fail
    go_ret
    exact ⟨rfl, (below_new _ _).alloc (below_new w _).size _⟩
  · have HR := Lib.hid (fun (w1 : World) => show Calls Tryz.prog 25 #[.agg #[.int .i64 i, .int .i64 t, .int .i64 k, .slice none 0 0]] w1 fun r w' => r = .returned (.bool (decide (knownI i t k))) ∧ Below w1.heap.size w1 w' from by
      rw [← known_right i t k h0]
      exact right_any w1 ⟨i, t, k, []⟩ none 0 (Nat.zero_le _))
    have hb2 := Lib.hid ((below_new w (.cells #[.int .i64 i, .int .i64 t, .int .i64 k] 26)).alloc (below_new w _).size (.cells #[.int .i64 0, .int .i64 0, .int .i64 0] 26))
    have HN := Lib.hid h0
    clear h0
    go_enter Tryz.func26, Tryz.ntmps26
    go_wp2_with fail
    all_goals
      first
      | exact absurd (And.intro (by assumption) (And.intro (by assumption) (by assumption))) HN.out
      | (try subst i
         try subst t
         refine (HR.out _).mono ?_
         rintro e w1 ⟨rfl, hb1⟩
         have Hb := Lib.hid (hb2.out.trans (hb1.mono hb2.out.size))
         clear hb1
         go_wp2_with fail
         go_ret
         exact ⟨rfl, Hb.out⟩)
set_option maxRecDepth 100000 in
set_option maxHeartbeats 1000000 in
theorem rknown_any (w : World) (i t k : Int) :
    Calls Tryz.prog 79 #[identV i t k] w fun e w' => e = .returned (.bool (decide (knownI i t k))) ∧ Below w.heap.size w w' := by
  unfold identV
  go_enter Tryz.func79, Tryz.ntmps79
  go_wp2
  all_goals
    go_ret
    refine ⟨ret_bool ?_, below_new _ _⟩
    first
    | exact (decide_eq_false (by unfold knownI; omega)).symm
    | (refine decide_eq_decide.2 ?_; unfold knownI; omega)
    | (rw [Bool.eq_iff_iff]; simp only [beq_iff_eq, beq_eq_false_iff_ne, ne_eq, decide_eq_true_eq, Bool.false_eq_true, false_iff] at *; unfold knownI; omega)
end Go.Proofs.YtpdfmpegcejmkaaGreatDoor
namespace Go.Proofs.YtpdfmpegcejmkaaGreatDoor
open Mx
structure IdentI where
  idx : Int
  term : Int
  kind : Int
def noIdent : IdentI := ⟨0, 0, 0⟩
def Ent.ident (e : Ent) : IdentI := ⟨e.index, e.term, e.kind⟩
/-- An ident is one ahead of an index. -/
def aheadI (i : IdentI) (n : Int) : Prop := knownI i.idx i.term i.kind ∧ i.idx = n - 1
instance (i : IdentI) (n : Int) : Decidable (aheadI i n) := by unfold aheadI; exact inferInstance
def recBody (a : IdentI) (e : Ent) : List Int := le 6 a.term ++ (le 1 a.kind ++ (le 6 e.term ++ (le 1 e.kind ++ e.body)))
def recU (a : IdentI) (e : Ent) : UnitV := ⟨5, e.index, recBody a e⟩
def recordR (a : IdentI) (e : Ent) : UnitV × Int := if rightB e = false then (noUnit, 2) else if ¬ aheadI a e.index then (noUnit, 12) else (recU a e, 0)
/-- The entry, and the ident ahead, of an index and a body. -/
def bodyE (n : Int) (bs : List Int) : Ent := ⟨n, unle ((bs.drop 7).take 6), unle ((bs.drop 13).take 1), bs.drop 14⟩
def bodyA (n : Int) (bs : List Int) : IdentI := ⟨n - 1, unle (bs.take 6), unle ((bs.drop 6).take 1)⟩
def partedE (n : Int) (bs : List Int) : Ent × IdentI × Int := if 14 ≤ bs.length ∧ rightB (bodyE n bs) = true ∧ aheadI (bodyA n bs) n then (bodyE n bs, bodyA n bs, 0) else (noEnt, noIdent, 4)
def ofR (b : List Int) (n : Int) : Ent × IdentI × Int := if n < 0 then (noEnt, noIdent, 4) else if (asB b 5 n).2 ≠ 0 then (noEnt, noIdent, (asB b 5 n).2) else partedE n (asB b 5 n).1
/-- A head, of a segment number and a first index. -/
def headBody (a : IdentI) : List Int := le 6 a.idx ++ (le 6 a.term ++ le 1 a.kind)
def headU (g : Int) (a : IdentI) : UnitV := ⟨4, g, headBody a⟩
def headR (f g : Int) (a : IdentI) : UnitV × Int := if f < 0 then (noUnit, 2) else if ¬ aheadI a f then (noUnit, 12) else (headU g a, 0)
def bodyH (bs : List Int) : IdentI := ⟨unle (bs.take 6), unle ((bs.drop 6).take 6), unle ((bs.drop 12).take 1)⟩
def partedH (f : Int) (bs : List Int) : IdentI × Int := if bs.length = 13 ∧ aheadI (bodyH bs) f then (bodyH bs, 0) else (noIdent, 4)
def headOf (b : List Int) (f g : Int) : IdentI × Int := if f < 0 then (noIdent, 2) else if (asB b 4 g).2 ≠ 0 then (noIdent, (asB b 4 g).2) else partedH f (asB b 4 g).1
section
variable {a a' : IdentI} {e e' : Ent}
theorem ent_right (h : rightB e = true) : (1 ≤ e.kind ∧ e.kind ≤ 3) ∧ (1 ≤ e.index ∧ e.index ≤ 1099511627776) ∧ (0 ≤ e.term ∧ e.term ≤ 1099511627776) ∧ e.body.length ≤ 200 := by
  have := of_decide_eq_true h
  omega
theorem recBody_len (a : IdentI) (e : Ent) : (recBody a e).length = 14 + e.body.length := by
  unfold recBody
  simp only [List.length_append, le_len]; omega
theorem recU_right (h : rightB e = true) : (recU a e).right := by
  obtain ⟨h1, h2, h3, h4⟩ := ent_right h
  exact ⟨by show (1 : Int) ≤ 5 ∧ (5 : Int) ≤ 8; decide, ⟨by show 0 ≤ e.index; omega, h2.2⟩, by show (recBody a e).length ≤ 239; rw [recBody_len]; omega⟩
theorem recU_bd (hb : ∀ z ∈ e.body, 0 ≤ z ∧ z < 256) : ∀ z ∈ (recU a e).body, 0 ≤ z ∧ z < 256 := by
  intro z hz
  rcases List.mem_append.1 hz with h | h
  · exact le_bd _ _ z h
  · rcases List.mem_append.1 h with h | h
    · exact le_bd _ _ z h
    · rcases List.mem_append.1 h with h | h
      · exact le_bd _ _ z h
      · rcases List.mem_append.1 h with h | h
        · exact le_bd _ _ z h
        · exact hb z h
theorem rec_drops (a : IdentI) (e : Ent) : (recBody a e).take 6 = le 6 a.term ∧ ((recBody a e).drop 6).take 1 = le 1 a.kind ∧ ((recBody a e).drop 7).take 6 = le 6 e.term ∧ ((recBody a e).drop 13).take 1 = le 1 e.kind ∧ (recBody a e).drop 14 = e.body := by
  have d1 : (recBody a e).drop 6 = le 1 a.kind ++ (le 6 e.term ++ (le 1 e.kind ++ e.body)) := drop_le
  have d2 : (recBody a e).drop 7 = le 6 e.term ++ (le 1 e.kind ++ e.body) := by rw [show (7 : Nat) = 6 + 1 from rfl, ← List.drop_drop, d1, drop_le]
  have d3 : (recBody a e).drop 13 = le 1 e.kind ++ e.body := by rw [show (13 : Nat) = 7 + 6 from rfl, ← List.drop_drop, d2, drop_le]
  have d4 : (recBody a e).drop 14 = e.body := by rw [show (14 : Nat) = 13 + 1 from rfl, ← List.drop_drop, d3, drop_le]
  exact ⟨take_le, by rw [d1, take_le], by rw [d2, take_le], by rw [d3, take_le], d4⟩
theorem bodies_rec (h : rightB e = true) (ha : aheadI a e.index) : bodyE e.index (recBody a e) = e ∧ bodyA e.index (recBody a e) = a := by
  obtain ⟨h1, h2, h3, h4⟩ := ent_right h
  obtain ⟨k1, k2, k3⟩ := known_bd ha.1
  obtain ⟨e1, e2, e3, e4, e5⟩ := rec_drops a e
  refine ⟨?_, ?_⟩
  · unfold bodyE
    rw [e3, e4, e5, unle_le 6 _ h3.1 (by omega), unle_le 1 _ (by omega) (by omega)]
  · unfold bodyA
    rw [e1, e2, unle_le 6 _ k2.1 (by omega), unle_le 1 _ k3.1 (by omega), ← ha.2]
/-- What is recorded is told again. -/
theorem of_rec (h : rightB e = true) (ha : aheadI a e.index) : ofR (sealB (recU a e)) e.index = (e, a, 0) := by
  obtain ⟨h1, h2, h3, h4⟩ := ent_right h
  obtain ⟨b1, b2⟩ := bodies_rec h ha
  have has : asB (sealB (recU a e)) 5 e.index = (recBody a e, 0) := by
    unfold asB
    rw [open_seal (recU_right h), if_neg (fun hn => hn rfl), if_neg]
    · rfl
    · rintro (h5 | h5)
      · exact h5 rfl
      · exact h5.2 rfl
  unfold ofR
  rw [if_neg (by omega), has, if_neg (fun hn => hn rfl)]
  unfold partedE
  rw [b1, b2, if_pos ⟨by rw [recBody_len]; omega, h, ha⟩]
/-- .. of its index alone. -/
theorem of_rec_other (h : rightB e = true) {n : Int} (h0 : 0 ≤ n) (hn : n ≠ e.index) : (ofR (sealB (recU a e)) n).2.2 = 6 := by
  have has : asB (sealB (recU a e)) 5 n = ([], 6) := by
    unfold asB
    rw [open_seal (recU_right h), if_neg (fun hn => hn rfl), if_pos (.inr ⟨h0, fun e' => hn e'.symm⟩)]
  unfold ofR
  rw [if_neg (by omega), has, if_pos (by decide)]
/-- Two records are one just if their entries and idents are. -/
theorem rec_inj (h : rightB e = true) (ha : aheadI a e.index) (h' : rightB e' = true) (ha' : aheadI a' e'.index) : (recU a e = recU a' e') ↔ (e = e' ∧ a = a') := by
  constructor
  · intro heq
    have hi : e.index = e'.index := congrArg UnitV.num heq
    have hb : recBody a e = recBody a' e' := congrArg UnitV.body heq
    obtain ⟨b1, b2⟩ := bodies_rec h ha
    obtain ⟨b3, b4⟩ := bodies_rec h' ha'
    rw [hb, hi] at b1 b2
    exact ⟨b1.symm.trans b3, b2.symm.trans b4⟩
  · rintro ⟨rfl, rfl⟩; rfl
theorem headBody_len (a : IdentI) : (headBody a).length = 13 := by unfold headBody; simp only [List.length_append, le_len]
theorem headU_right {g : Int} (h0 : 0 ≤ g) (h1 : g ≤ 1099511627776) : (headU g a).right := ⟨by show (1 : Int) ≤ 4 ∧ (4 : Int) ≤ 8; decide, ⟨h0, h1⟩, by show (headBody a).length ≤ 239; rw [headBody_len]; decide⟩
theorem headU_bd {g : Int} : ∀ z ∈ (headU g a).body, 0 ≤ z ∧ z < 256 := by
  intro z hz
  rcases List.mem_append.1 hz with h | h
  · exact le_bd _ _ z h
  · rcases List.mem_append.1 h with h | h <;> exact le_bd _ _ z h
theorem bodyH_head {n : Int} (ha : aheadI a n) : bodyH (headBody a) = a := by
  obtain ⟨k1, k2, k3⟩ := known_bd ha.1
  have d1 : (headBody a).drop 6 = le 6 a.term ++ le 1 a.kind := drop_le
  have d2 : (headBody a).drop 12 = le 1 a.kind := by rw [show (12 : Nat) = 6 + 6 from rfl, ← List.drop_drop, d1, drop_le]
  have e1 : (headBody a).take 6 = le 6 a.idx := take_le
  unfold bodyH
  rw [e1, d1, d2, take_le, List.take_of_length_le (by rw [le_len]; exact Nat.le_refl _), unle_le 6 _ k1.1 (by omega), unle_le 6 _ k2.1 (by omega), unle_le 1 _ k3.1 (by omega)]
/-- A head tells its ident again. -/
theorem headOf_head {f g : Int} (hf : 0 ≤ f) (h0 : 0 ≤ g) (h1 : g ≤ 1099511627776) (ha : aheadI a f) : headOf (sealB (headU g a)) f g = (a, 0) := by
  have has : asB (sealB (headU g a)) 4 g = (headBody a, 0) := by
    unfold asB
    rw [open_seal (headU_right h0 h1), if_neg (fun hn => hn rfl), if_neg]
    · rfl
    · rintro (h5 | h5)
      · exact h5 rfl
      · exact h5.2 rfl
  unfold headOf
  rw [if_neg (by omega), has, if_neg (fun hn => hn rfl)]
  unfold partedH
  rw [bodyH_head ha, if_pos ⟨headBody_len a, ha⟩]
end
/-! ### Feet -/
/-- The idents ahead follow each other. -/
def chainR : List (Ent × IdentI) → Bool
  | [] => true
  | [_] => true
  | x :: y :: l => decide (y.2.idx = x.1.index ∧ y.2.term = x.1.term ∧ y.2.kind = x.1.kind) && chainR (y :: l)
/-- The entries of blocks, from an index on, or the first error. -/
def entsR (f : Int) : List (List Int) → Except Int (List (Ent × IdentI))
  | [] => .ok []
  | b :: l => if (ofR b f).2.2 ≠ 0 then .error (ofR b f).2.2 else match entsR (f + 1) l with
    | .error n => .error n
    | .ok r => .ok (((ofR b f).1, (ofR b f).2.1) :: r)
def sumsB (rows : List (List Int)) : List Int := rows.flatMap fun b => (b.drop 28).take 4
def footBody (rows : List (List Int)) (i : IdentI) : List Int := le 4 ((sum (sumsB rows)).toNat : Int) ++ (le 6 i.term ++ le 1 i.kind)
def footR (f g : Int) (many : Nat) (rows : List (List Int)) : UnitV × Int :=
  if f < 0 ∨ rows.length ≠ many then (noUnit, 2) else match entsR f rows with
    | .error n => (noUnit, n)
    | .ok r => if chainR r = false then (noUnit, 12) else (⟨6, g, footBody rows (match r.getLast? with | some x => x.1.ident | none => noIdent)⟩, 0)
def shutR (b : List Int) (f g : Int) (many : Nat) (rows : List (List Int)) : Int :=
  if (footR f g many rows).2 ≠ 0 then (footR f g many rows).2 else if (asB b 6 g).2 ≠ 0 then (asB b 6 g).2 else if (asB b 6 g).1 ≠ (footR f g many rows).1.body then 5 else 0
end Go.Proofs.YtpdfmpegcejmkaaGreatDoor
namespace Go.Proofs.YtpdfmpegcejmkaaGreatDoor
open Go.RowKit
/-- append onto bytes that are owned, at a step of a region that draws its order. -/
theorem step_append_own8 {w : World} {ops : Array Oper} {o : Oper} {a : Act} {K : Act → World → Prop} {Q : Exit → Act → World → Prop} {E : Prop} (hgd : o.guard = none) (s x : Operand)
    (ho : o.op = .call { callee := .builtin .append, args := #[s, x], argTypes := #[27, 27] }) (base : Nat) (v : Value) (n : Nat) (xs : List Int) (hs : a.eval s = v) (hown : w.ownsRow base 5 1 v n (u8s xs))
    (A : Option Addr) (zs : List Int) (m c : Nat) (hx : a.eval x = .slice A m c) (hm : zs.length = m) (hz : BytesAt w A zs) (hA : A = none → c = 0) (hb : n + m ≤ 140737488355328) (hbase : base ≤ w.heap.size)
    (h : ∀ v' w', w'.ownsRow base 5 1 v' (n + m) (u8s (xs ++ zs)) → w.grownBy w' v.ownBlock → (v'.ownBlock = v.ownBlock ∨ ∃ b, v'.ownBlock = some b ∧ w.heap.size ≤ b) → K (a.put o.dst v') w') :
    if Region.wanted o (yielded ops a.tmps) = true then Oper.wp Tryz.prog o a w K Q else E := by
  have hw : Region.wanted o (yielded ops a.tmps) = true := by simp [Region.wanted, hgd]
  rw [if_pos hw]
  obtain ⟨i0, hi, hz0, hz1, hz2⟩ := info_parts infoByte
  subst hm
  cases A with
  | none =>
    have hnil : zs = [] := by
      apply Classical.byContradiction
      intro hne
      obtain ⟨b, off, e⟩ := hz.some_ hne
      cases e
    subst hnil
    obtain rfl : c = 0 := hA rfl
    have hr := run_append_owned_none (P := Tryz.prog) (w := w) base 27 o.type 5 i0 1 Tryz.underlying27 hi v n (u8s xs) hown
    unfold Oper.wp execOp
    have hx' : a.eval x = .slice none 0 0 := hx
    simp only [ho, resolve, invoke, builtin, Sem.run_bind, Sem.run_pure, Result.andThen_ok, List.map_toArray, List.map_cons, List.map_nil, hs, hx', hr]
    exact h v w (own_same hown (by simp) (by simp)) (World.grownBy.refl _ _) (.inl rfl)
  | some ad =>
    have hsrc : ∀ j u, (u8s zs)[j]? = some u → w.cell? (ad.add j) = some u := fun j u hj => by
      have hne : zs ≠ [] := by intro e; subst e; simp [u8s] at hj
      obtain ⟨b, off, e, hc⟩ := hz.2 hne
      obtain rfl : ad = ⟨b, off, none⟩ := by simpa using e
      simp only [u8s, List.getElem?_map] at hj
      cases hq : zs[j]? with
      | none => simp [hq] at hj
      | some z =>
        obtain rfl : Value.int .u8 z = u := by simpa [hq] using hj
        have h1 := hc j (List.getElem?_eq_some_iff.1 hq).1
        rw [List.getD_eq_getElem?_getD, hq] at h1
        have hadd : (⟨b, off, none⟩ : Addr).add j = ⟨b, off + j, none⟩ := by unfold Addr.add; split <;> simp_all
        rw [hadd]; exact h1
    obtain ⟨v', w', hr, h2, h3, h4, h5⟩ := run_append_own_at (P := Tryz.prog) w base 27 o.type 5 i0 (.int .u8 0) 1 1 Tryz.underlying27 hi hz0 hz1 hz2 rfl (by decide) v n (u8s xs) hown ad zs.length c (u8s zs) (by rw [u8s_len, Nat.mul_one]) hsrc (u8s_one zs) (by unfold maxLen; omega) (by omega) hbase
    unfold Oper.wp execOp
    simp only [ho, resolve, invoke, builtin, Sem.run_bind, Sem.run_pure, Result.andThen_ok, List.map_toArray, List.map_cons, List.map_nil, hs, hx, hr]
    exact h v' w' (own_same h2 rfl (by rw [u8s_app])) h3 (h5.imp id fun e => ⟨_, e, Nat.le_refl _⟩)
/-- 'append([]byte{}, x..)' of n bytes, n not nought: a row of its own. -/
theorem step_clone8 {w : World} {ops : Array Oper} {o : Oper} {a : Act} {K : Act → World → Prop} {Q : Exit → Act → World → Prop} {E : Prop} (hgd : o.guard = none) (s x : Operand)
    (ho : o.op = .call { callee := .builtin .append, args := #[s, x], argTypes := #[27, 27] }) (g0 : Nat) (hs : a.eval s = .slice (some ⟨g0, 0, none⟩) 0 0) (hB : BlockIs w g0 5 #[])
    (A : Option Addr) (zs : List Int) (m c : Nat) (hx : a.eval x = .slice A m c) (hm : zs.length = m) (h0 : 0 < m) (hz : BytesAt w A zs) (hA : A = none → c = 0) (hb : m ≤ 140737488355328)
    (h : ∀ g cap w', w'.ownsRow 0 5 1 (.slice (some ⟨g, 0, none⟩) m cap) m (u8s zs) → g0 ≤ g → m ≤ cap → cap ≤ maxLen → w.grownBy w' (some g0) → K (a.put o.dst (.slice (some ⟨g, 0, none⟩) m cap)) w') :
    if Region.wanted o (yielded ops a.tmps) = true then Oper.wp Tryz.prog o a w K Q else E := by
  have hown : w.ownsRow g0 5 1 (.slice (some ⟨g0, 0, none⟩) 0 0) 0 (u8s []) := ⟨rfl, .inr ⟨g0, 0, #[], rfl, Nat.le_refl _, hB, Nat.le_refl _, Nat.zero_le _, rfl, rfl⟩⟩
  refine step_append_own8 hgd s x ho g0 _ 0 [] hs hown A zs m c hx hm hz hA (by omega) (Nat.le_of_lt hB.lt) ?_
  intro v' w' h1 h2 h3
  have h1' : w'.ownsRow g0 5 1 v' m (u8s zs) := own_same h1 (by omega) rfl
  obtain ⟨g, cap, e, hg, _, hc, hc2⟩ := own_form h1' h0
  subst e
  exact h g cap w' ⟨h1'.1, h1'.2.imp id fun ⟨g, cap, cur, e1, e2, e3⟩ => ⟨g, cap, cur, e1, Nat.zero_le _, e3⟩⟩ hg hc hc2 h2
theorem wpList_clone8 {w : World} {ops : Array Oper} {rest : List Oper} {o : Oper} {a : Act} {Q : Exit → Act → World → Prop} (hgd : o.guard = none) (s x : Operand)
    (ho : o.op = .call { callee := .builtin .append, args := #[s, x], argTypes := #[27, 27] }) (g0 : Nat) (hs : a.eval s = .slice (some ⟨g0, 0, none⟩) 0 0) (hB : BlockIs w g0 5 #[])
    (A : Option Addr) (zs : List Int) (m c : Nat) (hx : a.eval x = .slice A m c) (hm : zs.length = m) (h0 : 0 < m) (hz : BytesAt w A zs) (hb : m ≤ 140737488355328)
    (h : ∀ g cap w', w'.ownsRow 0 5 1 (.slice (some ⟨g, 0, none⟩) m cap) m (u8s zs) → g0 ≤ g → m ≤ cap → cap ≤ maxLen → w.grownBy w' (some g0) → wpList Tryz.prog ops Q rest (a.put o.dst (.slice (some ⟨g, 0, none⟩) m cap)) w') : wpList Tryz.prog ops Q (o :: rest) a w := by
  have hown : w.ownsRow g0 5 1 (.slice (some ⟨g0, 0, none⟩) 0 0) 0 (u8s []) := ⟨rfl, .inr ⟨g0, 0, #[], rfl, Nat.le_refl _, hB, Nat.le_refl _, Nat.zero_le _, rfl, rfl⟩⟩
  obtain ⟨i0, hi, hz0, hz1, hz2⟩ := info_parts infoByte
  subst hm
  have hne : zs ≠ [] := by rintro rfl; exact absurd h0 (by decide)
  obtain ⟨b, off, e, hc⟩ := hz.2 hne
  subst e
  have hsrc : ∀ j u, (u8s zs)[j]? = some u → w.cell? ((⟨b, off, none⟩ : Addr).add j) = some u := fun j u hj => by
    simp only [u8s, List.getElem?_map] at hj
    cases hq : zs[j]? with
    | none => simp [hq] at hj
    | some z =>
      obtain rfl : Value.int .u8 z = u := by simpa [hq] using hj
      have h1 := hc j (List.getElem?_eq_some_iff.1 hq).1
      rw [List.getD_eq_getElem?_getD, hq] at h1
      have hadd : (⟨b, off, none⟩ : Addr).add j = ⟨b, off + j, none⟩ := by unfold Addr.add; split <;> simp_all
      rw [hadd]; exact h1
  refine wpList_append_own_at (w := w) hgd s x 27 ho g0 5 i0 (.int .u8 0) 1 1 Tryz.underlying27 hi hz0 hz1 hz2 rfl (by decide) _ 0 (u8s []) hs hown ⟨b, off, none⟩ zs.length c (u8s zs) hx (by rw [u8s_len, Nat.mul_one]) hsrc (u8s_one zs) (by unfold maxLen; omega) (by omega) (Nat.le_of_lt hB.lt) ?_
  intro v' w' h1 h2 _ _
  have h1' : w'.ownsRow g0 5 1 v' zs.length (u8s zs) := own_same h1 (by omega) rfl
  obtain ⟨g, cap, e, hg, _, hc, hc2⟩ := own_form h1' h0
  subst e
  exact h g cap w' ⟨h1'.1, h1'.2.imp id fun ⟨g, cap, cur, e1, e2, e3⟩ => ⟨g, cap, cur, e1, Nat.zero_le _, e3⟩⟩ hg hc hc2 h2
end Go.Proofs.YtpdfmpegcejmkaaGreatDoor
namespace Go.Proofs.YtpdfmpegcejmkaaGreatDoor
open Go.RowKit
def IdentI.val (i : IdentI) : Value := .agg #[.int .i64 i.idx, .int .i64 i.term, .int .i64 i.kind]
set_option maxRecDepth 100000 in
set_option maxHeartbeats 1000000 in
theorem rfits_any (w : World) (i : IdentI) (n : Int) (h0 : 0 ≤ n) (h1 : n ≤ 1099511627776 * 64) :
    Calls Tryz.prog 43 #[i.val, .int .i64 n] w fun e w' => e = .returned (.bool (decide (aheadI i n))) ∧ Below w.heap.size w w' := by
  obtain ⟨x, t, k⟩ := i
  have HK := Lib.hid (fun W => rknown_any W x t k)
  unfold identV at HK
  have hB := BlockIs.made w 26 #[.int .i64 x, .int .i64 t, .int .i64 k]
  have hbn := below_new w (.cells #[.int .i64 x, .int .i64 t, .int .i64 k] 26)
  have HB := Lib.hid (And.intro hbn hB)
  have hE := Lib.hid (show decide (aheadI ⟨x, t, k⟩ n) = (decide (knownI x t k) && decide (x = n - 1)) by rw [← Bool.decide_and]; rfl)
  unfold IdentI.val
  simp only
  rw [hE.out]
  clear hbn hB
  by_cases hk : knownI x t k
  · rw [decide_eq_true hk] at HK ⊢
    clear hE
    go_enter Tryz.func43, Tryz.ntmps43
    go_wp2_with (go_at_call 79; refine (HK.out _).mono ?_; rintro e w1 ⟨rfl, hb1⟩; have c0 := (HB.out.2.below hb1 HB.out.2.lt).cell 0; have Hb := Lib.hid (HB.out.1.trans (hb1.mono HB.out.1.size)); clear hb1)
    go_ret
    exact ⟨ret_bool (by first | rfl | (rw [Bool.true_and, Bool.eq_iff_iff]; simp) | simp), Hb.out⟩
  · rw [decide_eq_false hk] at HK ⊢
    clear hE
    go_enter Tryz.func43, Tryz.ntmps43
    go_wp2_with (go_at_call 79; refine (HK.out _).mono ?_; rintro e w1 ⟨rfl, hb1⟩; have Hb := Lib.hid (HB.out.1.trans (hb1.mono HB.out.1.size)); clear hb1)
    go_ret
    exact ⟨rfl, Hb.out⟩
end Go.Proofs.YtpdfmpegcejmkaaGreatDoor
