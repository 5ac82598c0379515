/- Marks, their units and blocks: plain mathematics. -/
/- Is an ident right: the package's, and the page's own. -/
/- Idents, records, heads, feet, and what is read of their blocks: plain mathematics. -/
import Derived.Test.YtpdfmpegcejmkaaGreatDoorUnitBurst
import Derived.Test.YtpdfmpegcejmkaaGreatDoorCodeRight
import Derived.Test.YtpdfmpegcejmkaaGreatDoorCodeAdd
namespace Go.Proofs.YtpdfmpegcejmkaaGreatDoor
open Mx
structure MarkV where
  ver : Int
  idx : Int
  term : Int
  kind : Int
  void : Int
/-- An ident is right. -/
def knownI (idx term kind : Int) : Prop := (idx = 0 ∧ term = 0 ∧ kind = 0) ∨ ((1 ≤ idx ∧ idx ≤ 1099511627776) ∧ (0 ≤ term ∧ term ≤ 1099511627776) ∧ (1 ≤ kind ∧ kind ≤ 3))
instance (i t k : Int) : Decidable (knownI i t k) := by unfold knownI; exact inferInstance
def MarkV.right (m : MarkV) : Prop := (0 ≤ m.ver ∧ m.ver ≤ 1099511627776) ∧ (0 ≤ m.void ∧ m.void ≤ 1099511627776) ∧ knownI m.idx m.term m.kind
instance (m : MarkV) : Decidable m.right := by unfold MarkV.right; exact inferInstance
def MarkV.val (m : MarkV) : Go.Value := .agg #[.int .i64 m.ver, .int .i64 m.idx, .int .i64 m.term, .int .i64 m.kind, .int .i64 m.void]
def MarkV.unit (m : MarkV) (k : Int) : UnitV := ⟨k, m.ver, le 6 m.idx ++ (le 6 m.term ++ (le 1 m.kind ++ le 6 m.void))⟩
def noMark : MarkV := ⟨0, 0, 0, 0, 0⟩
theorem noMark_right : noMark.right := by decide
/-- The two sorts, and where the first block of each is. -/
def sortK (k : Int) : Prop := k = 2 ∨ k = 3
instance (k : Int) : Decidable (sortK k) := by unfold sortK; exact inferInstance
def placeK (k : Int) : Nat := if k = 2 then 2 else 4
/-- The mark of a version and a body. -/
def bodyK (ver : Int) (bs : List Int) : MarkV := ⟨ver, unle (bs.take 6), unle ((bs.drop 6).take 6), unle ((bs.drop 12).take 1), unle ((bs.drop 13).take 6)⟩
def partedK (ver : Int) (bs : List Int) : MarkV × Int := if bs.length = 19 ∧ (bodyK ver bs).right then (bodyK ver bs, 0) else (noMark, 4)
/-- The mark, of a sort, whose unit's block this is. -/
def markB (k : Int) (b : List Int) : MarkV × Int := if ¬ sortK k then (noMark, 2) else if (asB b k (-1)).2 ≠ 0 then (noMark, (asB b k (-1)).2) else partedK (openB b).1.num (asB b k (-1)).1
section
variable {m : MarkV} {k : Int}
theorem mark_len (m : MarkV) (k : Int) : (m.unit k).body.length = 19 := by show (le 6 _ ++ (le 6 _ ++ (le 1 _ ++ le 6 _))).length = 19; simp only [List.length_append, le_len]
theorem mark_right (h : m.right) (hk : sortK k) : (m.unit k).right := ⟨by show 1 ≤ k ∧ k ≤ 8; rcases hk with rfl | rfl <;> decide, h.1, by rw [mark_len]; decide⟩
theorem mark_bd (m : MarkV) (k : Int) : ∀ z ∈ (m.unit k).body, 0 ≤ z ∧ z < 256 := by
  intro z hz
  rcases List.mem_append.1 hz with h | h
  · exact le_bd _ _ z h
  · rcases List.mem_append.1 h with h | h
    · exact le_bd _ _ z h
    · rcases List.mem_append.1 h with h | h
      · exact le_bd _ _ z h
      · exact le_bd _ _ z h
theorem mark_ok (h : m.right) (hk : sortK k) : BlkOk (sealB (m.unit k)) := seal_ok (mark_right h hk) (mark_bd m k)
theorem take_le {n : Nat} {x : Int} {l : List Int} : (le n x ++ l).take n = le n x := by rw [List.take_append_of_le_length (by rw [le_len]; exact Nat.le_refl _), List.take_of_length_le (by rw [le_len]; exact Nat.le_refl _)]
theorem drop_le {n : Nat} {x : Int} {l : List Int} : (le n x ++ l).drop n = l := by rw [List.drop_append_of_le_length (by rw [le_len]; exact Nat.le_refl _), List.drop_eq_nil_of_le (by rw [le_len]; exact Nat.le_refl _), List.nil_append]
theorem known_bd {i t x : Int} (h : knownI i t x) : (0 ≤ i ∧ i ≤ 1099511627776) ∧ (0 ≤ t ∧ t ≤ 1099511627776) ∧ (0 ≤ x ∧ x ≤ 3) := by
  rcases h with ⟨rfl, rfl, rfl⟩ | ⟨h1, h2, h3⟩
  · decide
  · omega
theorem parted_mark (h : m.right) : partedK m.ver (m.unit k).body = (m, 0) := by
  obtain ⟨h1, h2, h3⟩ := known_bd h.2.2
  have e1 : (m.unit k).body.take 6 = le 6 m.idx := take_le
  have d1 : (m.unit k).body.drop 6 = le 6 m.term ++ (le 1 m.kind ++ le 6 m.void) := drop_le
  have d2 : (m.unit k).body.drop 12 = le 1 m.kind ++ le 6 m.void := by rw [show (12 : Nat) = 6 + 6 from rfl, ← List.drop_drop, d1, drop_le]
  have d3 : (m.unit k).body.drop 13 = le 6 m.void := by rw [show (13 : Nat) = 12 + 1 from rfl, ← List.drop_drop, d2, drop_le]
  have hm : bodyK m.ver (m.unit k).body = m := by
    unfold bodyK
    rw [e1, d1, d2, d3, take_le, take_le, List.take_of_length_le (by rw [le_len]; exact Nat.le_refl _), unle_le 6 _ h1.1 (by omega), unle_le 6 _ h2.1 (by omega), unle_le 1 _ h3.1 (by omega), unle_le 6 _ h.2.1.1 (by have := h.2.1.2; omega)]
  unfold partedK
  rw [hm, if_pos ⟨mark_len m k, h⟩]
theorem mark_seal (h : m.right) (hk : sortK k) : markB k (sealB (m.unit k)) = (m, 0) := by
  have ho := open_seal (mark_right h hk)
  have ha : asB (sealB (m.unit k)) k (-1) = ((m.unit k).body, 0) := by
    unfold asB
    rw [ho, if_neg (fun hn => hn rfl), if_neg]
    rintro (h1 | h1)
    · exact h1 rfl
    · exact absurd h1.1 (by decide)
  unfold markB
  rw [if_neg (fun hn => hn hk), ha, ho, if_neg (fun hn => hn rfl)]
  exact parted_mark (k := k) h
end
theorem markB_right {k : Int} {b : List Int} (h : (markB k b).2 = 0) : (markB k b).1.right := by
  unfold markB partedK at h ⊢
  split at h
  · exact absurd h (by decide)
  · next h0 =>
    rw [if_neg h0]
    split at h
    · next h1 => exact absurd h h1
    · next h1 =>
      rw [if_neg h1]
      split at h
      · next h2 => rw [if_pos h2]; exact h2.2
      · exact absurd h (by decide)
theorem markB_else {k : Int} {b : List Int} (h : (markB k b).2 ≠ 0) : (markB k b).1 = noMark := by
  unfold markB partedK at h ⊢
  split at h
  · next h0 => rw [if_pos h0]
  · next h0 =>
    rw [if_neg h0]
    split at h
    · next h1 => rw [if_pos h1]
    · next h1 =>
      rw [if_neg h1]
      split at h
      · exact absurd rfl h
      · next h2 => rw [if_neg h2]
theorem markB_none {k : Int} {b : List Int} (h : (openB b).2 ≠ 0) : (markB k b).2 ≠ 0 := by
  have ha : asB b k (-1) = ([], (openB b).2) := by unfold asB; rw [if_pos h]
  unfold markB
  split
  · decide
  · rw [ha, if_pos h]
    exact h
theorem markB_nought (k : Int) : (markB k (List.replicate 256 0)).2 ≠ 0 := markB_none (by rw [open_noughts]; decide)
/-- A block that is hurt by a burst has none. -/
theorem mark_burst {m : MarkV} {k : Int} (h : m.right) (hk : sortK k) (f mask n : Nat) (hn : n ≤ 32) (hf : f + n ≤ 2048) : flipK (sealB (m.unit k)) f mask n = sealB (m.unit k) ∨ (markB k (flipK (sealB (m.unit k)) f mask n)).2 ≠ 0 := by
  by_cases ho : (openB (flipK (sealB (m.unit k)) f mask n)).2 = 0
  · exact .inl (open_burst (mark_right h hk) (mark_bd m k) f mask n hn hf ho)
  · exact .inr (markB_none ho)
theorem slim_mark_len (m : MarkV) (k : Int) : (m.unit k).body.length ≤ 20 := by rw [mark_len]; decide
end Go.Proofs.YtpdfmpegcejmkaaGreatDoor
namespace Go.Proofs.YtpdfmpegcejmkaaGreatDoor
open Go.RowKit
def identV (i t k : Int) : Value := .agg #[.int .i64 i, .int .i64 t, .int .i64 k]
theorem row5_cells (W : World) (x y z u v : Value) (t : TypeId) : ∀ i p, [x, y, z, u, v][i]? = some p → (W.alloc (.cells #[x, y, z, u, v] t)).cell? ⟨W.heap.size, i, none⟩ = some p := by
  intro i p hp
  have h := cell_of_row (W.alloc (.cells #[x, y, z, u, v] t)) W.heap.size i #[x, y, z, u, v] t (0, 0) (heap_alloc_new W _)
  rw [h]
  simpa using hp
theorem right_known (i t k : Int) : rightB ⟨i, t, k, []⟩ = decide (1 ≤ i ∧ i ≤ 1099511627776 ∧ 0 ≤ t ∧ t ≤ 1099511627776 ∧ 1 ≤ k ∧ k ≤ 3) := by
  unfold rightB
  rw [decide_eq_decide]
  simp only [List.length_nil]
  omega
theorem known_right (i t k : Int) (h : ¬ (i = 0 ∧ t = 0 ∧ k = 0)) : rightB ⟨i, t, k, []⟩ = decide (knownI i t k) := by
  rw [right_known, decide_eq_decide]
  unfold knownI
  omega
set_option maxRecDepth 100000 in
set_option maxHeartbeats 1000000 in
theorem known_any (w : World) (i t k : Int) :
    Calls Tryz.prog 26 #[identV i t k] w fun e w' => e = .returned (.bool (decide (knownI i t k))) ∧ Below w.heap.size w w' := by
  unfold identV
  by_cases h0 : i = 0 ∧ t = 0 ∧ k = 0
  · obtain ⟨rfl, rfl, rfl⟩ := h0
    go_enter Tryz.func26, Tryz.ntmps26
    go_wp2_with fail
    go_ret
    exact ⟨rfl, (below_new _ _).alloc (below_new w _).size _⟩
  · have HR := Lib.hid (fun (w1 : World) => show Calls Tryz.prog 25 #[.agg #[.int .i64 i, .int .i64 t, .int .i64 k, .slice none 0 0]] w1 fun r w' => r = .returned (.bool (decide (knownI i t k))) ∧ Below w1.heap.size w1 w' from by
      rw [← known_right i t k h0]
      exact right_any w1 ⟨i, t, k, []⟩ none 0 (Nat.zero_le _))
    have hb2 := Lib.hid ((below_new w (.cells #[.int .i64 i, .int .i64 t, .int .i64 k] 26)).alloc (below_new w _).size (.cells #[.int .i64 0, .int .i64 0, .int .i64 0] 26))
    have HN := Lib.hid h0
    clear h0
    go_enter Tryz.func26, Tryz.ntmps26
    go_wp2_with fail
    all_goals
      first
      | exact absurd (And.intro (by assumption) (And.intro (by assumption) (by assumption))) HN.out
      | (try subst i
         try subst t
         refine (HR.out _).mono ?_
         rintro e w1 ⟨rfl, hb1⟩
         have Hb := Lib.hid (hb2.out.trans (hb1.mono hb2.out.size))
         clear hb1
         go_wp2_with fail
         go_ret
         exact ⟨rfl, Hb.out⟩)
set_option maxRecDepth 100000 in
set_option maxHeartbeats 1000000 in
theorem rknown_any (w : World) (i t k : Int) :
    Calls Tryz.prog 79 #[identV i t k] w fun e w' => e = .returned (.bool (decide (knownI i t k))) ∧ Below w.heap.size w w' := by
  unfold identV
  go_enter Tryz.func79, Tryz.ntmps79
  go_wp2
  all_goals
    go_ret
    refine ⟨ret_bool ?_, below_new _ _⟩
    first
    | exact (decide_eq_false (by unfold knownI; omega)).symm
    | (refine decide_eq_decide.2 ?_; unfold knownI; omega)
    | (rw [Bool.eq_iff_iff]; simp only [beq_iff_eq, beq_eq_false_iff_ne, ne_eq, decide_eq_true_eq, Bool.false_eq_true, false_iff] at *; unfold knownI; omega)
end Go.Proofs.YtpdfmpegcejmkaaGreatDoor
namespace Go.Proofs.YtpdfmpegcejmkaaGreatDoor
open Mx
structure IdentI where
  idx : Int
  term : Int
  kind : Int
def noIdent : IdentI := ⟨0, 0, 0⟩
def Ent.ident (e : Ent) : IdentI := ⟨e.index, e.term, e.kind⟩
/-- An ident is one ahead of an index. -/
def aheadI (i : IdentI) (n : Int) : Prop := knownI i.idx i.term i.kind ∧ i.idx = n - 1
instance (i : IdentI) (n : Int) : Decidable (aheadI i n) := by unfold aheadI; exact inferInstance
def recBody (a : IdentI) (e : Ent) : List Int := le 6 a.term ++ (le 1 a.kind ++ (le 6 e.term ++ (le 1 e.kind ++ e.body)))
def recU (a : IdentI) (e : Ent) : UnitV := ⟨5, e.index, recBody a e⟩
def recordR (a : IdentI) (e : Ent) : UnitV × Int := if rightB e = false then (noUnit, 2) else if ¬ aheadI a e.index then (noUnit, 12) else (recU a e, 0)
/-- The entry, and the ident ahead, of an index and a body. -/
def bodyE (n : Int) (bs : List Int) : Ent := ⟨n, unle ((bs.drop 7).take 6), unle ((bs.drop 13).take 1), bs.drop 14⟩
def bodyA (n : Int) (bs : List Int) : IdentI := ⟨n - 1, unle (bs.take 6), unle ((bs.drop 6).take 1)⟩
def partedE (n : Int) (bs : List Int) : Ent × IdentI × Int := if 14 ≤ bs.length ∧ rightB (bodyE n bs) = true ∧ aheadI (bodyA n bs) n then (bodyE n bs, bodyA n bs, 0) else (noEnt, noIdent, 4)
def ofR (b : List Int) (n : Int) : Ent × IdentI × Int := if n < 0 then (noEnt, noIdent, 4) else if (asB b 5 n).2 ≠ 0 then (noEnt, noIdent, (asB b 5 n).2) else partedE n (asB b 5 n).1
/-- A head, of a segment number and a first index. -/
def headBody (a : IdentI) : List Int := le 6 a.idx ++ (le 6 a.term ++ le 1 a.kind)
def headU (g : Int) (a : IdentI) : UnitV := ⟨4, g, headBody a⟩
def headR (f g : Int) (a : IdentI) : UnitV × Int := if f < 0 then (noUnit, 2) else if ¬ aheadI a f then (noUnit, 12) else (headU g a, 0)
def bodyH (bs : List Int) : IdentI := ⟨unle (bs.take 6), unle ((bs.drop 6).take 6), unle ((bs.drop 12).take 1)⟩
def partedH (f : Int) (bs : List Int) : IdentI × Int := if bs.length = 13 ∧ aheadI (bodyH bs) f then (bodyH bs, 0) else (noIdent, 4)
def headOf (b : List Int) (f g : Int) : IdentI × Int := if f < 0 then (noIdent, 2) else if (asB b 4 g).2 ≠ 0 then (noIdent, (asB b 4 g).2) else partedH f (asB b 4 g).1
section
variable {a a' : IdentI} {e e' : Ent}
theorem ent_right (h : rightB e = true) : (1 ≤ e.kind ∧ e.kind ≤ 3) ∧ (1 ≤ e.index ∧ e.index ≤ 1099511627776) ∧ (0 ≤ e.term ∧ e.term ≤ 1099511627776) ∧ e.body.length ≤ 200 := by
  have := of_decide_eq_true h
  omega
theorem recBody_len (a : IdentI) (e : Ent) : (recBody a e).length = 14 + e.body.length := by
  unfold recBody
  simp only [List.length_append, le_len]; omega
theorem recU_right (h : rightB e = true) : (recU a e).right := by
  obtain ⟨h1, h2, h3, h4⟩ := ent_right h
  exact ⟨by show (1 : Int) ≤ 5 ∧ (5 : Int) ≤ 8; decide, ⟨by show 0 ≤ e.index; omega, h2.2⟩, by show (recBody a e).length ≤ 239; rw [recBody_len]; omega⟩
theorem recU_bd (hb : ∀ z ∈ e.body, 0 ≤ z ∧ z < 256) : ∀ z ∈ (recU a e).body, 0 ≤ z ∧ z < 256 := by
  intro z hz
  rcases List.mem_append.1 hz with h | h
  · exact le_bd _ _ z h
  · rcases List.mem_append.1 h with h | h
    · exact le_bd _ _ z h
    · rcases List.mem_append.1 h with h | h
      · exact le_bd _ _ z h
      · rcases List.mem_append.1 h with h | h
        · exact le_bd _ _ z h
        · exact hb z h
theorem rec_drops (a : IdentI) (e : Ent) : (recBody a e).take 6 = le 6 a.term ∧ ((recBody a e).drop 6).take 1 = le 1 a.kind ∧ ((recBody a e).drop 7).take 6 = le 6 e.term ∧ ((recBody a e).drop 13).take 1 = le 1 e.kind ∧ (recBody a e).drop 14 = e.body := by
  have d1 : (recBody a e).drop 6 = le 1 a.kind ++ (le 6 e.term ++ (le 1 e.kind ++ e.body)) := drop_le
  have d2 : (recBody a e).drop 7 = le 6 e.term ++ (le 1 e.kind ++ e.body) := by rw [show (7 : Nat) = 6 + 1 from rfl, ← List.drop_drop, d1, drop_le]
  have d3 : (recBody a e).drop 13 = le 1 e.kind ++ e.body := by rw [show (13 : Nat) = 7 + 6 from rfl, ← List.drop_drop, d2, drop_le]
  have d4 : (recBody a e).drop 14 = e.body := by rw [show (14 : Nat) = 13 + 1 from rfl, ← List.drop_drop, d3, drop_le]
  exact ⟨take_le, by rw [d1, take_le], by rw [d2, take_le], by rw [d3, take_le], d4⟩
theorem bodies_rec (h : rightB e = true) (ha : aheadI a e.index) : bodyE e.index (recBody a e) = e ∧ bodyA e.index (recBody a e) = a := by
  obtain ⟨h1, h2, h3, h4⟩ := ent_right h
  obtain ⟨k1, k2, k3⟩ := known_bd ha.1
  obtain ⟨e1, e2, e3, e4, e5⟩ := rec_drops a e
  refine ⟨?_, ?_⟩
  · unfold bodyE
    rw [e3, e4, e5, unle_le 6 _ h3.1 (by omega), unle_le 1 _ (by omega) (by omega)]
  · unfold bodyA
    rw [e1, e2, unle_le 6 _ k2.1 (by omega), unle_le 1 _ k3.1 (by omega), ← ha.2]
/-- What is recorded is told again. -/
theorem of_rec (h : rightB e = true) (ha : aheadI a e.index) : ofR (sealB (recU a e)) e.index = (e, a, 0) := by
  obtain ⟨h1, h2, h3, h4⟩ := ent_right h
  obtain ⟨b1, b2⟩ := bodies_rec h ha
  have has : asB (sealB (recU a e)) 5 e.index = (recBody a e, 0) := by
    unfold asB
    rw [open_seal (recU_right h), if_neg (fun hn => hn rfl), if_neg]
    · rfl
    · rintro (h5 | h5)
      · exact h5 rfl
      · exact h5.2 rfl
  unfold ofR
  rw [if_neg (by omega), has, if_neg (fun hn => hn rfl)]
  unfold partedE
  rw [b1, b2, if_pos ⟨by rw [recBody_len]; omega, h, ha⟩]
/-- .. of its index alone. -/
theorem of_rec_other (h : rightB e = true) {n : Int} (h0 : 0 ≤ n) (hn : n ≠ e.index) : (ofR (sealB (recU a e)) n).2.2 = 6 := by
  have has : asB (sealB (recU a e)) 5 n = ([], 6) := by
    unfold asB
    rw [open_seal (recU_right h), if_neg (fun hn => hn rfl), if_pos (.inr ⟨h0, fun e' => hn e'.symm⟩)]
  unfold ofR
  rw [if_neg (by omega), has, if_pos (by decide)]
/-- Two records are one just if their entries and idents are. -/
theorem rec_inj (h : rightB e = true) (ha : aheadI a e.index) (h' : rightB e' = true) (ha' : aheadI a' e'.index) : (recU a e = recU a' e') ↔ (e = e' ∧ a = a') := by
  constructor
  · intro heq
    have hi : e.index = e'.index := congrArg UnitV.num heq
    have hb : recBody a e = recBody a' e' := congrArg UnitV.body heq
    obtain ⟨b1, b2⟩ := bodies_rec h ha
    obtain ⟨b3, b4⟩ := bodies_rec h' ha'
    rw [hb, hi] at b1 b2
    exact ⟨b1.symm.trans b3, b2.symm.trans b4⟩
  · rintro ⟨rfl, rfl⟩; rfl
theorem headBody_len (a : IdentI) : (headBody a).length = 13 := by unfold headBody; simp only [List.length_append, le_len]
theorem headU_right {g : Int} (h0 : 0 ≤ g) (h1 : g ≤ 1099511627776) : (headU g a).right := ⟨by show (1 : Int) ≤ 4 ∧ (4 : Int) ≤ 8; decide, ⟨h0, h1⟩, by show (headBody a).length ≤ 239; rw [headBody_len]; decide⟩
theorem headU_bd {g : Int} : ∀ z ∈ (headU g a).body, 0 ≤ z ∧ z < 256 := by
  intro z hz
  rcases List.mem_append.1 hz with h | h
  · exact le_bd _ _ z h
  · rcases List.mem_append.1 h with h | h <;> exact le_bd _ _ z h
theorem bodyH_head {n : Int} (ha : aheadI a n) : bodyH (headBody a) = a := by
  obtain ⟨k1, k2, k3⟩ := known_bd ha.1
  have d1 : (headBody a).drop 6 = le 6 a.term ++ le 1 a.kind := drop_le
  have d2 : (headBody a).drop 12 = le 1 a.kind := by rw [show (12 : Nat) = 6 + 6 from rfl, ← List.drop_drop, d1, drop_le]
  have e1 : (headBody a).take 6 = le 6 a.idx := take_le
  unfold bodyH
  rw [e1, d1, d2, take_le, List.take_of_length_le (by rw [le_len]; exact Nat.le_refl _), unle_le 6 _ k1.1 (by omega), unle_le 6 _ k2.1 (by omega), unle_le 1 _ k3.1 (by omega)]
/-- A head tells its ident again. -/
theorem headOf_head {f g : Int} (hf : 0 ≤ f) (h0 : 0 ≤ g) (h1 : g ≤ 1099511627776) (ha : aheadI a f) : headOf (sealB (headU g a)) f g = (a, 0) := by
  have has : asB (sealB (headU g a)) 4 g = (headBody a, 0) := by
    unfold asB
    rw [open_seal (headU_right h0 h1), if_neg (fun hn => hn rfl), if_neg]
    · rfl
    · rintro (h5 | h5)
      · exact h5 rfl
      · exact h5.2 rfl
  unfold headOf
  rw [if_neg (by omega), has, if_neg (fun hn => hn rfl)]
  unfold partedH
  rw [bodyH_head ha, if_pos ⟨headBody_len a, ha⟩]
end
/-! ### Feet -/
/-- The idents ahead follow each other. -/
def chainR : List (Ent × IdentI) → Bool
  | [] => true
  | [_] => true
  | x :: y :: l => decide (y.2.idx = x.1.index ∧ y.2.term = x.1.term ∧ y.2.kind = x.1.kind) && chainR (y :: l)
/-- The entries of blocks, from an index on, or the first error. -/
def entsR (f : Int) : List (List Int) → Except Int (List (Ent × IdentI))
  | [] => .ok []
  | b :: l => if (ofR b f).2.2 ≠ 0 then .error (ofR b f).2.2 else match entsR (f + 1) l with
    | .error n => .error n
    | .ok r => .ok (((ofR b f).1, (ofR b f).2.1) :: r)
def sumsB (rows : List (List Int)) : List Int := rows.flatMap fun b => (b.drop 28).take 4
def footBody (rows : List (List Int)) (i : IdentI) : List Int := le 4 ((sum (sumsB rows)).toNat : Int) ++ (le 6 i.term ++ le 1 i.kind)
def footR (f g : Int) (many : Nat) (rows : List (List Int)) : UnitV × Int :=
  if f < 0 ∨ rows.length ≠ many then (noUnit, 2) else match entsR f rows with
    | .error n => (noUnit, n)
    | .ok r => if chainR r = false then (noUnit, 12) else (⟨6, g, footBody rows (match r.getLast? with | some x => x.1.ident | none => noIdent)⟩, 0)
def shutR (b : List Int) (f g : Int) (many : Nat) (rows : List (List Int)) : Int :=
  if (footR f g many rows).2 ≠ 0 then (footR f g many rows).2 else if (asB b 6 g).2 ≠ 0 then (asB b 6 g).2 else if (asB b 6 g).1 ≠ (footR f g many rows).1.body then 5 else 0
end Go.Proofs.YtpdfmpegcejmkaaGreatDoor
