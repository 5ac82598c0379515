/- The plain mathematics of fields, texts, rows and entries as bytes: no program here. -/
/- What is got is put by just the bytes that were gone through: lists alone. -/
import Derived.RowKit
import Derived.WalkKit
import Derived.Laws.BitsAllLaws
namespace Go.Proofs.YtifoiiaddcgngaaGreatDoor
/-- A number's bytes, the lowest first. -/
def le : Nat → Int → List Int
  | 0, _ => []
  | k + 1, n => n % 256 :: le k (n / 256)
/-- What bytes tell, the lowest first. -/
def unle : List Int → Int
  | [] => 0
  | z :: zs => z + 256 * unle zs
theorem le_len (k : Nat) (n : Int) : (le k n).length = k := by
  induction k generalizing n with
  | zero => rfl
  | succ k ih => simp [le, ih]
theorem le_bd (k : Nat) (n : Int) : ∀ z ∈ le k n, 0 ≤ z ∧ z < 256 := by
  induction k generalizing n with
  | zero => intro z hz; cases hz
  | succ k ih =>
    intro z hz
    rcases List.mem_cons.1 hz with rfl | h
    · omega
    · exact ih _ z h
theorem unle_le (k : Nat) (n : Int) (h0 : 0 ≤ n) (h1 : n < 256 ^ k) : unle (le k n) = n := by
  induction k generalizing n with
  | zero => simp at h1; simp [le, unle]; omega
  | succ k ih =>
    rw [Int.pow_succ] at h1
    simp only [le, unle]
    rw [ih (n / 256) (by omega) (by omega)]
    omega
theorem unle_bd (zs : List Int) (hz : ∀ z ∈ zs, 0 ≤ z ∧ z < 256) : 0 ≤ unle zs ∧ unle zs < 256 ^ zs.length := by
  induction zs with
  | nil => simp [unle]
  | cons z zs ih =>
    have h := ih (fun y hy => hz y (List.mem_cons_of_mem _ hy))
    have h0 := hz z List.mem_cons_self
    simp only [unle, List.length_cons, Int.pow_succ]
    omega
theorem le_unle (zs : List Int) (hz : ∀ z ∈ zs, 0 ≤ z ∧ z < 256) : le zs.length (unle zs) = zs := by
  induction zs with
  | nil => rfl
  | cons z zs ih =>
    have h := ih (fun y hy => hz y (List.mem_cons_of_mem _ hy))
    have h0 := hz z List.mem_cons_self
    simp only [List.length_cons, le, unle]
    rw [show (z + 256 * unle zs) / 256 = unle zs by omega, h, show (z + 256 * unle zs) % 256 = z by omega]
/-- The greatest number of a field; below 0: there is no such field. -/
def top (w : Int) : Int := if w = 1 then 255 else if w = 2 then 65535 else if w = 4 then 4294967295 else if w = 6 then 1099511627776 else -1
theorem top_lt (w : Int) : top w < 256 ^ w.toNat ∨ top w = -1 := by
  unfold top
  repeat' split
  all_goals first | (left; subst_vars; decide) | exact .inr rfl
theorem top_cases (w : Int) : (w = 1 ∧ top w = 255) ∨ (w = 2 ∧ top w = 65535) ∨ (w = 4 ∧ top w = 4294967295) ∨ (w = 6 ∧ top w = 1099511627776) ∨ (w ≠ 1 ∧ w ≠ 2 ∧ w ≠ 4 ∧ w ≠ 6 ∧ top w = -1) := by
  unfold top
  repeat' split
  all_goals omega
def inTop (w : Int) (ns : List Int) : Bool := ns.all fun n => decide (0 ≤ n ∧ n ≤ top w)
/-- The bytes of fields of one width; none: they spoil. -/
def fieldsB (w : Int) (ns : List Int) : Option (List Int) :=
  if top w < 0 then none else if inTop w ns then some (ns.flatMap (le w.toNat)) else none
/-- What a writer has, when something more is put. -/
def putO : Option (List Int) → Option (List Int) → Option (List Int)
  | some x, some y => some (x ++ y)
  | _, _ => none
theorem putO_none (s : Option (List Int)) : putO s none = none := by cases s <;> rfl
theorem none_putO (s : Option (List Int)) : putO none s = none := by cases s <;> rfl
theorem putO_assoc (a b c : Option (List Int)) : putO (putO a b) c = putO a (putO b c) := by
  cases a <;> cases b <;> cases c <;> simp [putO]
theorem putO_nil (a : Option (List Int)) : putO a (some []) = a := by cases a <;> simp [putO]
def textB (b : List Int) : Option (List Int) := if b.length ≤ 65535 then some (le 2 b.length ++ b) else none
def rowB (l : List Int) : Option (List Int) := putO (fieldsB 1 [(l.length : Int)]) (fieldsB 6 l)
structure Ent where
  index : Int
  term : Int
  kind : Int
  body : List Int
def rightB (e : Ent) : Bool := decide (1 ≤ e.kind ∧ e.kind ≤ 3 ∧ 1 ≤ e.index ∧ e.index ≤ 1099511627776 ∧ 0 ≤ e.term ∧ e.term ≤ 1099511627776 ∧ e.body.length ≤ 200)
def entryB (e : Ent) : Option (List Int) :=
  if rightB e then some (le 1 e.kind ++ (le 6 e.index ++ (le 6 e.term ++ (le 2 e.body.length ++ e.body)))) else none
theorem fieldsB_one (w n : Int) (ht : 0 ≤ top w) (h0 : 0 ≤ n) (h1 : n ≤ top w) : fieldsB w [n] = some (le w.toNat n) := by
  unfold fieldsB inTop; rw [if_neg (by omega)]; simp [h0, h1]
theorem fieldsB_bad (w : Int) (ns : List Int) (ht : top w < 0) : fieldsB w ns = none := by unfold fieldsB; rw [if_pos ht]
theorem fieldsB_out (w : Int) (ns : List Int) (n : Int) (hm : n ∈ ns) (h : n < 0 ∨ top w < n) : fieldsB w ns = none := by
  unfold fieldsB
  split
  · rfl
  · rw [if_neg]
    unfold inTop
    intro hall
    have := List.all_eq_true.1 hall n hm
    simp at this; omega
theorem fieldsB_ok (w : Int) (ns : List Int) (ht : 0 ≤ top w) (h : ∀ n ∈ ns, 0 ≤ n ∧ n ≤ top w) : fieldsB w ns = some (ns.flatMap (le w.toNat)) := by
  unfold fieldsB
  rw [if_neg (by omega), if_pos]
  unfold inTop
  exact List.all_eq_true.2 fun n hn => by simpa using h n hn
theorem flat_len (k : Nat) (ns : List Int) : (ns.flatMap (le k)).length = k * ns.length := by
  induction ns with
  | nil => simp
  | cons n ns ih => rw [List.flatMap_cons, List.length_append, ih, le_len, List.length_cons, Nat.mul_add, Nat.mul_one, Nat.add_comm]
theorem flat_bd (k : Nat) (ns : List Int) : ∀ z ∈ ns.flatMap (le k), 0 ≤ z ∧ z < 256 := by
  intro z hz
  obtain ⟨n, _, h⟩ := List.mem_flatMap.1 hz
  exact le_bd k n z h
theorem textB_put (b : List Int) : textB b = putO (fieldsB 2 [(b.length : Int)]) (some b) := by
  unfold textB
  by_cases h : b.length ≤ 65535
  · rw [if_pos h, fieldsB_one 2 _ (by decide) (by omega) (by show _ ≤ (65535 : Int); omega)]; rfl
  · rw [if_neg h, fieldsB_out 2 _ (b.length : Int) List.mem_cons_self (.inr (by show (65535 : Int) < _; omega))]; rfl
theorem entryB_put (e : Ent) (h : rightB e = true) : entryB e = putO (fieldsB 1 [e.kind]) (putO (fieldsB 6 [e.index, e.term]) (textB e.body)) := by
  have h' := of_decide_eq_true h
  unfold entryB
  rw [if_pos h, fieldsB_one 1 _ (by decide) (by omega) (by show _ ≤ (255 : Int); omega),
    fieldsB_ok 6 _ (by decide) (by intro n hn; simp at hn; rcases hn with rfl | rfl <;> (show _ ∧ _ ≤ (1099511627776 : Int); omega))]
  unfold textB
  rw [if_pos (by omega)]
  simp [putO]
/-! ### What is got -/
inductive RSt where
  | ok (at_ : Nat)
  | bad (pos : Nat) (long : Bool)
def isOk : RSt → Bool
  | .ok _ => true
  | .bad _ _ => false
def fieldR (bs : List Int) (w : Int) : RSt → Int × RSt
  | .bad p l => (0, .bad p l)
  | .ok k =>
    if top w < 0 ∨ w > (bs.length : Int) - k then (0, .bad k false)
    else if unle ((bs.drop k).take w.toNat) > top w then (0, .bad k false)
    else (unle ((bs.drop k).take w.toNat), .ok (k + w.toNat))
def countR (bs : List Int) (w most each : Int) : RSt → Int × RSt
  | .bad p l => (0, .bad p l)
  | .ok k => match fieldR bs w (.ok k) with
    | (_, .bad p l) => (0, .bad p l)
    | (n, .ok j) => if n > most then (0, .bad k true) else if n * each > (bs.length : Int) - j then (0, .bad k false) else (n, .ok j)
def textR (bs : List Int) (most : Int) (s : RSt) : List Int × RSt :=
  match countR bs 2 most 1 s with
  | (_, .bad p l) => ([], .bad p l)
  | (n, .ok j) => ((bs.drop j).take n.toNat, .ok (j + n.toNat))
/-- So many fields of 6, one behind the other. -/
def runR (bs : List Int) : Nat → RSt → List Int × RSt
  | 0, s => ([], s)
  | k + 1, s => ((runR bs k s).1 ++ [(fieldR bs 6 (runR bs k s).2).1], (fieldR bs 6 (runR bs k s).2).2)
def rowR (bs : List Int) (most : Int) (s : RSt) : List Int × RSt :=
  match countR bs 1 most 6 s with
  | (_, .bad p l) => ([], .bad p l)
  | (n, .ok j) => match runR bs n.toNat (.ok j) with
    | (_, .bad p l) => ([], .bad p l)
    | (xs, .ok i) => (xs, .ok i)
def noEnt : Ent := ⟨0, 0, 0, []⟩
def entryR (bs : List Int) : RSt → Ent × RSt
  | .bad p l => (noEnt, .bad p l)
  | .ok k =>
    let a := fieldR bs 1 (.ok k)
    let b := fieldR bs 6 a.2
    let c := fieldR bs 6 b.2
    let d := textR bs 65535 c.2
    match d.2 with
    | .bad p l => (noEnt, .bad p l)
    | .ok j => if rightB ⟨b.1, c.1, a.1, d.1⟩ then (⟨b.1, c.1, a.1, d.1⟩, .ok j) else (noEnt, .bad k false)
def leftR (bs : List Int) : RSt → Int
  | .ok k => (bs.length : Int) - k
  | .bad _ _ => 0
end Go.Proofs.YtifoiiaddcgngaaGreatDoor
namespace Go.Proofs.YtifoiiaddcgngaaGreatDoor
/-- The bytes between two places. -/
def seg (bs : List Int) (j k : Nat) : List Int := (bs.drop j).take (k - j)
theorem seg_same (bs : List Int) (j : Nat) : seg bs j j = [] := by unfold seg; rw [Nat.sub_self]; rfl
theorem seg_app (bs : List Int) (i j k : Nat) (h1 : i ≤ j) (h2 : j ≤ k) : seg bs i j ++ seg bs j k = seg bs i k := by
  unfold seg
  rw [show k - i = (j - i) + (k - j) by omega, List.take_add, List.drop_drop, show i + (j - i) = j by omega]
theorem seg_len (bs : List Int) (j k : Nat) (h1 : j ≤ k) (h2 : k ≤ bs.length) : (seg bs j k).length = k - j := by
  unfold seg; rw [List.length_take, List.length_drop]; omega
theorem seg_mem (bs : List Int) (j k : Nat) (hb : ∀ z ∈ bs, 0 ≤ z ∧ z < 256) : ∀ z ∈ seg bs j k, 0 ≤ z ∧ z < 256 := fun z hz => hb z (List.mem_of_mem_drop (List.mem_of_mem_take hz))
theorem seg_take (bs : List Int) (k : Nat) : seg bs 0 k = bs.take k := by unfold seg; rw [List.drop_zero, Nat.sub_zero]
theorem seg_add (bs : List Int) (j n : Nat) : (bs.drop j).take n = seg bs j (j + n) := by unfold seg; rw [show j + n - j = n by omega]
theorem top_pos (w : Int) (h : 0 ≤ top w) : 1 ≤ w ∧ w ≤ 6 := by
  rcases top_cases w with ⟨e, _⟩ | ⟨e, _⟩ | ⟨e, _⟩ | ⟨e, _⟩ | ⟨_, _, _, _, t⟩ <;> omega
theorem field_back (bs : List Int) (hb : ∀ z ∈ bs, 0 ≤ z ∧ z < 256) (w n : Int) (j k : Nat) (hj : j ≤ bs.length) (h : fieldR bs w (.ok j) = (n, .ok k)) :
    j ≤ k ∧ k ≤ bs.length ∧ fieldsB w [n] = some (seg bs j k) ∧ 0 ≤ n ∧ n ≤ top w ∧ k = j + w.toNat := by
  unfold fieldR at h
  simp only at h
  split at h
  · simp at h
  · split at h
    · simp at h
    · rename_i h1 h2
      simp only [Prod.mk.injEq, RSt.ok.injEq] at h
      obtain ⟨rfl, rfl⟩ := h
      have ht : 0 ≤ top w := by omega
      have hw := top_pos w ht
      have hle : j + w.toNat ≤ bs.length := by omega
      have hl : ((bs.drop j).take w.toNat).length = w.toNat := by rw [List.length_take, List.length_drop]; omega
      have hm : ∀ z ∈ (bs.drop j).take w.toNat, 0 ≤ z ∧ z < 256 := fun z hz => hb z (List.mem_of_mem_drop (List.mem_of_mem_take hz))
      have hu := unle_bd _ hm
      refine ⟨by omega, hle, ?_, hu.1, by omega, rfl⟩
      rw [fieldsB_one w _ ht hu.1 (by omega), ← seg_add]
      have := le_unle _ hm
      rw [hl] at this
      rw [this]
theorem count_back (bs : List Int) (hb : ∀ z ∈ bs, 0 ≤ z ∧ z < 256) (w most each n : Int) (j k : Nat) (hj : j ≤ bs.length) (h : countR bs w most each (.ok j) = (n, .ok k)) :
    j ≤ k ∧ k ≤ bs.length ∧ fieldsB w [n] = some (seg bs j k) ∧ 0 ≤ n ∧ n ≤ top w ∧ n * each ≤ (bs.length : Int) - k ∧ fieldR bs w (.ok j) = (n, .ok k) := by
  unfold countR at h
  simp only at h
  generalize hf : fieldR bs w (.ok j) = r at *
  obtain ⟨m, t⟩ := r
  cases t with
  | bad p l => simp at h
  | ok i =>
    simp only at h
    split at h
    · simp at h
    · split at h
      · simp at h
      · simp only [Prod.mk.injEq, RSt.ok.injEq] at h
        obtain ⟨rfl, rfl⟩ := h
        obtain ⟨h1, h2, h3, h4, h5, _⟩ := field_back bs hb w m j i hj hf
        exact ⟨h1, h2, h3, h4, h5, by omega, rfl⟩
theorem text_back (bs : List Int) (hb : ∀ z ∈ bs, 0 ≤ z ∧ z < 256) (most : Int) (zs : List Int) (j k : Nat) (hj : j ≤ bs.length) (h : textR bs most (.ok j) = (zs, .ok k)) :
    j ≤ k ∧ k ≤ bs.length ∧ textB zs = some (seg bs j k) := by
  unfold textR at h
  generalize hc : countR bs 2 most 1 (.ok j) = r at *
  obtain ⟨n, t⟩ := r
  cases t with
  | bad p l => simp at h
  | ok i =>
    simp only [Prod.mk.injEq, RSt.ok.injEq] at h
    obtain ⟨rfl, rfl⟩ := h
    obtain ⟨h1, h2, h3, h4, h5, h6, _⟩ := count_back bs hb 2 most 1 n j i hj hc
    have ht : top 2 = 65535 := rfl
    have hl : ((bs.drop i).take n.toNat).length = n.toNat := by rw [List.length_take, List.length_drop]; omega
    refine ⟨by omega, by omega, ?_⟩
    rw [textB_put, hl, show ((n.toNat : Nat) : Int) = n by omega, h3, seg_add]
    show some (_ ++ _) = _
    rw [seg_app bs j i _ h1 (by omega)]
theorem run_back (bs : List Int) (hb : ∀ z ∈ bs, 0 ≤ z ∧ z < 256) (m : Nat) (j k : Nat) (hj : j ≤ bs.length) (xs : List Int) (h : runR bs m (.ok j) = (xs, .ok k)) :
    j ≤ k ∧ k ≤ bs.length ∧ fieldsB 6 xs = some (seg bs j k) ∧ xs.length = m := by
  induction m generalizing k xs with
  | zero =>
    simp only [runR, Prod.mk.injEq, RSt.ok.injEq] at h
    obtain ⟨rfl, rfl⟩ := h
    exact ⟨Nat.le_refl _, hj, by rw [seg_same]; rfl, rfl⟩
  | succ m ih =>
    simp only [runR] at h
    generalize hr : runR bs m (.ok j) = r at *
    obtain ⟨ys, t⟩ := r
    simp only at h
    cases t with
    | bad p l => simp [fieldR] at h
    | ok i =>
      obtain ⟨h1, h2, h3, h4⟩ := ih i ys rfl
      generalize hf : fieldR bs 6 (.ok i) = q at *
      obtain ⟨n, u⟩ := q
      simp only [Prod.mk.injEq] at h
      obtain ⟨rfl, rfl⟩ := h
      obtain ⟨g1, g2, g3, g4, g5, _⟩ := field_back bs hb 6 n i k h2 hf
      refine ⟨by omega, g2, ?_, by simp [h4]⟩
      have ht : top 6 = 1099511627776 := rfl
      have hin : ∀ y ∈ ys, 0 ≤ y ∧ y ≤ top 6 := by
        unfold fieldsB at h3
        rw [if_neg (by omega)] at h3
        split at h3
        · rename_i hall
          unfold inTop at hall
          intro y hy
          simpa using List.all_eq_true.1 hall y hy
        · cases h3
      rw [fieldsB_ok 6 _ (by omega) hin] at h3
      rw [fieldsB_one 6 n (by omega) g4 g5] at g3
      rw [fieldsB_ok 6 _ (by omega) (fun y hy => by
        rcases List.mem_append.1 hy with h | h
        · exact hin y h
        · obtain rfl := List.mem_singleton.1 h
          exact ⟨g4, g5⟩), List.flatMap_append, ← seg_app bs j i k h1 g1]
      rw [Option.some.inj h3]
      congr 2
      simpa using Option.some.inj g3
theorem row_back (bs : List Int) (hb : ∀ z ∈ bs, 0 ≤ z ∧ z < 256) (most : Int) (xs : List Int) (j k : Nat) (hj : j ≤ bs.length) (h : rowR bs most (.ok j) = (xs, .ok k)) :
    j ≤ k ∧ k ≤ bs.length ∧ rowB xs = some (seg bs j k) ∧ xs.length ≤ 255 := by
  unfold rowR at h
  generalize hc : countR bs 1 most 6 (.ok j) = r at *
  obtain ⟨n, t⟩ := r
  cases t with
  | bad p l => simp at h
  | ok i =>
    simp only at h
    obtain ⟨h1, h2, h3, h4, h5, h6, _⟩ := count_back bs hb 1 most 6 n j i hj hc
    generalize hr : runR bs n.toNat (.ok i) = q at *
    obtain ⟨ys, u⟩ := q
    cases u with
    | bad p l => simp at h
    | ok m =>
      simp only [Prod.mk.injEq, RSt.ok.injEq] at h
      obtain ⟨rfl, rfl⟩ := h
      obtain ⟨g1, g2, g3, g4⟩ := run_back bs hb n.toNat i m h2 ys hr
      have ht : top 1 = 255 := rfl
      refine ⟨by omega, g2, ?_, by omega⟩
      unfold rowB
      rw [g4, show ((n.toNat : Nat) : Int) = n by omega, h3, g3]
      show some (_ ++ _) = _
      rw [seg_app bs j i m h1 g1]
theorem entry_back (bs : List Int) (hb : ∀ z ∈ bs, 0 ≤ z ∧ z < 256) (e : Ent) (j k : Nat) (hj : j ≤ bs.length) (h : entryR bs (.ok j) = (e, .ok k)) :
    j ≤ k ∧ k ≤ bs.length ∧ entryB e = some (seg bs j k) ∧ rightB e = true := by
  simp only [entryR] at h
  generalize ha : fieldR bs 1 (.ok j) = ra at *
  obtain ⟨a, sa⟩ := ra
  cases sa with
  | bad p l => simp [fieldR, textR, countR] at h
  | ok i1 =>
    simp only at h
    generalize hb' : fieldR bs 6 (.ok i1) = rb at *
    obtain ⟨b, sb⟩ := rb
    cases sb with
    | bad p l => simp [fieldR, textR, countR] at h
    | ok i2 =>
      simp only at h
      generalize hc : fieldR bs 6 (.ok i2) = rc at *
      obtain ⟨c, sc⟩ := rc
      cases sc with
      | bad p l => simp [textR, countR] at h
      | ok i3 =>
        simp only at h
        generalize hd : textR bs 65535 (.ok i3) = rd at *
        obtain ⟨d, sd⟩ := rd
        cases sd with
        | bad p l => simp at h
        | ok i4 =>
          simp only at h
          split at h
          · rename_i hr
            simp only [Prod.mk.injEq, RSt.ok.injEq] at h
            obtain ⟨rfl, rfl⟩ := h
            obtain ⟨a1, a2, a3, a4, a5, _⟩ := field_back bs hb 1 a j i1 hj ha
            obtain ⟨b1, b2, b3, b4, b5, _⟩ := field_back bs hb 6 b i1 i2 a2 hb'
            obtain ⟨c1, c2, c3, c4, c5, _⟩ := field_back bs hb 6 c i2 i3 b2 hc
            obtain ⟨d1, d2, d3⟩ := text_back bs hb 65535 d i3 i4 c2 hd
            have ht : top 6 = 1099511627776 := rfl
            refine ⟨by omega, d2, ?_, hr⟩
            rw [entryB_put _ hr]
            have hbc : fieldsB 6 [b, c] = some (seg bs i1 i2 ++ seg bs i2 i3) := by
              rw [fieldsB_one 6 b (by omega) b4 b5] at b3
              rw [fieldsB_one 6 c (by omega) c4 c5] at c3
              rw [fieldsB_ok 6 _ (by omega) (fun y hy => by simp at hy; rcases hy with rfl | rfl <;> exact ⟨by assumption, by assumption⟩)]
              rw [← Option.some.inj b3, ← Option.some.inj c3]
              simp
            simp only
            rw [a3, hbc, d3]
            show some (_ ++ ((_ ++ _) ++ _)) = _
            rw [seg_app bs i1 i2 i3 b1 c1, seg_app bs i1 i3 i4 (by omega) d1, seg_app bs j i1 i4 a1 (by omega)]
          · simp at h
end Go.Proofs.YtifoiiaddcgngaaGreatDoor
