/- The plain mathematics of fields, texts, rows and entries as bytes: no program here. -/
import Derived.RowKit
import Derived.WalkKit
import Derived.Laws.BitsAllLaws
namespace Go.Proofs.YtbkecaenjjlmoaaGreatDoor
/-- A number's bytes, the lowest first. -/
def le : Nat → Int → List Int
  | 0, _ => []
  | k + 1, n => n % 256 :: le k (n / 256)
/-- What bytes tell, the lowest first. -/
def unle : List Int → Int
  | [] => 0
  | z :: zs => z + 256 * unle zs
theorem le_len (k : Nat) (n : Int) : (le k n).length = k := by
  induction k generalizing n with
  | zero => rfl
  | succ k ih => simp [le, ih]
theorem le_bd (k : Nat) (n : Int) : ∀ z ∈ le k n, 0 ≤ z ∧ z < 256 := by
  induction k generalizing n with
  | zero => intro z hz; cases hz
  | succ k ih =>
    intro z hz
    rcases List.mem_cons.1 hz with rfl | h
    · omega
    · exact ih _ z h
theorem unle_le (k : Nat) (n : Int) (h0 : 0 ≤ n) (h1 : n < 256 ^ k) : unle (le k n) = n := by
  induction k generalizing n with
  | zero => simp at h1; simp [le, unle]; omega
  | succ k ih =>
    rw [Int.pow_succ] at h1
    simp only [le, unle]
    rw [ih (n / 256) (by omega) (by omega)]
    omega
theorem unle_bd (zs : List Int) (hz : ∀ z ∈ zs, 0 ≤ z ∧ z < 256) : 0 ≤ unle zs ∧ unle zs < 256 ^ zs.length := by
  induction zs with
  | nil => simp [unle]
  | cons z zs ih =>
    have h := ih (fun y hy => hz y (List.mem_cons_of_mem _ hy))
    have h0 := hz z List.mem_cons_self
    simp only [unle, List.length_cons, Int.pow_succ]
    omega
theorem le_unle (zs : List Int) (hz : ∀ z ∈ zs, 0 ≤ z ∧ z < 256) : le zs.length (unle zs) = zs := by
  induction zs with
  | nil => rfl
  | cons z zs ih =>
    have h := ih (fun y hy => hz y (List.mem_cons_of_mem _ hy))
    have h0 := hz z List.mem_cons_self
    simp only [List.length_cons, le, unle]
    rw [show (z + 256 * unle zs) / 256 = unle zs by omega, h, show (z + 256 * unle zs) % 256 = z by omega]
/-- The greatest number of a field; below 0: there is no such field. -/
def top (w : Int) : Int := if w = 1 then 255 else if w = 2 then 65535 else if w = 4 then 4294967295 else if w = 6 then 1099511627776 else -1
theorem top_lt (w : Int) : top w < 256 ^ w.toNat ∨ top w = -1 := by
  unfold top
  repeat' split
  all_goals first | (left; subst_vars; decide) | exact .inr rfl
theorem top_cases (w : Int) : (w = 1 ∧ top w = 255) ∨ (w = 2 ∧ top w = 65535) ∨ (w = 4 ∧ top w = 4294967295) ∨ (w = 6 ∧ top w = 1099511627776) ∨ (w ≠ 1 ∧ w ≠ 2 ∧ w ≠ 4 ∧ w ≠ 6 ∧ top w = -1) := by
  unfold top
  repeat' split
  all_goals omega
def inTop (w : Int) (ns : List Int) : Bool := ns.all fun n => decide (0 ≤ n ∧ n ≤ top w)
/-- The bytes of fields of one width; none: they spoil. -/
def fieldsB (w : Int) (ns : List Int) : Option (List Int) :=
  if top w < 0 then none else if inTop w ns then some (ns.flatMap (le w.toNat)) else none
/-- What a writer has, when something more is put. -/
def putO : Option (List Int) → Option (List Int) → Option (List Int)
  | some x, some y => some (x ++ y)
  | _, _ => none
theorem putO_none (s : Option (List Int)) : putO s none = none := by cases s <;> rfl
theorem none_putO (s : Option (List Int)) : putO none s = none := by cases s <;> rfl
theorem putO_assoc (a b c : Option (List Int)) : putO (putO a b) c = putO a (putO b c) := by
  cases a <;> cases b <;> cases c <;> simp [putO]
theorem putO_nil (a : Option (List Int)) : putO a (some []) = a := by cases a <;> simp [putO]
def textB (b : List Int) : Option (List Int) := if b.length ≤ 65535 then some (le 2 b.length ++ b) else none
def rowB (l : List Int) : Option (List Int) := putO (fieldsB 1 [(l.length : Int)]) (fieldsB 6 l)
structure Ent where
  index : Int
  term : Int
  kind : Int
  body : List Int
def rightB (e : Ent) : Bool := decide (1 ≤ e.kind ∧ e.kind ≤ 3 ∧ 1 ≤ e.index ∧ e.index ≤ 1099511627776 ∧ 0 ≤ e.term ∧ e.term ≤ 1099511627776 ∧ e.body.length ≤ 200)
def entryB (e : Ent) : Option (List Int) :=
  if rightB e then some (le 1 e.kind ++ (le 6 e.index ++ (le 6 e.term ++ (le 2 e.body.length ++ e.body)))) else none
theorem fieldsB_one (w n : Int) (ht : 0 ≤ top w) (h0 : 0 ≤ n) (h1 : n ≤ top w) : fieldsB w [n] = some (le w.toNat n) := by
  unfold fieldsB inTop; rw [if_neg (by omega)]; simp [h0, h1]
theorem fieldsB_bad (w : Int) (ns : List Int) (ht : top w < 0) : fieldsB w ns = none := by unfold fieldsB; rw [if_pos ht]
theorem fieldsB_out (w : Int) (ns : List Int) (n : Int) (hm : n ∈ ns) (h : n < 0 ∨ top w < n) : fieldsB w ns = none := by
  unfold fieldsB
  split
  · rfl
  · rw [if_neg]
    unfold inTop
    intro hall
    have := List.all_eq_true.1 hall n hm
    simp at this; omega
theorem fieldsB_ok (w : Int) (ns : List Int) (ht : 0 ≤ top w) (h : ∀ n ∈ ns, 0 ≤ n ∧ n ≤ top w) : fieldsB w ns = some (ns.flatMap (le w.toNat)) := by
  unfold fieldsB
  rw [if_neg (by omega), if_pos]
  unfold inTop
  exact List.all_eq_true.2 fun n hn => by simpa using h n hn
theorem flat_len (k : Nat) (ns : List Int) : (ns.flatMap (le k)).length = k * ns.length := by
  induction ns with
  | nil => simp
  | cons n ns ih => rw [List.flatMap_cons, List.length_append, ih, le_len, List.length_cons, Nat.mul_add, Nat.mul_one, Nat.add_comm]
theorem flat_bd (k : Nat) (ns : List Int) : ∀ z ∈ ns.flatMap (le k), 0 ≤ z ∧ z < 256 := by
  intro z hz
  obtain ⟨n, _, h⟩ := List.mem_flatMap.1 hz
  exact le_bd k n z h
theorem textB_put (b : List Int) : textB b = putO (fieldsB 2 [(b.length : Int)]) (some b) := by
  unfold textB
  by_cases h : b.length ≤ 65535
  · rw [if_pos h, fieldsB_one 2 _ (by decide) (by omega) (by show _ ≤ (65535 : Int); omega)]; rfl
  · rw [if_neg h, fieldsB_out 2 _ (b.length : Int) List.mem_cons_self (.inr (by show (65535 : Int) < _; omega))]; rfl
theorem entryB_put (e : Ent) (h : rightB e = true) : entryB e = putO (fieldsB 1 [e.kind]) (putO (fieldsB 6 [e.index, e.term]) (textB e.body)) := by
  have h' := of_decide_eq_true h
  unfold entryB
  rw [if_pos h, fieldsB_one 1 _ (by decide) (by omega) (by show _ ≤ (255 : Int); omega),
    fieldsB_ok 6 _ (by decide) (by intro n hn; simp at hn; rcases hn with rfl | rfl <;> (show _ ∧ _ ≤ (1099511627776 : Int); omega))]
  unfold textB
  rw [if_pos (by omega)]
  simp [putO]
/-! ### What is got -/
inductive RSt where
  | ok (at_ : Nat)
  | bad (pos : Nat) (long : Bool)
def isOk : RSt → Bool
  | .ok _ => true
  | .bad _ _ => false
def fieldR (bs : List Int) (w : Int) : RSt → Int × RSt
  | .bad p l => (0, .bad p l)
  | .ok k =>
    if top w < 0 ∨ w > (bs.length : Int) - k then (0, .bad k false)
    else if unle ((bs.drop k).take w.toNat) > top w then (0, .bad k false)
    else (unle ((bs.drop k).take w.toNat), .ok (k + w.toNat))
def countR (bs : List Int) (w most each : Int) : RSt → Int × RSt
  | .bad p l => (0, .bad p l)
  | .ok k => match fieldR bs w (.ok k) with
    | (_, .bad p l) => (0, .bad p l)
    | (n, .ok j) => if n > most then (0, .bad k true) else if n * each > (bs.length : Int) - j then (0, .bad k false) else (n, .ok j)
def textR (bs : List Int) (most : Int) (s : RSt) : List Int × RSt :=
  match countR bs 2 most 1 s with
  | (_, .bad p l) => ([], .bad p l)
  | (n, .ok j) => ((bs.drop j).take n.toNat, .ok (j + n.toNat))
/-- So many fields of 6, one behind the other. -/
def runR (bs : List Int) : Nat → RSt → List Int × RSt
  | 0, s => ([], s)
  | k + 1, s => ((runR bs k s).1 ++ [(fieldR bs 6 (runR bs k s).2).1], (fieldR bs 6 (runR bs k s).2).2)
def rowR (bs : List Int) (most : Int) (s : RSt) : List Int × RSt :=
  match countR bs 1 most 6 s with
  | (_, .bad p l) => ([], .bad p l)
  | (n, .ok j) => match runR bs n.toNat (.ok j) with
    | (_, .bad p l) => ([], .bad p l)
    | (xs, .ok i) => (xs, .ok i)
def noEnt : Ent := ⟨0, 0, 0, []⟩
def entryR (bs : List Int) : RSt → Ent × RSt
  | .bad p l => (noEnt, .bad p l)
  | .ok k =>
    let a := fieldR bs 1 (.ok k)
    let b := fieldR bs 6 a.2
    let c := fieldR bs 6 b.2
    let d := textR bs 65535 c.2
    match d.2 with
    | .bad p l => (noEnt, .bad p l)
    | .ok j => if rightB ⟨b.1, c.1, a.1, d.1⟩ then (⟨b.1, c.1, a.1, d.1⟩, .ok j) else (noEnt, .bad k false)
def leftR (bs : List Int) : RSt → Int
  | .ok k => (bs.length : Int) - k
  | .bad _ _ => 0
end Go.Proofs.YtbkecaenjjlmoaaGreatDoor
