/- plan's tests of numbers: whether all parts are what they may be; whether a shape is right. -/
import Derived.Test.YtapejjlnicmfiaaPlanBase
import Derived.Test.YtapejjlnicmfiaaPlanModel
namespace Go.Proofs.Ytapejjlnicmfiaa
open Go.RowKit
/-- A part: a number, the least it may be, the greatest. -/
abbrev PartI := Int × Int × Int
def PartI.cells (p : PartI) : List Value := [.int .i64 p.1, .int .i64 p.2.1, .int .i64 p.2.2]
def PartI.okB (p : PartI) : Bool := decide (p.2.1 ≤ p.1) && decide (p.1 ≤ p.2.2)
theorem PartI.ok_true {p : PartI} (h1 : p.2.1 ≤ p.1) (h2 : p.1 ≤ p.2.2) : p.okB = true := by unfold PartI.okB; simp [h1, h2]
theorem PartI.ok_false {p : PartI} (h : ¬(p.2.1 ≤ p.1 ∧ p.1 ≤ p.2.2)) : p.okB = false := by
  unfold PartI.okB
  rw [← Bool.decide_and]
  exact decide_eq_false h
theorem all_false {ps : List PartI} {i : Nat} {p : PartI} (h : ps[i]? = some p) (hp : p.okB = false) : ps.all PartI.okB = false := by
  rw [List.all_eq_false]
  exact ⟨p, List.mem_of_getElem? h, by rw [hp]; decide⟩
theorem all_next {ps : List PartI} {i : Nat} {p : PartI} (h : (ps.take i).all PartI.okB = true) (hi : ps[i]? = some p) (hp : p.okB = true) : (ps.take (i + 1)).all PartI.okB = true := by
  rw [List.take_add_one, hi, List.all_append, h]
  simp [hp]
/-- Parts in a row of their own. -/
def PartsIn (w : World) (b : Nat) (ps : List PartI) : Prop := ∀ i p, ps[i]? = some p → w.cell? ⟨b, i * 3, none⟩ = some (.int .i64 p.1) ∧ w.cell? ⟨b, i * 3 + 1, none⟩ = some (.int .i64 p.2.1) ∧ w.cell? ⟨b, i * 3 + 2, none⟩ = some (.int .i64 p.2.2)
theorem PartsIn.below {w w' : World} {b : Nat} {ps : List PartI} (h : PartsIn w b ps) (hb : Below w.heap.size w w') : PartsIn w' b ps := fun i p hp => by
  obtain ⟨h0, h1, h2⟩ := h i p hp
  have hlt : b < w.heap.size := World.block_lt_of_cell? _ _ h0
  exact ⟨(hb.cell (p := ⟨b, i * 3, none⟩) hlt).trans h0, (hb.cell (p := ⟨b, i * 3 + 1, none⟩) hlt).trans h1, (hb.cell (p := ⟨b, i * 3 + 2, none⟩) hlt).trans h2⟩
set_option maxRecDepth 100000 in
set_option maxHeartbeats 800000 in
theorem within_any (ps : List PartI) (b : Nat) (w : World) (hp : PartsIn w b ps) (hn : ps.length ≤ 1000) :
    Calls Try.prog 34 #[.slice (some ⟨b, 0, none⟩) ps.length ps.length] w fun e w' => e = .returned (.bool (ps.all PartI.okB)) ∧ Below w.heap.size w w' := by
  go_enter Try.func34, Try.ntmps34
  go_wp2
  go_loopg [10] ps.length (fun g a wx => ∃ i : Nat, i + g = ps.length ∧ a = .int .i64 (i : Int) ∧ Below w.heap.size w wx ∧ Hid ((ps.take i).all PartI.okB = true))
  case atStart => exact ⟨0, by omega, rfl, Below.refl _ _, Lib.hid rfl⟩
  case round =>
    obtain ⟨i, hi, rfl, hB, hA⟩ := hrel
    by_cases hl : i < ps.length
    · have hp1 : ps[i]? = some ps[i] := List.getElem?_eq_getElem hl
      obtain ⟨k0, k1, k2⟩ := (hp.below hB) i _ hp1
      obtain ⟨⟨n, lo, hi'⟩, hpe⟩ : ∃ q, ps[i] = q := ⟨_, rfl⟩
      rw [hpe] at k0 k1 k2
      have He := Lib.hid (hp1.trans (by rw [hpe]))
      have HB := Lib.hid hB
      clear hp hp1 hpe hB
      go_wp2_with fail
      obtain ⟨r0, r1, r2⟩ := row3_cells wr (.int .i64 n) (.int .i64 lo) (.int .i64 hi') 51
      go_region
      all_goals by_cases hlo : n < lo
      all_goals by_cases hhi : hi' < n
      all_goals go_wp2_with fail
      all_goals have hB2 := drewN_below (HB.out.alloc (HB.out.size) (.cells #[.int .i64 n, .int .i64 lo, .int .i64 hi'] 51)) 1
      iterate 3
        · go_ret
          exact ⟨ret_bool (all_false He.out (PartI.ok_false (by show ¬(lo ≤ n ∧ n ≤ hi'); omega))).symm, hB2⟩
      · go_roundg (gk - 1)
        case measure => omega
        case rel => exact ⟨i + 1, by omega, rfl, hB2, Lib.hid (all_next hA.out He.out (PartI.ok_true (show lo ≤ n by omega) (show n ≤ hi' by omega)))⟩
    · obtain rfl : i = ps.length := by omega
      go_wp2_with fail
      go_ret
      exact ⟨ret_bool (by have := hA.out; rw [List.take_length] at this; exact this.symm), hB⟩
/-- A row of parts, as a call lays it. -/
theorem partsIn_lit (w : World) (ps : List PartI) (t : TypeId) : PartsIn (w.alloc (.cells (ps.flatMap PartI.cells).toArray t)) w.heap.size ps := by
  intro i p hp
  have key : ∀ (ps : List PartI) (i : Nat) (p : PartI), ps[i]? = some p → (ps.flatMap PartI.cells)[i * 3]? = some (.int .i64 p.1) ∧ (ps.flatMap PartI.cells)[i * 3 + 1]? = some (.int .i64 p.2.1) ∧ (ps.flatMap PartI.cells)[i * 3 + 2]? = some (.int .i64 p.2.2) := by
    intro ps
    induction ps with
    | nil => intro i p h; simp at h
    | cons q qs ih =>
      intro i p h
      have hl : q.cells.length = 3 := rfl
      rw [List.flatMap_cons]
      match i, h with
      | 0, h =>
        obtain rfl : q = p := by simpa using h
        exact ⟨rfl, rfl, rfl⟩
      | i + 1, h =>
        obtain ⟨h0, h1, h2⟩ := ih i p (by simpa using h)
        refine ⟨?_, ?_, ?_⟩
        · rw [List.getElem?_append_right (by omega), hl, show (i + 1) * 3 - 3 = i * 3 by omega]; exact h0
        · rw [List.getElem?_append_right (by omega), hl, show (i + 1) * 3 + 1 - 3 = i * 3 + 1 by omega]; exact h1
        · rw [List.getElem?_append_right (by omega), hl, show (i + 1) * 3 + 2 - 3 = i * 3 + 2 by omega]; exact h2
  obtain ⟨h0, h1, h2⟩ := key ps i p hp
  refine ⟨?_, ?_, ?_⟩ <;> rw [World.cell?_alloc_new, List.getElem?_toArray] <;> assumption
def rightB (a b c : Int) : Bool := [((a, 2, 16) : PartI), (b, 1, 32), (c, 1, 48)].all PartI.okB
set_option maxRecDepth 100000 in
set_option maxHeartbeats 800000 in
theorem right_any (a b c : Int) (w : World) :
    Calls Try.prog 9 #[.agg #[.int .i64 a, .int .i64 b, .int .i64 c]] w fun e w' => e = .returned (.bool (rightB a b c)) ∧ Below w.heap.size w w' := by
  go_enter Try.func9, Try.ntmps9
  have hP := partsIn_lit (w.alloc (.cells #[.int .i64 a, .int .i64 b, .int .i64 c] 23)) [((a, 2, 16) : PartI), (b, 1, 32), (c, 1, 48)] 51
  rw [World.size_alloc] at hP
  have hb := (below_new w (.cells #[.int .i64 a, .int .i64 b, .int .i64 c] 23)).alloc (by simp) (.cells #[.int .i64 a, .int .i64 2, .int .i64 16, .int .i64 b, .int .i64 1, .int .i64 32, .int .i64 c, .int .i64 1, .int .i64 48] 51)
  have HP := Lib.hid hP
  have HB := Lib.hid hb
  clear hP hb
  go_wp2_with (go_at_call 34; refine (within_any [((a, 2, 16) : PartI), (b, 1, 32), (c, 1, 48)] (w.heap.size + 1) _ HP.out (by simp)).mono ?_; rintro e w' ⟨rfl, hB⟩)
  go_ret
  exact ⟨ret_bool (by unfold rightB; simp only [List.all_cons, List.all_nil, Bool.and_true]), HB.out.trans (hB.mono HB.out.size)⟩
theorem right_shape {a b c : Int} (h : rightB a b c = true) : ∃ S R P : Nat, a = S ∧ b = R ∧ c = P ∧ Pl.Right S R P := by
  unfold rightB PartI.okB at h
  simp only [List.all_cons, List.all_nil, Bool.and_true, Bool.and_eq_true, decide_eq_true_eq] at h
  obtain ⟨⟨h0, h1⟩, ⟨h2, h3⟩, h4, h5⟩ := h
  obtain ⟨S, rfl⟩ := Int.eq_ofNat_of_zero_le (show 0 ≤ a by omega)
  obtain ⟨R, rfl⟩ := Int.eq_ofNat_of_zero_le (show 0 ≤ b by omega)
  obtain ⟨P, rfl⟩ := Int.eq_ofNat_of_zero_le (show 0 ≤ c by omega)
  exact ⟨S, R, P, rfl, rfl, rfl, by omega, by omega, by omega, by omega, by omega, by omega⟩
theorem right_of {S R P : Nat} (h : Pl.Right S R P) : rightB S R P = true := by
  obtain ⟨h0, h1, h2, h3, h4, h5⟩ := h
  unfold rightB PartI.okB
  simp only [List.all_cons, List.all_nil, Bool.and_true, Bool.and_eq_true, decide_eq_true_eq]
  omega
set_option maxRecDepth 100000 in
set_option maxHeartbeats 800000 in
theorem rright_any (a b c : Int) (w : World) :
    Calls Try.prog 10 #[.agg #[.int .i64 a, .int .i64 b, .int .i64 c]] w fun e w' => e = .returned (.bool (rightB a b c)) ∧ Below w.heap.size w w' := by
  have he : rightB a b c = decide (2 ≤ a ∧ a ≤ 16 ∧ 1 ≤ b ∧ b ≤ 32 ∧ 1 ≤ c ∧ c ≤ 48) := by
    unfold rightB PartI.okB
    simp only [List.all_cons, List.all_nil, Bool.and_true, ← Bool.decide_and, decide_eq_decide]
    omega
  have HE := Lib.hid he
  clear he
  have HB := Lib.hid (below_new w (.cells #[.int .i64 a, .int .i64 b, .int .i64 c] 23))
  rcases (show a < 2 ∨ (2 ≤ a ∧ 16 < a) ∨ (2 ≤ a ∧ a ≤ 16 ∧ b < 1) ∨ (2 ≤ a ∧ a ≤ 16 ∧ 1 ≤ b ∧ 32 < b) ∨ (2 ≤ a ∧ a ≤ 16 ∧ 1 ≤ b ∧ b ≤ 32 ∧ c < 1) ∨ (2 ≤ a ∧ a ≤ 16 ∧ 1 ≤ b ∧ b ≤ 32 ∧ 1 ≤ c ∧ 48 < c) ∨ (2 ≤ a ∧ a ≤ 16 ∧ 1 ≤ b ∧ b ≤ 32 ∧ 1 ≤ c ∧ c ≤ 48) by omega) with h | ⟨h0, h⟩ | ⟨h0, h1, h⟩ | ⟨h0, h1, h2, h⟩ | ⟨h0, h1, h2, h3, h⟩ | ⟨h0, h1, h2, h3, h4, h⟩ | ⟨h0, h1, h2, h3, h4, h⟩
  all_goals go_enter Try.func10, Try.ntmps10
  all_goals go_wp2_with fail
  all_goals go_ret
  all_goals exact ⟨ret_bool (by rw [HE.out]; first | exact (decide_eq_true (by omega)).symm | exact (decide_eq_false (by omega)).symm | exact decide_eq_decide.2 (by omega)), HB.out⟩
end Go.Proofs.Ytapejjlnicmfiaa
