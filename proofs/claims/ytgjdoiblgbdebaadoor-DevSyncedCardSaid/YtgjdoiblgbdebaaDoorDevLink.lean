/- What is in memory, and the disk that the page tells: each step of the one is a step of the other. -/
import Derived.Test.YtgjdoiblgbdebaaDoorDevTurn
import Derived.Test.YtgjdoiblgbdebaaDoorDevSettleW
namespace Go.Proofs.YtgjdoiblgbdebaaDoor
open Go.RowKit
def MCell.cell (m : MCell) : List Int × Bool := (m.bs, m.hurt)
section
variable {D : DM} {hu tu cr : Nat} {M : List MCell} {ws : List (Nat × List Int)} {left : Int} {dn : Bool}
theorem DevL.cells (l : DevL D hu tu cr M ws left dn) : D.cells = M.map MCell.cell := by
  apply List.ext_getElem?
  intro n
  rw [List.getElem?_map]
  cases h : M[n]? with
  | none =>
    rw [List.getElem?_eq_none_iff] at h
    rw [List.getElem?_eq_none (by have := l.len; omega)]; rfl
  | some m => exact (l.mm n m h).1
theorem hurts_cells (M : List MCell) : hurts (M.map MCell.cell) = mHurts M := by unfold hurts mHurts; rw [List.countP_map]; rfl
theorem DevL.mk' {M : List MCell} (hc : D.cells = M.map MCell.cell) (hl : ∀ (n : Nat) m, M[n]? = some m → m.last = lastOf D.waits n) (ha : D.down = false → left = D.armed) (hb : 0 ≤ left ∧ left ≤ 9223372036854775807) (h0 : 0 < M.length) : DevL D (mHurts M) D.turns D.crashes M D.waits left D.down :=
  ⟨by rw [hc, hurts_cells], rfl, rfl, by rw [hc, List.length_map], fun n m h => ⟨by rw [hc, List.getElem?_map, h]; rfl, hl n m h⟩, rfl, rfl, ha, hb, h0⟩
theorem DevL.lasts (l : DevL D hu tu cr M ws left dn) (n : Nat) (m : MCell) (h : M[n]? = some m) : m.last = lastOf D.waits n := (l.mm n m h).2
theorem map_set_last (M : List MCell) (n x : Nat) : (M.set n { M.getD n default with last := x }).map MCell.cell = M.map MCell.cell := by
  by_cases hn : n < M.length
  · rw [List.map_set, getD_at hn]
    have : MCell.cell { M[n] with last := x } = (M.map MCell.cell)[n]'(by rw [List.length_map]; exact hn) := by rw [List.getElem_map]; rfl
    rw [this, List.set_getElem_self]
  · rw [List.set_eq_of_length_le (by omega)]
theorem map_stored {M : List MCell} {p : Nat × List Int} {s : Nat} (hn : p.1 < M.length) : (storedM M p s).map MCell.cell = (M.map MCell.cell).set p.1 (storeS ((M.map MCell.cell).getD p.1 ([], false)) p.2 s) := by
  unfold storedM
  rw [List.map_set]
  congr 1
  rw [getD_at hn, List.getD_eq_getElem?_getD, List.getElem?_map, List.getElem?_eq_getElem hn]
  rfl
theorem settle_cells {M : List MCell} {ws : List (Nat × List Int)} (f : Nat → Nat) (hw : ∀ p ∈ ws, p.1 < M.length) : ∀ k, (settleM M ws f k).map MCell.cell = settleK (M.map MCell.cell) ws f k
  | 0 => rfl
  | k + 1 => by
    unfold settleM settleK
    cases h : ws[k]? with
    | none => exact settle_cells f hw k
    | some p =>
      have hp : p.1 < (settleM M ws f k).length := by rw [settleM_len]; exact hw p (List.mem_of_getElem? h)
      show (stepM (settleM M ws f k) p (f k)).map MCell.cell = (settleK (M.map MCell.cell) ws f k).set p.1 (storeS ((settleK (M.map MCell.cell) ws f k).getD p.1 ([], false)) p.2 (f k))
      unfold stepM
      rw [map_set_last, map_stored hp, settle_cells f hw k]
theorem lastAt_none {ws : List (Nat × List Int)} {n : Nat} : ∀ k, (∀ i, i < k → (ws[i]?.map (·.1)) ≠ some n) → lastAt ws n k = 0
  | 0, _ => rfl
  | k + 1, h => by
    unfold lastAt
    rw [if_neg (h k (Nat.lt_succ_self k))]
    exact lastAt_none k (fun i hi => h i (Nat.lt_succ_of_lt hi))
theorem settle_last {M : List MCell} {ws : List (Nat × List Int)} (f : Nat → Nat) (hM : ∀ (n : Nat) m, M[n]? = some m → m.last = lastOf ws n) : ∀ k (n : Nat) m, (settleM M ws f k)[n]? = some m → m.last = 0 ∨ (m.last = lastOf ws n ∧ ∀ i, i < k → (ws[i]?.map (·.1)) ≠ some n)
  | 0 => fun n m h => .inr ⟨hM n m h, fun i hi => by omega⟩
  | k + 1 => by
    intro n m
    unfold settleM
    cases h : ws[k]? with
    | none =>
      intro hm
      rcases settle_last f hM k n m hm with h1 | ⟨h1, h2⟩
      · exact .inl h1
      · refine .inr ⟨h1, fun i hi => ?_⟩
        by_cases e : i = k
        · rw [e, h]; simp
        · exact h2 i (by omega)
    | some p =>
      show (stepM (settleM M ws f k) p (f k))[n]? = some m → _
      unfold stepM
      rw [List.getElem?_set]
      split
      · split
        · intro e; injection e with e; rw [← e]; exact .inl rfl
        · intro e; cases e
      · next hne =>
        unfold storedM
        rw [List.getElem?_set, if_neg hne]
        intro hm
        rcases settle_last f hM k n m hm with h1 | ⟨h1, h2⟩
        · exact .inl h1
        · refine .inr ⟨h1, fun i hi => ?_⟩
          by_cases e : i = k
          · rw [e, h]; simpa using hne
          · exact h2 i (by omega)
theorem settle_lasts {M : List MCell} {ws : List (Nat × List Int)} (f : Nat → Nat) (hM : ∀ (n : Nat) m, M[n]? = some m → m.last = lastOf ws n) (n : Nat) (m : MCell) (h : (settleM M ws f ws.length)[n]? = some m) : m.last = lastOf [] n := by
  rcases settle_last f hM _ n m h with h1 | ⟨h1, h2⟩
  · exact h1
  · rw [h1]; exact lastAt_none _ h2
/-- One write more waits. -/
theorem DevL.waits (l : DevL D hu tu cr M ws left dn) (hd : D.down = false) (n : Nat) (b : List Int) :
    DevL { D.turned with waits := D.waits ++ [(n, b)] } hu (tu + 1) cr (lastM M n (ws.length + 1)) (ws ++ [(n, b)]) (nextLeft left) dn := by
  obtain ⟨h1, h2, h3, h4, h5, h6, h7, h8, h9, h10⟩ := id l
  subst h1 h2 h3 h6 h7
  have hcc : ({ D.turned with waits := D.waits ++ [(n, b)] } : DM).cells = (lastM M n (D.waits.length + 1)).map MCell.cell := by
    unfold lastM; rw [map_set_last]; exact l.cells
  have := DevL.mk' (D := { D.turned with waits := D.waits ++ [(n, b)] }) (left := nextLeft left) hcc (fun j m hm => ?_) (fun hd' => ?_) (by unfold nextLeft; split <;> omega) (by unfold lastM; rw [List.length_set]; exact h10)
  · rw [← hurts_cells, ← hcc] at this
    exact this
  · show m.last = lastOf (D.waits ++ [(n, b)]) j
    rw [lastOf_app]
    unfold lastM at hm
    rw [List.getElem?_set] at hm
    split at hm
    · next e =>
      split at hm
      · injection hm with hm; rw [← hm, if_pos e]
      · cases hm
    · next e => rw [if_neg e]; exact (h5 j m hm).2
  · have h := h8 hd
    show nextLeft left = ((D.armed - 1 : Nat) : Int)
    unfold nextLeft
    rw [h]
    split <;> omega
/-- All that waits is stored, or lost. -/
theorem DevL.settle (l : DevL D hu tu cr M ws left dn) (f : Nat → Nat) (hw : ∀ p ∈ ws, p.1 < M.length) {D' : DM} (hc : D'.cells = (D.settle f).cells) (hw' : D'.waits = []) {left' : Int} (ha : D'.down = false → left' = D'.armed) (hb : 0 ≤ left' ∧ left' ≤ 9223372036854775807) :
    DevL D' (mHurts (settleM M ws f ws.length)) D'.turns D'.crashes (settleM M ws f ws.length) [] left' D'.down := by
  obtain ⟨h1, h2, h3, h4, h5, h6, h7, h8, h9, h10⟩ := id l
  subst h1 h2 h3 h6 h7
  have := DevL.mk' (D := D') (M := settleM M D.waits f D.waits.length) (left := left') (by rw [hc, settle_cells f hw, ← l.cells]; rfl) (fun j m hm => by rw [hw']; exact settle_lasts f (fun n m h => (h5 n m h).2) j m hm) ha hb (by rw [settleM_len]; exact h10)
  rw [hw'] at this
  exact this
/-- It goes down. -/
theorem DevL.falls (l : DevL D hu tu cr M ws left dn) {D' : DM} (hc : D'.cells = D.cells) (hw : D'.waits = D.waits) (ht : D'.turns = D.turns) (hcr : D'.crashes = D.crashes + 1) (hd : D'.down = true) : DevL D' hu tu (cr + 1) M ws left true :=
  ⟨by rw [hc]; exact l.hu, by rw [ht]; exact l.tu, by rw [hcr, ← l.cr], by rw [hc]; exact l.len, fun n m h => by rw [hc, hw]; exact l.mm n m h, by rw [hw]; exact l.ws, hd.symm, (fun e => by rw [hd] at e; cases e), l.lo, l.some_⟩
theorem DevL.hasB (l : DevL D hu tu cr M ws left dn) (n : Int) : hasB M n = decide (D.has n) := by
  unfold Go.Proofs.YtgjdoiblgbdebaaDoor.hasB DM.has
  rw [l.len]
end
end Go.Proofs.YtgjdoiblgbdebaaDoor
