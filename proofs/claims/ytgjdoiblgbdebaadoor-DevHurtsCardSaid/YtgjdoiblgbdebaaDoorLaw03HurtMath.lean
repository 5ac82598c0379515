/- What a disk is behind a write, a rot, a wipe: reckoned by the page alone. -/
import Derived.Test.YtgjdoiblgbdebaaDoorDevRot
import Derived.Test.YtgjdoiblgbdebaaDoorDevStat
namespace Go.Proofs.YtgjdoiblgbdebaaDoor
/-- A disk of B blocks, noughts but for block m. -/
def DS (B m : Nat) (x : List Int × Bool) (t : Nat) : DM := ⟨(List.replicate B nought).set m x, [], 0, t, 0, false⟩
section
variable {B m : Nat} {x : List Int × Bool} {t : Nat}
theorem ds_new (B m : Nat) : DM.new B = DS B m nought 0 := by
  unfold DM.new DS
  rw [List.set_replicate_self]
theorem ds_len : (DS B m x t).cells.length = B := by unfold DS; simp
theorem ds_has (hm : m < B) : (DS B m x t).has (m : Int) := by unfold DM.has; rw [ds_len]; omega
theorem ds_get (hm : m < B) : (DS B m x t).cells.getD m ([], false) = x := by
  unfold DS
  rw [List.getD_eq_getElem?_getD, List.getElem?_set_self (by simpa using hm)]; rfl
theorem ds_stored (hm : m < B) : (DS B m x t).stored m = x.1 := by unfold DM.stored; rw [ds_get hm]
theorem ds_storedI (hm : m < B) : (DS B m x t).storedI (m : Int) = x.1 := by unfold DM.storedI; rw [if_pos (ds_has hm), Int.toNat_natCast, ds_stored hm]
theorem ds_hurts (hm : m < B) : hurts (DS B m x t).cells = if x.2 then 1 else 0 := by
  unfold DS
  rw [hurts_set (by simpa using hm)]
  have h1 : hurts (List.replicate B nought) = 0 := by unfold hurts; simp
  have h2 : (List.replicate B nought).getD m ([], false) = nought := by rw [List.getD_eq_getElem?_getD, List.getElem?_replicate, if_pos hm]; rfl
  rw [h1, h2]; simp
theorem ds_write (hm : m < B) {b : List Int} (hb : b.length ≤ 256) : (DS B m x t).write (m : Int) b = (0, ⟨(DS B m x t).cells, [(m, padB b)], 0, t + 1, 0, false⟩) := by
  unfold DM.write
  rw [if_neg (show ¬ (DS B m x t).down = true from Bool.false_ne_true), if_neg (fun e => e.elim (fun h => h (ds_has hm)) (by omega)), if_neg (show ¬ (DS B m x t).armed = 1 from Nat.zero_ne_one), Int.toNat_natCast]
  rfl
theorem ds_sync (hm : m < B) {b : List Int} (hx : BlkOk x.1) (hb : BlkOk b) : DM.sync ⟨(DS B m x t).cells, [(m, b)], 0, t + 1, 0, false⟩ = (0, DS B m (b, false) (t + 2)) := by
  unfold DM.sync
  rw [if_neg (show ¬ (false = true) from Bool.false_ne_true), if_neg (show ¬ ((0 : Nat) = 1) from Nat.zero_ne_one)]
  unfold DM.turned DM.settle
  have h1 : settleK (DS B m x t).cells [(m, b)] (fun _ => 8) 1 = (DS B m x t).cells.set m (storeS ((DS B m x t).cells.getD m ([], false)) b 8) := rfl
  have h2 : (DS B m x t).cells.set m (b, false) = (DS B m (b, false) (t + 2)).cells := by unfold DS; rw [List.set_set]
  show ((0 : Int), (⟨settleK (DS B m x t).cells [(m, b)] (fun _ => 8) 1, [], 0, t + 1 + 1, 0, false⟩ : DM)) = _
  rw [h1, ds_get hm, storeS_whole hx hb, h2]; rfl
theorem pad_full {b : List Int} (h : b.length = 256) : padB b = b := by unfold padB; rw [h]; simp
theorem rot_hurt (D : DM) (n : Nat) (hn : D.has (n : Int)) (bit : Int) (mask : Nat) : D.rot (n : Int) bit mask = D.hurt n (rotB (D.stored n) bit mask) := by
  unfold DM.rot rotB
  rw [Int.toNat_natCast]
  by_cases hbit : 0 ≤ bit ∧ bit < 2048
  · rw [if_pos ⟨hn, hbit⟩, if_pos hbit]
  · rw [if_neg (fun e => hbit e.2), if_neg hbit]; unfold DM.hurt; rw [if_pos rfl]
theorem ds_hurt (hm : m < B) (b : List Int) : (DS B m x t).hurt m b = if b = x.1 then (2, DS B m x t) else if x.2 then (16, DS B m x t) else (0, DS B m (b, true) t) := by
  unfold DM.hurt
  rw [ds_stored hm, ds_get hm]
  split
  · rfl
  · split
    · rfl
    · unfold DS; rw [List.set_set]
theorem ds_rot (hm : m < B) (bit : Int) (mask : Nat) : (DS B m x t).rot (m : Int) bit mask = if rotB x.1 bit mask = x.1 then (2, DS B m x t) else if x.2 then (16, DS B m x t) else (0, DS B m (rotB x.1 bit mask, true) t) := by
  rw [rot_hurt _ _ (ds_has hm), ds_hurt hm, ds_stored hm]
theorem ds_wipe (hm : m < B) : (DS B m x t).wipe (m : Int) = if zero256 = x.1 then (2, DS B m x t) else if x.2 then (16, DS B m x t) else (0, DS B m (zero256, true) t) := by
  unfold DM.wipe
  rw [if_pos (ds_has hm), Int.toNat_natCast]
  exact ds_hurt hm zero256
end
/-! ### What is turned twice is as it was -/
/-- What the first k bits of the mask turn of byte j. -/
def turnK (bit mask j : Nat) : Nat → Nat
  | 0 => 0
  | k + 1 => if mask.testBit k && decide ((bit + k) / 8 = j) then turnK bit mask j k ^^^ (1 <<< ((bit + k) % 8)) else turnK bit mask j k
theorem flipK_at {b : List Int} (hb : BlkOk b) (bit mask : Nat) : ∀ k j, j < 256 → (flipK b bit mask k).getD j 0 = (((b.getD j 0).toNat ^^^ turnK bit mask j k : Nat) : Int)
  | 0, j, hj => by
    have hlt : j < b.length := by rw [hb.1]; exact hj
    have h := hb.2 _ (List.getElem_mem hlt)
    unfold flipK turnK
    rw [List.getD_eq_getElem?_getD, List.getElem?_eq_getElem hlt, Nat.xor_zero]
    show b[j]'hlt = (((b[j]'hlt).toNat : Nat) : Int)
    omega
  | k + 1, j, hj => by
    have ih := flipK_at hb bit mask k j hj
    have hl := (flipK_ok hb bit mask k).1
    unfold flipK flipAt turnK
    by_cases ht : mask.testBit k = true
    · rw [if_pos ht, ht, Bool.true_and]
      by_cases hq : (bit + k) / 8 = j
      · rw [decide_eq_true hq, if_pos rfl, hq, List.getD_eq_getElem?_getD, List.getElem?_set_self (by rw [hl]; exact hj)]
        rw [ih]
        show (((_ : Nat) : Int)) = _
        rw [Int.toNat_natCast, Nat.xor_assoc]
      · rw [decide_eq_false hq, if_neg (by decide), List.getD_eq_getElem?_getD, List.getElem?_set_ne hq, ← List.getD_eq_getElem?_getD, ih]
    · rw [if_neg ht, Bool.eq_false_iff.2 ht, Bool.false_and, if_neg (by decide), ih]
theorem flip_twice {b : List Int} (hb : BlkOk b) (bit mask k : Nat) : flipK (flipK b bit mask k) bit mask k = b := by
  have h1 := flipK_ok hb bit mask k
  have h2 := flipK_ok h1 bit mask k
  apply List.ext_getElem
  · rw [h2.1, hb.1]
  · intro j hj hj'
    have hj2 : j < 256 := by rw [h2.1] at hj; exact hj
    have e1 := flipK_at h1 bit mask k j hj2
    have e2 := flipK_at hb bit mask k j hj2
    rw [e2, Int.toNat_natCast, Nat.xor_assoc, Nat.xor_self, Nat.xor_zero] at e1
    rw [List.getD_eq_getElem?_getD, List.getElem?_eq_getElem hj, List.getD_eq_getElem?_getD, List.getElem?_eq_getElem hj'] at e1
    have := hb.2 _ (List.getElem_mem hj')
    simp only [Option.getD_some] at e1
    omega
theorem rot_twice {b : List Int} (hb : BlkOk b) (bit : Int) (mask : Nat) : rotB (rotB b bit mask) bit mask = b := by
  unfold rotB
  split
  · exact flip_twice hb _ _ _
  · rfl
theorem turn_one (bit : Nat) : ∀ k, 0 < k → turnK bit 1 (bit / 8) k = 1 <<< (bit % 8)
  | 0, h => by omega
  | 1, _ => by unfold turnK turnK; simp
  | k + 2, _ => by
    have ih := turn_one bit (k + 1) (by omega)
    unfold turnK
    rw [ih]
    have : (1 : Nat).testBit (k + 1) = false := by
      rw [Nat.testBit_succ]; simp
    rw [this]; rfl
/-- One bit turned is another block. -/
theorem rot_one {b : List Int} (hb : BlkOk b) (bit : Nat) (h : bit < 2048) : rotB b (bit : Int) 1 ≠ b := by
  intro e
  unfold rotB at e
  rw [if_pos ⟨by omega, by omega⟩, Int.toNat_natCast] at e
  have hj : bit / 8 < 256 := by omega
  have h1 := flipK_at hb bit 1 (min 32 (2048 - bit)) (bit / 8) hj
  rw [e, turn_one bit _ (by omega)] at h1
  have h2 := hb.2 _ (List.getElem_mem (show bit / 8 < b.length by rw [hb.1]; exact hj))
  rw [List.getD_eq_getElem?_getD, List.getElem?_eq_getElem (by rw [hb.1]; exact hj)] at h1
  simp only [Option.getD_some] at h1
  have h3 : b[bit / 8]'(by rw [hb.1]; exact hj) = (((b[bit / 8]'(by rw [hb.1]; exact hj)).toNat : Nat) : Int) := by omega
  have h4 : (b[bit / 8]'(by rw [hb.1]; exact hj)).toNat = (b[bit / 8]'(by rw [hb.1]; exact hj)).toNat ^^^ 1 <<< (bit % 8) := by omega
  have h5 := congrArg (fun y => (b[bit / 8]'(by rw [hb.1]; exact hj)).toNat ^^^ y) h4
  simp only [← Nat.xor_assoc, Nat.xor_self, Nat.zero_xor] at h5
  rw [Nat.one_shiftLeft] at h5
  have := Nat.two_pow_pos (bit % 8)
  omega
end Go.Proofs.YtgjdoiblgbdebaaDoor
