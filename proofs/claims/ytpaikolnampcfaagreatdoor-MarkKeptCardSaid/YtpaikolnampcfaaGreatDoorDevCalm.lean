/- A disk that is up and unarmed, what its calls make of it. -/
import Derived.Test.YtpaikolnampcfaaGreatDoorDevStored
namespace Go.Proofs.YtpaikolnampcfaaGreatDoor
/-- A disk of so many blocks, which is up and unarmed. -/
structure Calm (B : Nat) (D : DM) : Prop where
  len : D.cells.length = B
  up : D.down = false
  unarmed : D.armed = 0
section
variable {B : Nat} {D : DM}
theorem Calm.write (h : Calm B D) (n : Int) (hn : 0 ≤ n ∧ n < (B : Int)) (bs : List Int) : Calm B (D.write n bs).2 ∧ (D.write n bs).2.cells = D.cells ∧ (D.write n bs).2.waits = D.waits ++ (if bs.length ≤ 256 then [(n.toNat, padB bs)] else []) := by
  have hh : D.has n := ⟨hn.1, by rw [h.len]; exact hn.2⟩
  unfold DM.write
  rw [if_neg (by rw [h.up]; decide)]
  by_cases hb : 256 < bs.length
  · rw [if_pos (.inr hb), if_neg (by omega)]; exact ⟨h, rfl, (List.append_nil _).symm⟩
  · rw [if_neg (by rintro (h1 | h1); exact h1 hh; exact hb h1), if_neg (by rw [h.unarmed]; decide), if_pos (by omega)]
    exact ⟨⟨h.len, h.up, by show D.armed - 1 = 0; rw [h.unarmed]⟩, rfl, rfl⟩
theorem DM.Few.write {k : Nat} (h : D.Few k) (n : Int) (bs : List Int) : (D.write n bs).2.Few (k + 1) := by
  have h1 := h.tu
  have h2 := h.cr
  have h3 := h.ws
  have h0 : D.Few (k + 1) := ⟨by omega, by omega, by omega⟩
  unfold DM.write
  split
  · exact h0
  · split
    · exact h0
    · split
      · exact ⟨by show D.turns ≤ _; omega, by show D.crashes + 1 ≤ _; omega, by show D.waits.length ≤ _; omega⟩
      · exact ⟨by show D.turns + 1 ≤ _; omega, by show D.crashes ≤ _; omega, by show (D.waits ++ [_]).length ≤ _; rw [List.length_append, List.length_singleton]; omega⟩
theorem Calm.write0 (h : Calm B D) (n : Int) (hn : 0 ≤ n ∧ n < (B : Int)) (bs : List Int) (hb : bs.length ≤ 256) : (D.write n bs).1 = 0 := by
  have hh : D.has n := ⟨hn.1, by rw [h.len]; exact hn.2⟩
  unfold DM.write
  rw [if_neg (by rw [h.up]; decide), if_neg (by rintro (h1 | h1); exact h1 hh; omega), if_neg (by rw [h.unarmed]; decide)]
theorem Calm.new {B : Nat} : Calm B (DM.new B) := ⟨List.length_replicate, rfl, rfl⟩
theorem Few.new {B : Nat} : (DM.new B).Few 0 := ⟨Nat.le_refl 0, Nat.le_refl 0, Nat.le_refl 0⟩
theorem Calm.sync (h : Calm B D) {k : Nat} (hF : D.Few k) : D.sync.1 = 0 ∧ Calm B D.sync.2 ∧ D.sync.2.waits = [] ∧ D.sync.2.Few (k + 1) := by
  unfold DM.sync
  rw [if_neg (by rw [h.up]; decide), if_neg (by rw [h.unarmed]; decide)]
  have h1 := hF.tu
  have h2 := hF.cr
  exact ⟨rfl, ⟨by show (settleK _ _ _ _).length = B; rw [settleK_len]; exact h.len, h.up, by show D.armed - 1 = 0; rw [h.unarmed]⟩, rfl, ⟨by show D.turns + 1 ≤ _; omega, by show D.crashes ≤ _; omega, Nat.zero_le _⟩⟩
theorem Calm.crash (h : Calm B D) {k : Nat} (hF : D.Few k) (stay torn sectors : Int) : D.crash.1 = 0 ∧ D.crash.2.Few (k + 1) ∧ (D.crash.2.wake stay torn sectors).1 = 0 ∧ (D.crash.2.wake stay torn sectors).2.cells = settleK D.cells D.waits (fate stay torn sectors) D.waits.length ∧ (D.crash.2.wake stay torn sectors).2.waits = [] ∧ Calm B (D.crash.2.wake stay torn sectors).2 := by
  unfold DM.crash
  rw [if_neg (by rw [h.up]; decide)]
  have h1 := hF.tu
  have h2 := hF.cr
  have h3 := hF.ws
  refine ⟨rfl, ⟨by show D.turns ≤ _; omega, by show D.crashes + 1 ≤ _; omega, by show D.waits.length ≤ _; omega⟩, ?_⟩
  unfold DM.wake
  rw [if_pos rfl]
  exact ⟨rfl, rfl, rfl, ⟨by show (settleK _ _ _ _).length = B; rw [settleK_len]; exact h.len, rfl, rfl⟩⟩
theorem Calm.read (h : Calm B D) (hw : D.waits = []) {n : Nat} (hn : n < B) : D.read (n : Int) = (D.stored n, 0) ∧ D.storedI (n : Int) = D.stored n := by
  have hh : D.has (n : Int) := ⟨by omega, by rw [h.len]; omega⟩
  unfold DM.read DM.storedI
  rw [if_neg (by rw [h.up]; decide), if_pos hh, if_pos hh, Int.toNat_natCast]
  refine ⟨?_, rfl⟩
  unfold DM.seen
  rw [hw]; rfl
theorem Calm.stored (h : Calm B D) {n : Nat} (hn : n < B) : D.storedI (n : Int) = D.stored n := by
  have hh : D.has (n : Int) := ⟨by omega, by rw [h.len]; omega⟩
  unfold DM.storedI
  rw [if_pos hh, Int.toNat_natCast]
theorem DM.Ok.stored_len (h : D.Ok) {n : Nat} (hn : n < D.cells.length) : (D.stored n).length = 256 := by
  unfold DM.stored
  rw [List.getD_eq_getElem?_getD, List.getElem?_eq_getElem hn]
  exact (h.bytes n _ (List.getElem?_eq_getElem hn)).1
end
/-- A disk of one block, that is up, where nothing waits. -/
structure One (D : DM) (b : List Int) (hurt : Bool) : Prop where
  calm : Calm 1 D
  cells : D.cells = [(b, hurt)]
  waits : D.waits = []
section
variable {D : DM} {b c : List Int} {hurt : Bool}
theorem One.new : One (DM.new 1) (List.replicate 256 0) false := ⟨Calm.new, rfl, rfl⟩
theorem One.stored (h : One D b hurt) : D.storedI 0 = b := by
  rw [show (0 : Int) = ((0 : Nat) : Int) from rfl, h.calm.stored (by decide)]
  unfold DM.stored
  rw [h.cells]; rfl
theorem padB_full (hc : c.length = 256) : padB c = c := by unfold padB; rw [hc]; simp
/-- Written, synced. -/
theorem One.sync (h : One D b hurt) (hb : BlkOk b) (hc : BlkOk c) {k : Nat} (hF : D.Few k) : (D.write 0 c).1 = 0 ∧ (D.write 0 c).2.Few (k + 1) ∧ (D.write 0 c).2.sync.1 = 0 ∧ One (D.write 0 c).2.sync.2 c false ∧ (D.write 0 c).2.sync.2.Few (k + 2) := by
  have h0 : (0 : Int) ≤ 0 ∧ (0 : Int) < ((1 : Nat) : Int) := by decide
  obtain ⟨h1, h2, h3⟩ := h.calm.write 0 h0 c
  have hF1 := hF.write 0 c
  obtain ⟨s1, s2, s3, s4⟩ := h1.sync hF1
  refine ⟨h.calm.write0 0 h0 c (by have := hc.1; omega), hF1, s1, ⟨s2, ?_, s3⟩, s4⟩
  unfold DM.sync
  rw [if_neg (by rw [h1.up]; decide), if_neg (by rw [h1.unarmed]; decide)]
  show settleK (D.write 0 c).2.cells (D.write 0 c).2.waits (fun _ => 8) (D.write 0 c).2.waits.length = [(c, false)]
  rw [h2, h3, h.cells, h.waits, if_pos (by have := hc.1; omega), padB_full hc.1]
  show [storeS (b, hurt) c 8] = [(c, false)]
  rw [storeS_whole hb hc]
/-- Written, crashed, woken: the first write torn. -/
theorem One.torn (h : One D b hurt) (hc : BlkOk c) {k : Nat} (hF : D.Few k) (sectors : Int) : (D.write 0 c).1 = 0 ∧ (D.write 0 c).2.Few (k + 1) ∧ (D.write 0 c).2.crash.1 = 0 ∧ (D.write 0 c).2.crash.2.Few (k + 2) ∧ ((D.write 0 c).2.crash.2.wake 0 0 sectors).1 = 0 ∧
    ∃ hurt', One ((D.write 0 c).2.crash.2.wake 0 0 sectors).2 (c.take (32 * (sectors % 9).toNat) ++ b.drop (32 * (sectors % 9).toNat)) hurt' := by
  have h0 : (0 : Int) ≤ 0 ∧ (0 : Int) < ((1 : Nat) : Int) := by decide
  obtain ⟨h1, h2, h3⟩ := h.calm.write 0 h0 c
  have hF1 := hF.write 0 c
  obtain ⟨s1, s2, s3, s4, s5, s6⟩ := h1.crash hF1 0 0 sectors
  refine ⟨h.calm.write0 0 h0 c (by have := hc.1; omega), hF1, s1, s2, s3, (storeS (b, hurt) c (sectors % 9).toNat).2, s6, ?_, s5⟩
  rw [s4, h2, h3, h.cells, h.waits, if_pos (by have := hc.1; omega), padB_full hc.1]
  show [storeS (b, hurt) c (fate 0 0 sectors 0)] = _
  rw [show fate 0 0 sectors 0 = (sectors % 9).toNat from if_pos rfl]
  rfl
theorem One.few_wake {k : Nat} (hF : D.Few k) (stay torn sectors : Int) : (D.wake stay torn sectors).2.Few k := by
  unfold DM.wake
  split
  · exact ⟨hF.tu, hF.cr, Nat.zero_le _⟩
  · exact hF
/-- Hurt by a burst. -/
theorem One.rot (h : One D b false) (bit : Int) (hb : 0 ≤ bit ∧ bit < 2048) (mask : Nat) : ((D.rot 0 bit mask).1 = 0 ↔ flipK b bit.toNat mask (min 32 (2048 - bit.toNat)) ≠ b) ∧
    ∃ hurt', One (D.rot 0 bit mask).2 (flipK b bit.toNat mask (min 32 (2048 - bit.toNat))) hurt' := by
  have hh : D.has 0 := ⟨by decide, by rw [h.calm.len]; decide⟩
  have hs : D.stored 0 = b := by unfold DM.stored; rw [h.cells]; rfl
  unfold DM.rot
  rw [if_pos ⟨hh, hb⟩, show (0 : Int).toNat = 0 from rfl, hs]
  generalize flipK b bit.toNat mask (min 32 (2048 - bit.toNat)) = c
  unfold DM.hurt
  rw [hs]
  by_cases hc : c = b
  · rw [if_pos hc]
    exact ⟨⟨fun e => absurd (show (2 : Int) = 0 from e) (by decide), fun e => absurd hc e⟩, false, by rw [hc]; exact h⟩
  · rw [if_neg hc, if_neg (by rw [h.cells]; exact Bool.false_ne_true)]
    exact ⟨⟨fun _ => hc, fun _ => rfl⟩, true, ⟨by show (D.cells.set 0 _).length = 1; rw [List.length_set]; exact h.calm.len, h.calm.up, h.calm.unarmed⟩, by show D.cells.set 0 _ = _; rw [h.cells]; rfl, h.waits⟩
/-- Wiped. -/
theorem One.wipe (h : One D b false) (hb : b ≠ List.replicate 256 0) : (D.wipe 0).1 = 0 ∧ One (D.wipe 0).2 (List.replicate 256 0) true := by
  have hh : D.has 0 := ⟨by decide, by rw [h.calm.len]; decide⟩
  have hs : D.stored 0 = b := by unfold DM.stored; rw [h.cells]; rfl
  unfold DM.wipe
  rw [if_pos hh, show (0 : Int).toNat = 0 from rfl]
  unfold DM.hurt
  rw [hs, if_neg (fun e => hb e.symm), if_neg (by rw [h.cells]; exact Bool.false_ne_true)]
  exact ⟨rfl, ⟨by show (D.cells.set 0 _).length = 1; rw [List.length_set]; exact h.calm.len, h.calm.up, h.calm.unarmed⟩, by show D.cells.set 0 _ = _; rw [h.cells]; rfl, h.waits⟩
end
end Go.Proofs.YtpaikolnampcfaaGreatDoor
