/- A disk that is up and unarmed, what its calls make of it. -/
/- Disks where nothing waits: a block that is stored, two in a row, crashed at any turn and woken: plain mathematics. -/
/- What each call of marks makes of a disk: plain mathematics. -/
/- Copies that are hurt, and Puts that are crashed: plain mathematics. -/
/- Copies that are hurt by bursts: plain mathematics. -/
/- The chapter's example: plain mathematics. -/
import Derived.Test.YtpaikolnampcfaaGreatDoorDevStored
import Derived.Test.YtpaikolnampcfaaGreatDoorMarkV
namespace Go.Proofs.YtpaikolnampcfaaGreatDoor
/-- A disk of so many blocks, which is up and unarmed. -/
structure Calm (B : Nat) (D : DM) : Prop where
  len : D.cells.length = B
  up : D.down = false
  unarmed : D.armed = 0
section
variable {B : Nat} {D : DM}
theorem Calm.write (h : Calm B D) (n : Int) (hn : 0 ≤ n ∧ n < (B : Int)) (bs : List Int) : Calm B (D.write n bs).2 ∧ (D.write n bs).2.cells = D.cells ∧ (D.write n bs).2.waits = D.waits ++ (if bs.length ≤ 256 then [(n.toNat, padB bs)] else []) := by
  have hh : D.has n := ⟨hn.1, by rw [h.len]; exact hn.2⟩
  unfold DM.write
  rw [if_neg (by rw [h.up]; decide)]
  by_cases hb : 256 < bs.length
  · rw [if_pos (.inr hb), if_neg (by omega)]; exact ⟨h, rfl, (List.append_nil _).symm⟩
  · rw [if_neg (by rintro (h1 | h1); exact h1 hh; exact hb h1), if_neg (by rw [h.unarmed]; decide), if_pos (by omega)]
    exact ⟨⟨h.len, h.up, by show D.armed - 1 = 0; rw [h.unarmed]⟩, rfl, rfl⟩
theorem DM.Few.write {k : Nat} (h : D.Few k) (n : Int) (bs : List Int) : (D.write n bs).2.Few (k + 1) := by
  have h1 := h.tu
  have h2 := h.cr
  have h3 := h.ws
  have h0 : D.Few (k + 1) := ⟨by omega, by omega, by omega⟩
  unfold DM.write
  split
  · exact h0
  · split
    · exact h0
    · split
      · exact ⟨by show D.turns ≤ _; omega, by show D.crashes + 1 ≤ _; omega, by show D.waits.length ≤ _; omega⟩
      · exact ⟨by show D.turns + 1 ≤ _; omega, by show D.crashes ≤ _; omega, by show (D.waits ++ [_]).length ≤ _; rw [List.length_append, List.length_singleton]; omega⟩
theorem Calm.write0 (h : Calm B D) (n : Int) (hn : 0 ≤ n ∧ n < (B : Int)) (bs : List Int) (hb : bs.length ≤ 256) : (D.write n bs).1 = 0 := by
  have hh : D.has n := ⟨hn.1, by rw [h.len]; exact hn.2⟩
  unfold DM.write
  rw [if_neg (by rw [h.up]; decide), if_neg (by rintro (h1 | h1); exact h1 hh; omega), if_neg (by rw [h.unarmed]; decide)]
theorem Calm.new {B : Nat} : Calm B (DM.new B) := ⟨List.length_replicate, rfl, rfl⟩
theorem Few.new {B : Nat} : (DM.new B).Few 0 := ⟨Nat.le_refl 0, Nat.le_refl 0, Nat.le_refl 0⟩
theorem Calm.sync (h : Calm B D) {k : Nat} (hF : D.Few k) : D.sync.1 = 0 ∧ Calm B D.sync.2 ∧ D.sync.2.waits = [] ∧ D.sync.2.Few (k + 1) := by
  unfold DM.sync
  rw [if_neg (by rw [h.up]; decide), if_neg (by rw [h.unarmed]; decide)]
  have h1 := hF.tu
  have h2 := hF.cr
  exact ⟨rfl, ⟨by show (settleK _ _ _ _).length = B; rw [settleK_len]; exact h.len, h.up, by show D.armed - 1 = 0; rw [h.unarmed]⟩, rfl, ⟨by show D.turns + 1 ≤ _; omega, by show D.crashes ≤ _; omega, Nat.zero_le _⟩⟩
theorem Calm.crash (h : Calm B D) {k : Nat} (hF : D.Few k) (stay torn sectors : Int) : D.crash.1 = 0 ∧ D.crash.2.Few (k + 1) ∧ (D.crash.2.wake stay torn sectors).1 = 0 ∧ (D.crash.2.wake stay torn sectors).2.cells = settleK D.cells D.waits (fate stay torn sectors) D.waits.length ∧ (D.crash.2.wake stay torn sectors).2.waits = [] ∧ Calm B (D.crash.2.wake stay torn sectors).2 := by
  unfold DM.crash
  rw [if_neg (by rw [h.up]; decide)]
  have h1 := hF.tu
  have h2 := hF.cr
  have h3 := hF.ws
  refine ⟨rfl, ⟨by show D.turns ≤ _; omega, by show D.crashes + 1 ≤ _; omega, by show D.waits.length ≤ _; omega⟩, ?_⟩
  unfold DM.wake
  rw [if_pos rfl]
  exact ⟨rfl, rfl, rfl, ⟨by show (settleK _ _ _ _).length = B; rw [settleK_len]; exact h.len, rfl, rfl⟩⟩
theorem Calm.read (h : Calm B D) (hw : D.waits = []) {n : Nat} (hn : n < B) : D.read (n : Int) = (D.stored n, 0) ∧ D.storedI (n : Int) = D.stored n := by
  have hh : D.has (n : Int) := ⟨by omega, by rw [h.len]; omega⟩
  unfold DM.read DM.storedI
  rw [if_neg (by rw [h.up]; decide), if_pos hh, if_pos hh, Int.toNat_natCast]
  refine ⟨?_, rfl⟩
  unfold DM.seen
  rw [hw]; rfl
theorem Calm.stored (h : Calm B D) {n : Nat} (hn : n < B) : D.storedI (n : Int) = D.stored n := by
  have hh : D.has (n : Int) := ⟨by omega, by rw [h.len]; omega⟩
  unfold DM.storedI
  rw [if_pos hh, Int.toNat_natCast]
theorem DM.Ok.stored_len (h : D.Ok) {n : Nat} (hn : n < D.cells.length) : (D.stored n).length = 256 := by
  unfold DM.stored
  rw [List.getD_eq_getElem?_getD, List.getElem?_eq_getElem hn]
  exact (h.bytes n _ (List.getElem?_eq_getElem hn)).1
end
/-- A disk of one block, that is up, where nothing waits. -/
structure One (D : DM) (b : List Int) (hurt : Bool) : Prop where
  calm : Calm 1 D
  cells : D.cells = [(b, hurt)]
  waits : D.waits = []
section
variable {D : DM} {b c : List Int} {hurt : Bool}
theorem One.new : One (DM.new 1) (List.replicate 256 0) false := ⟨Calm.new, rfl, rfl⟩
theorem One.stored (h : One D b hurt) : D.storedI 0 = b := by
  rw [show (0 : Int) = ((0 : Nat) : Int) from rfl, h.calm.stored (by decide)]
  unfold DM.stored
  rw [h.cells]; rfl
theorem padB_full (hc : c.length = 256) : padB c = c := by unfold padB; rw [hc]; simp
/-- Written, synced. -/
theorem One.sync (h : One D b hurt) (hb : BlkOk b) (hc : BlkOk c) {k : Nat} (hF : D.Few k) : (D.write 0 c).1 = 0 ∧ (D.write 0 c).2.Few (k + 1) ∧ (D.write 0 c).2.sync.1 = 0 ∧ One (D.write 0 c).2.sync.2 c false ∧ (D.write 0 c).2.sync.2.Few (k + 2) := by
  have h0 : (0 : Int) ≤ 0 ∧ (0 : Int) < ((1 : Nat) : Int) := by decide
  obtain ⟨h1, h2, h3⟩ := h.calm.write 0 h0 c
  have hF1 := hF.write 0 c
  obtain ⟨s1, s2, s3, s4⟩ := h1.sync hF1
  refine ⟨h.calm.write0 0 h0 c (by have := hc.1; omega), hF1, s1, ⟨s2, ?_, s3⟩, s4⟩
  unfold DM.sync
  rw [if_neg (by rw [h1.up]; decide), if_neg (by rw [h1.unarmed]; decide)]
  show settleK (D.write 0 c).2.cells (D.write 0 c).2.waits (fun _ => 8) (D.write 0 c).2.waits.length = [(c, false)]
  rw [h2, h3, h.cells, h.waits, if_pos (by have := hc.1; omega), padB_full hc.1]
  show [storeS (b, hurt) c 8] = [(c, false)]
  rw [storeS_whole hb hc]
/-- Written, crashed, woken: the first write torn. -/
theorem One.torn (h : One D b hurt) (hc : BlkOk c) {k : Nat} (hF : D.Few k) (sectors : Int) : (D.write 0 c).1 = 0 ∧ (D.write 0 c).2.Few (k + 1) ∧ (D.write 0 c).2.crash.1 = 0 ∧ (D.write 0 c).2.crash.2.Few (k + 2) ∧ ((D.write 0 c).2.crash.2.wake 0 0 sectors).1 = 0 ∧
    ∃ hurt', One ((D.write 0 c).2.crash.2.wake 0 0 sectors).2 (c.take (32 * (sectors % 9).toNat) ++ b.drop (32 * (sectors % 9).toNat)) hurt' := by
  have h0 : (0 : Int) ≤ 0 ∧ (0 : Int) < ((1 : Nat) : Int) := by decide
  obtain ⟨h1, h2, h3⟩ := h.calm.write 0 h0 c
  have hF1 := hF.write 0 c
  obtain ⟨s1, s2, s3, s4, s5, s6⟩ := h1.crash hF1 0 0 sectors
  refine ⟨h.calm.write0 0 h0 c (by have := hc.1; omega), hF1, s1, s2, s3, (storeS (b, hurt) c (sectors % 9).toNat).2, s6, ?_, s5⟩
  rw [s4, h2, h3, h.cells, h.waits, if_pos (by have := hc.1; omega), padB_full hc.1]
  show [storeS (b, hurt) c (fate 0 0 sectors 0)] = _
  rw [show fate 0 0 sectors 0 = (sectors % 9).toNat from if_pos rfl]
  rfl
theorem One.few_wake {k : Nat} (hF : D.Few k) (stay torn sectors : Int) : (D.wake stay torn sectors).2.Few k := by
  unfold DM.wake
  split
  · exact ⟨hF.tu, hF.cr, Nat.zero_le _⟩
  · exact hF
/-- Hurt by a burst. -/
theorem One.rot (h : One D b false) (bit : Int) (hb : 0 ≤ bit ∧ bit < 2048) (mask : Nat) : ((D.rot 0 bit mask).1 = 0 ↔ flipK b bit.toNat mask (min 32 (2048 - bit.toNat)) ≠ b) ∧
    ∃ hurt', One (D.rot 0 bit mask).2 (flipK b bit.toNat mask (min 32 (2048 - bit.toNat))) hurt' := by
  have hh : D.has 0 := ⟨by decide, by rw [h.calm.len]; decide⟩
  have hs : D.stored 0 = b := by unfold DM.stored; rw [h.cells]; rfl
  unfold DM.rot
  rw [if_pos ⟨hh, hb⟩, show (0 : Int).toNat = 0 from rfl, hs]
  generalize flipK b bit.toNat mask (min 32 (2048 - bit.toNat)) = c
  unfold DM.hurt
  rw [hs]
  by_cases hc : c = b
  · rw [if_pos hc]
    exact ⟨⟨fun e => absurd (show (2 : Int) = 0 from e) (by decide), fun e => absurd hc e⟩, false, by rw [hc]; exact h⟩
  · rw [if_neg hc, if_neg (by rw [h.cells]; exact Bool.false_ne_true)]
    exact ⟨⟨fun _ => hc, fun _ => rfl⟩, true, ⟨by show (D.cells.set 0 _).length = 1; rw [List.length_set]; exact h.calm.len, h.calm.up, h.calm.unarmed⟩, by show D.cells.set 0 _ = _; rw [h.cells]; rfl, h.waits⟩
/-- Wiped. -/
theorem One.wipe (h : One D b false) (hb : b ≠ List.replicate 256 0) : (D.wipe 0).1 = 0 ∧ One (D.wipe 0).2 (List.replicate 256 0) true := by
  have hh : D.has 0 := ⟨by decide, by rw [h.calm.len]; decide⟩
  have hs : D.stored 0 = b := by unfold DM.stored; rw [h.cells]; rfl
  unfold DM.wipe
  rw [if_pos hh, show (0 : Int).toNat = 0 from rfl]
  unfold DM.hurt
  rw [hs, if_neg (fun e => hb e.symm), if_neg (by rw [h.cells]; exact Bool.false_ne_true)]
  exact ⟨rfl, ⟨by show (D.cells.set 0 _).length = 1; rw [List.length_set]; exact h.calm.len, h.calm.up, h.calm.unarmed⟩, by show D.cells.set 0 _ = _; rw [h.cells]; rfl, h.waits⟩
end
end Go.Proofs.YtpaikolnampcfaaGreatDoor
namespace Go.Proofs.YtpaikolnampcfaaGreatDoor
/-- Written, synced. -/
def stowD (D : DM) (n : Int) (b : List Int) : Int × DM := if (D.write n b).1 ≠ 0 then D.write n b else (D.write n b).2.sync
/-- One block, and the next one. -/
def layP (D : DM) (p : Nat) (b : List Int) : Int × DM := if (stowD D p b).1 ≠ 0 then stowD D p b else stowD (stowD D p b).2 ((p : Int) + 1) b
/-- A disk of so many blocks, up, where nothing waits; armed or not. -/
structure Flat (B : Nat) (D : DM) : Prop where
  len : D.cells.length = B
  up : D.down = false
  waits : D.waits = []
/-- .. and not armed. -/
structure Still (B : Nat) (D : DM) : Prop where
  flat : Flat B D
  unarmed : D.armed = 0
section
variable {D D' : DM} {B n : Nat} {b c : List Int} {k : Nat}
theorem Still.new : Still B (DM.new B) := ⟨⟨List.length_replicate, rfl, rfl⟩, rfl⟩
theorem Flat.has (h : Flat B D) (hn : n < B) : D.has (n : Int) := ⟨by omega, by rw [h.len]; omega⟩
theorem Flat.read (h : Flat B D) (hn : n < B) : D.read (n : Int) = (D.stored n, 0) := by
  unfold DM.read
  rw [if_neg (by rw [h.up]; decide), if_pos (h.has hn), Int.toNat_natCast]
  unfold DM.seen
  rw [h.waits]; rfl
theorem stored_at {cs : List (List Int × Bool)} {x : List Int × Bool} (h : D'.cells = cs.set n x) (hn : n < cs.length) : D'.stored n = x.1 := by
  unfold DM.stored
  rw [h, List.getD_eq_getElem?_getD, List.getElem?_set_self hn]; rfl
theorem stored_off {x : List Int × Bool} (h : D'.cells = D.cells.set n x) {j : Nat} (hj : j ≠ n) : D'.stored j = D.stored j := by
  unfold DM.stored
  rw [h, List.getD_eq_getElem?_getD, List.getElem?_set_ne (fun e => hj e.symm), ← List.getD_eq_getElem?_getD]
theorem stored_eq (h : D'.cells = D.cells) (j : Nat) : D'.stored j = D.stored j := by unfold DM.stored; rw [h]
theorem fewUp (h : D.Few k) {j : Nat} (hj : k ≤ j) : D.Few j := ⟨Nat.le_trans h.tu hj, Nat.le_trans h.cr hj, Nat.le_trans h.ws hj⟩
theorem fewSync (h : D.Few k) : D.sync.2.Few (k + 1) := by
  have h1 := h.tu
  have h2 := h.cr
  have h3 := h.ws
  unfold DM.sync
  split
  · exact fewUp h (Nat.le_succ k)
  · split
    · exact ⟨by show D.turns ≤ _; omega, by show D.crashes + 1 ≤ _; omega, by show D.waits.length ≤ _; omega⟩
    · exact ⟨by show D.turns + 1 ≤ _; omega, by show D.crashes ≤ _; omega, Nat.zero_le _⟩
theorem few_stow (h : D.Few k) (n : Int) (b : List Int) : (stowD D n b).2.Few (k + 2) := by
  unfold stowD
  split
  · exact fewUp (h.write n b) (by omega)
  · exact fewSync (h.write n b)
theorem few_layP (h : D.Few k) (p : Nat) (b : List Int) : (layP D p b).2.Few (k + 4) := by
  unfold layP
  split
  · exact fewUp (few_stow h _ b) (by omega)
  · exact few_stow (few_stow h _ b) _ b
theorem few_arm (h : D.Few k) (n : Int) : (D.arm n).Few k := by
  unfold DM.arm
  split
  · exact h
  · exact ⟨h.tu, h.cr, h.ws⟩
theorem few_hurt (h : D.Few k) (n : Nat) (b : List Int) : (D.hurt n b).2.Few k := by
  unfold DM.hurt
  split
  · exact h
  · split
    · exact h
    · exact ⟨h.tu, h.cr, h.ws⟩
theorem few_wipe (h : D.Few k) (n : Int) : (D.wipe n).2.Few k := by
  unfold DM.wipe
  split
  · exact few_hurt h _ _
  · exact h
theorem few_rot (h : D.Few k) (n bit : Int) (mask : Nat) : (D.rot n bit mask).2.Few k := by
  unfold DM.rot
  split
  · exact few_hurt h _ _
  · exact h
theorem few_crash (h : D.Few k) : D.crash.2.Few (k + 1) := by
  have h1 := h.tu
  have h2 := h.cr
  have h3 := h.ws
  unfold DM.crash
  split
  · exact fewUp h (Nat.le_succ k)
  · exact ⟨by show D.turns ≤ _; omega, by show D.crashes + 1 ≤ _; omega, by show D.waits.length ≤ _; omega⟩
theorem few_woken (h : D.Few k) (stay torn sectors : Int) : (D.crash.2.wake stay torn sectors).2.Few (k + 1) := One.few_wake (few_crash h) stay torn sectors
/-- Crashed, woken: both are told OK, unless it is down already. -/
theorem crash_ok (h : D.down = false) : D.crash.1 = 0 := by unfold DM.crash; rw [if_neg (by rw [h]; decide)]
theorem wake_ok (stay torn sectors : Int) : (D.crash.2.wake stay torn sectors).1 = 0 := by
  unfold DM.crash
  by_cases hd : D.down = true
  · rw [if_pos hd]; unfold DM.wake; rw [if_pos hd]
  · rw [if_neg hd]; unfold DM.wake; rw [if_pos rfl]
/-- Crashed, woken. -/
theorem woken_cells (stay torn sectors : Int) (D : DM) : (D.crash.2.wake stay torn sectors).2.cells = settleK D.cells D.waits (fate stay torn sectors) D.waits.length ∧ (D.crash.2.wake stay torn sectors).2.waits = [] ∧ (D.crash.2.wake stay torn sectors).2.down = false ∧ (D.crash.2.wake stay torn sectors).2.armed = 0 := by
  unfold DM.crash
  by_cases hd : D.down = true
  · rw [if_pos hd]
    unfold DM.wake
    rw [if_pos hd]
    exact ⟨rfl, rfl, rfl, rfl⟩
  · rw [if_neg hd]
    unfold DM.wake
    rw [if_pos rfl]
    exact ⟨rfl, rfl, rfl, rfl⟩
theorem woken_still (stay torn sectors : Int) (h : D.cells.length = B) : Still B (D.crash.2.wake stay torn sectors).2 := by
  obtain ⟨h1, h2, h3, h4⟩ := woken_cells stay torn sectors D
  exact ⟨⟨by rw [h1, settleK_len]; exact h, h3, h2⟩, h4⟩
theorem woken_none (stay torn sectors : Int) (h : D.waits = []) (j : Nat) : (D.crash.2.wake stay torn sectors).2.stored j = D.stored j := by
  refine stored_eq ?_ j
  rw [(woken_cells stay torn sectors D).1, h]; rfl
theorem woken_one (stay torn sectors : Int) (h : D.waits = [(n, c)]) : (D.crash.2.wake stay torn sectors).2.cells = D.cells.set n (storeS (D.cells.getD n ([], false)) c (fate stay torn sectors 0)) := by
  rw [(woken_cells stay torn sectors D).1, h]; rfl
/-- What a block is that is stored while the disk may crash: woken, it has some of the new one's first sectors. -/
def Woken (B : Nat) (D : DM) (f : Nat → List Int → Prop) : Prop := ∀ stay torn sectors : Int, Still B (D.crash.2.wake stay torn sectors).2 ∧ ∀ j, j < B → f j ((D.crash.2.wake stay torn sectors).2.stored j)
theorem Flat.woken (h : Flat B D) : Woken B D fun j x => x = D.stored j := fun stay torn sectors => ⟨woken_still stay torn sectors h.len, fun j _ => woken_none stay torn sectors h.waits j⟩
theorem Flat.stow (h : Flat B D) (hn : n < B) (hb : BlkOk (D.stored n)) (hc : BlkOk c) :
    ((stowD D n c).1 = 0 ∧ Flat B (stowD D n c).2 ∧ (stowD D n c).2.stored n = c ∧ (∀ j, j ≠ n → (stowD D n c).2.stored j = D.stored j) ∧ (stowD D n c).2.armed = D.armed - 1 - 1 ∧ (stowD D n c).2.cells = D.cells.set n (c, false)) ∨
    ((stowD D n c).1 = 11 ∧ D.armed ≠ 0 ∧ Woken B (stowD D n c).2 fun j x => if j = n then ∃ s, x = tornB c (D.stored n) s else x = D.stored j) := by
  have hl : ¬ (256 < c.length) := by have := hc.1; omega
  have hw : D.write n c = if D.armed = 1 then (11, D.trips) else (0, { D.turned with waits := [(n, c)] }) := by
    unfold DM.write
    rw [if_neg (by rw [h.up]; decide), if_neg (by rintro (h1 | h1); exact h1 (h.has hn); exact hl h1), h.waits, padB_full hc.1, Int.toNat_natCast]; rfl
  by_cases h1 : D.armed = 1
  · rw [if_pos h1] at hw
    have hS : stowD D n c = (11, D.trips) := by unfold stowD; rw [hw]; rfl
    rw [hS]
    refine .inr ⟨rfl, by omega, fun stay torn sectors => ⟨woken_still stay torn sectors h.len, fun j hj => ?_⟩⟩
    have h2 := woken_none (D := D.trips) stay torn sectors h.waits j
    dsimp only
    split
    · next e => subst e; exact ⟨0, h2⟩
    · exact h2
  · rw [if_neg h1] at hw
    obtain ⟨D1, hD1⟩ : ∃ D1 : DM, { D.turned with waits := [(n, c)] } = D1 := ⟨_, rfl⟩
    rw [hD1] at hw
    have hu1 : D1.down = false := by rw [← hD1]; exact h.up
    have hc1 : D1.cells = D.cells := by rw [← hD1]; rfl
    have hws1 : D1.waits = [(n, c)] := by rw [← hD1]
    have ha1 : D1.armed = D.armed - 1 := by rw [← hD1]; rfl
    have hS : stowD D n c = D1.sync := by unfold stowD; rw [hw]; rfl
    have hlen : n < D.cells.length := by rw [h.len]; exact hn
    rw [hS]
    by_cases h2 : D1.armed = 1
    · have hY : D1.sync = (11, D1.trips) := by unfold DM.sync; rw [if_neg (by rw [hu1]; decide), if_pos h2]
      rw [hY]
      refine .inr ⟨rfl, by omega, fun stay torn sectors => ⟨woken_still stay torn sectors (D := D1.trips) (by show D1.cells.length = B; rw [hc1]; exact h.len), fun j hj => ?_⟩⟩
      have h3 := woken_one (D := D1.trips) stay torn sectors hws1
      rw [show D1.trips.cells = D.cells from hc1] at h3
      dsimp only
      split
      · next e =>
        subst e
        rw [stored_at h3 hlen]
        exact ⟨_, rfl⟩
      · next e => exact stored_off h3 e
    · have hY : D1.sync = (0, D1.turned.settle fun _ => 8) := by unfold DM.sync; rw [if_neg (by rw [hu1]; decide), if_neg h2]
      rw [hY]
      have hcs : (D1.turned.settle fun _ => 8).cells = D.cells.set n (storeS (D.cells.getD n ([], false)) c 8) := by
        show settleK D1.cells D1.waits (fun _ => 8) D1.waits.length = _
        rw [hws1, hc1]; rfl
      rw [storeS_whole hb hc] at hcs
      refine .inl ⟨rfl, ⟨by rw [hcs, List.length_set]; exact h.len, hu1, rfl⟩, stored_at hcs hlen, fun j hj => stored_off hcs hj, ?_, hcs⟩
      show D1.armed - 1 = _
      rw [ha1]
/-- Two blocks in a row: all is stored, or the disk crashed amid it. -/
theorem Flat.lay (h : Flat B D) (hn : n + 1 < B) (hb : BlkOk (D.stored n)) (hb2 : BlkOk (D.stored (n + 1))) (hc : BlkOk c) :
    ((layP D n c).1 = 0 ∧ Flat B (layP D n c).2 ∧ (layP D n c).2.stored n = c ∧ (layP D n c).2.stored (n + 1) = c ∧ (∀ j, j ≠ n → j ≠ n + 1 → (layP D n c).2.stored j = D.stored j) ∧ (D.armed = 0 → (layP D n c).2.armed = 0) ∧ (layP D n c).2.cells = (D.cells.set n (c, false)).set (n + 1) (c, false)) ∨
    ((layP D n c).1 = 11 ∧ D.armed ≠ 0 ∧ ∃ r : Bool, Woken B (layP D n c).2 fun j x => if j = n then (if r then x = c else ∃ s, x = tornB c (D.stored n) s) else if j = n + 1 then (if r then ∃ s, x = tornB c (D.stored (n + 1)) s else x = D.stored (n + 1)) else x = D.stored j) := by
  have e1 : ((n : Int) + 1) = ((n + 1 : Nat) : Int) := by omega
  rcases h.stow (by omega : n < B) hb hc with ⟨h1, h2, h3, h4, h5, hce⟩ | ⟨h1, h2, h3⟩
  · have hL : layP D n c = stowD (stowD D n c).2 ((n + 1 : Nat) : Int) c := by unfold layP; rw [if_neg (fun hn => hn h1), e1]
    rw [hL]
    have hq : (stowD D n c).2.stored (n + 1) = D.stored (n + 1) := h4 _ (by omega)
    rcases h2.stow (n := n + 1) hn (by rw [hq]; exact hb2) hc with ⟨k1, k2, k3, k4, k5, kce⟩ | ⟨k1, k2, k3⟩
    · refine .inl ⟨k1, k2, (k4 n (by omega)).trans h3, k3, fun j j1 j2 => (k4 j j2).trans (h4 j j1), (fun ha => by rw [k5, h5, ha]), by rw [kce, hce]⟩
    · refine .inr ⟨k1, by omega, true, fun stay torn sectors => ⟨(k3 stay torn sectors).1, fun j hj => ?_⟩⟩
      have h6 := (k3 stay torn sectors).2 j hj
      dsimp only at h6 ⊢
      by_cases j1 : j = n
      · subst j1
        rw [if_neg (by omega)] at h6
        rw [if_pos rfl, if_pos rfl, h6]; exact h3
      · rw [if_neg j1]
        by_cases j2 : j = n + 1
        · subst j2
          rw [if_pos rfl, hq] at h6
          rw [if_pos rfl, if_pos rfl]; exact h6
        · rw [if_neg j2] at h6 ⊢
          rw [h6]; exact h4 j j1
  · have hL : layP D n c = stowD D n c := by unfold layP; rw [if_pos (by rw [h1]; decide)]
    rw [hL]
    refine .inr ⟨h1, h2, false, fun stay torn sectors => ⟨(h3 stay torn sectors).1, fun j hj => ?_⟩⟩
    have h6 := (h3 stay torn sectors).2 j hj
    dsimp only at h6 ⊢
    by_cases j1 : j = n
    · subst j1
      rw [if_pos rfl] at h6 ⊢
      exact h6
    · rw [if_neg j1] at h6 ⊢
      by_cases j2 : j = n + 1
      · rw [if_pos j2, h6, j2]; rfl
      · rw [if_neg j2]; exact h6
theorem Still.lay (h : Still B D) (hn : n + 1 < B) (hb : BlkOk (D.stored n)) (hb2 : BlkOk (D.stored (n + 1))) (hc : BlkOk c) :
    (layP D n c).1 = 0 ∧ Still B (layP D n c).2 ∧ (layP D n c).2.stored n = c ∧ (layP D n c).2.stored (n + 1) = c ∧ (∀ j, j ≠ n → j ≠ n + 1 → (layP D n c).2.stored j = D.stored j) ∧ (layP D n c).2.cells = (D.cells.set n (c, false)).set (n + 1) (c, false) := by
  rcases h.flat.lay hn hb hb2 hc with ⟨h1, h2, h3, h4, h5, h6, h7⟩ | ⟨_, h2, _⟩
  · exact ⟨h1, ⟨h2, h6 h.unarmed⟩, h3, h4, h5, h7⟩
  · exact absurd h.unarmed h2
theorem Still.arm (h : Still B D) (n : Int) : Flat B (D.arm n) ∧ ∀ j, (D.arm n).stored j = D.stored j := by
  unfold DM.arm
  rw [if_neg (by rw [h.flat.up]; decide)]
  exact ⟨⟨h.flat.len, h.flat.up, h.flat.waits⟩, fun j => stored_eq rfl j⟩
/-- Hurt, or as it was. -/
theorem Still.hurt (h : Still B D) (hn : n < B) : Still B (D.hurt n c).2 ∧ ((D.hurt n c).2.stored n = c ∨ (D.hurt n c).2.stored n = D.stored n) ∧ ∀ j, j ≠ n → (D.hurt n c).2.stored j = D.stored j := by
  unfold DM.hurt
  split
  · exact ⟨h, .inr rfl, fun _ _ => rfl⟩
  · split
    · exact ⟨h, .inr rfl, fun _ _ => rfl⟩
    · exact ⟨⟨⟨by show (D.cells.set n _).length = B; rw [List.length_set]; exact h.flat.len, h.flat.up, h.flat.waits⟩, h.unarmed⟩, .inl (stored_at (cs := D.cells) (x := (c, true)) rfl (by rw [h.flat.len]; exact hn)), fun j hj => stored_off rfl hj⟩
theorem Still.wipe (h : Still B D) (hn : n < B) : Still B (D.wipe n).2 ∧ ((D.wipe n).2.stored n = List.replicate 256 0 ∨ (D.wipe n).2.stored n = D.stored n) ∧ ∀ j, j ≠ n → (D.wipe n).2.stored j = D.stored j := by
  have e : D.wipe (n : Int) = D.hurt n (List.replicate 256 0) := by unfold DM.wipe; rw [if_pos (h.flat.has hn), Int.toNat_natCast]
  rw [e]
  exact h.hurt hn
/-- Is a block hurt? -/
def DM.scar (D : DM) (n : Nat) : Bool := (D.cells.getD n ([], false)).2
theorem scar_off {x : List Int × Bool} (h : D'.cells = D.cells.set n x) {j : Nat} (hj : j ≠ n) : D'.scar j = D.scar j := by
  unfold DM.scar
  rw [h, List.getD_eq_getElem?_getD, List.getElem?_set_ne (fun e => hj e.symm), ← List.getD_eq_getElem?_getD]
theorem Still.lay_scar (h : Still B D) (hn : n + 1 < B) (hb : BlkOk (D.stored n)) (hb2 : BlkOk (D.stored (n + 1))) (hc : BlkOk c) : (layP D n c).2.scar n = false ∧ (layP D n c).2.scar (n + 1) = false := by
  have hq := (h.lay hn hb hb2 hc).2.2.2.2.2
  have hl := h.flat.len
  unfold DM.scar
  rw [hq]
  constructor
  · rw [List.getD_eq_getElem?_getD, List.getElem?_set_ne (by omega), List.getElem?_set_self (by omega)]; rfl
  · rw [List.getD_eq_getElem?_getD, List.getElem?_set_self (by rw [List.length_set]; omega)]; rfl
/-- The first bit of a burst is turned. -/
theorem burst_first {b : List Int} (hb : BlkOk b) (f mask : Nat) (h0 : mask.testBit 0 = true) : ∀ k, f + k + 1 ≤ 2048 → k + 1 ≤ 32 → ((flipK b f mask (k + 1)).getD (f / 8) 0).toNat.testBit (f % 8) = !((b.getD (f / 8) 0).toNat.testBit (f % 8))
  | 0, hf, _ => by
    have h1 : flipK b f mask 1 = b.set (f / 8) (((b.getD (f / 8) 0).toNat ^^^ (1 <<< (f % 8)) : Nat) : Int) := by
      show flipAt b f mask 0 = _
      unfold flipAt
      rw [if_pos h0]; rfl
    rw [h1, getD_set_eq _ (by have := hb.1; omega), Int.toNat_natCast, Nat.testBit_xor, Nat.one_shiftLeft, Nat.testBit_two_pow_self, Bool.xor_true]
  | k + 1, hf, hk => by
    have ih := burst_first hb f mask h0 k (by omega) (by omega)
    have hl := (flipK_ok hb f mask (k + 1)).1
    show ((flipAt (flipK b f mask (k + 1)) f mask (k + 1)).getD (f / 8) 0).toNat.testBit (f % 8) = _
    unfold flipAt
    split
    · by_cases hq : (f + (k + 1)) / 8 = f / 8
      · have hm : (f + (k + 1)) % 8 ≠ f % 8 := by omega
        rw [hq, getD_set_eq _ (by omega), Int.toNat_natCast, Nat.testBit_xor, ih, Nat.one_shiftLeft, Nat.testBit_two_pow_of_ne hm, Bool.xor_false]
      · rw [getD_set_ne _ hq]; exact ih
    · exact ih
theorem burst_other {b : List Int} (hb : BlkOk b) (f mask k : Nat) (h0 : mask.testBit 0 = true) (hk : 0 < k) (hk2 : k ≤ 32) (hf : f + k ≤ 2048) : flipK b f mask k ≠ b := by
  intro e
  obtain ⟨j, rfl⟩ : ∃ j, k = j + 1 := ⟨k - 1, by omega⟩
  have := burst_first hb f mask h0 j (by omega) hk2
  rw [e] at this
  cases hx : (b.getD (f / 8) 0).toNat.testBit (f % 8) <;> rw [hx] at this <;> cases this
/-- A block that is not hurt yet, hurt by a burst. -/
theorem Still.rot (h : Still B D) (hn : n < B) (hb : BlkOk (D.stored n)) (hs : D.scar n = false) (bit : Int) (hbit : 0 ≤ bit ∧ bit ≤ 2016) (mask : Nat) (h0 : mask.testBit 0 = true) :
    (D.rot n bit mask).1 = 0 ∧ Still B (D.rot n bit mask).2 ∧ (D.rot n bit mask).2.stored n = flipK (D.stored n) bit.toNat mask 32 ∧ (∀ j, j ≠ n → (D.rot n bit mask).2.stored j = D.stored j) ∧ ∀ j, j ≠ n → (D.rot n bit mask).2.scar j = D.scar j := by
  have hmin : min 32 (2048 - bit.toNat) = 32 := by omega
  have hne : flipK (D.stored n) bit.toNat mask 32 ≠ D.stored n := burst_other hb _ _ _ h0 (by decide) (by decide) (by omega)
  have hs' : (D.cells.getD n ([], false)).2 = false := hs
  have e : D.rot (n : Int) bit mask = (0, { D with cells := D.cells.set n (flipK (D.stored n) bit.toNat mask 32, true) }) := by
    unfold DM.rot
    rw [if_pos ⟨h.flat.has hn, by omega⟩, Int.toNat_natCast, hmin]
    unfold DM.hurt
    rw [if_neg hne, if_neg (by rw [hs']; decide)]
  rw [e]
  exact ⟨rfl, ⟨⟨by show (D.cells.set n _).length = B; rw [List.length_set]; exact h.flat.len, h.flat.up, h.flat.waits⟩, h.unarmed⟩, stored_at (cs := D.cells) (x := (_, true)) rfl (by rw [h.flat.len]; exact hn), fun j hj => stored_off (D := D) (x := (_, true)) rfl hj, fun j hj => scar_off (D := D) (x := (_, true)) rfl hj⟩
end
/-- A block all of which but its first sector is noughts. -/
def Slim (b : List Int) : Prop := b.length = 256 ∧ b.drop 32 = List.replicate 224 0
theorem slim_seal {u : UnitV} (h : u.body.length ≤ 20) : Slim (sealB u) := ⟨seal_len (by omega), small_rest h⟩
set_option maxRecDepth 10000 in
theorem slim_nought : Slim (List.replicate 256 0) := ⟨List.length_replicate, by rw [List.drop_replicate]⟩
theorem slim_drop {b : List Int} (h : Slim b) {s : Nat} (hs : 1 ≤ s) : b.drop (32 * s) = List.replicate (256 - 32 * s) 0 := by
  rw [show 32 * s = 32 + (32 * s - 32) by omega, ← List.drop_drop, h.2, List.drop_replicate]
  congr 1; omega
theorem slim_torn {b c : List Int} (hb : Slim b) (hc : Slim c) (s : Nat) : tornB c b s = b ∨ tornB c b s = c := by
  unfold tornB
  by_cases h0 : s = 0
  · subst h0; exact .inl rfl
  · rw [slim_drop hb (by omega), ← slim_drop hc (by omega), List.take_append_drop]; exact .inr rfl
end Go.Proofs.YtpaikolnampcfaaGreatDoor
namespace Go.Proofs.YtpaikolnampcfaaGreatDoor
open Mx
/-- The newer one of two copies' marks. -/
def newerK (x y : MarkV × Int) : MarkV × Int := if x.2 ≠ 0 ∧ y.2 ≠ 0 then (noMark, 10) else if x.2 ≠ 0 ∨ (y.2 = 0 ∧ x.1.ver < y.1.ver) then (y.1, 0) else (x.1, 0)
def layK (D : DM) (k : Int) (m : MarkV) : Int × DM := layP D (placeK k) (sealB (m.unit k))
def putK (D : DM) (k : Int) (m : MarkV) : Int × DM := if sortK k ∧ m.right then layK D k m else (2, D)
def formatK (D : DM) : Int × DM := if (layK D 2 noMark).1 ≠ 0 then layK D 2 noMark else layK (layK D 2 noMark).2 3 noMark
def seenK (D : DM) (k : Int) : Int := if (D.read (placeK k)).2 ≠ 0 then (D.read (placeK k)).2 else (D.read ((placeK k : Int) + 1)).2
def getK (D : DM) (k : Int) : MarkV × Int := if ¬ sortK k then (noMark, 2) else if seenK D k ≠ 0 then (noMark, seenK D k) else newerK (markB k (D.read (placeK k)).1) (markB k (D.read ((placeK k : Int) + 1)).1)
def openK (D : DM) (k : Int) : (MarkV × Int) × DM :=
  if (getK D k).2 ≠ 0 ∨ (D.read (placeK k)).1 = (D.read ((placeK k : Int) + 1)).1 then (getK D k, D) else if (layK D k (getK D k).1).1 ≠ 0 then ((noMark, (layK D k (getK D k).1).1), (layK D k (getK D k).1).2) else (getK D k, (layK D k (getK D k).1).2)
def badOf (D : DM) (k : Int) : List Int := (if (markB k (D.read (placeK k)).1).2 ≠ 0 then [(placeK k : Int)] else []) ++ (if (markB k (D.read ((placeK k : Int) + 1)).1).2 ≠ 0 then [(placeK k : Int) + 1] else [])
def badK (D : DM) : List Int := if seenK D 2 ≠ 0 ∨ seenK D 3 ≠ 0 then [] else badOf D 2 ++ badOf D 3
section
variable {D D' : DM} {j : Nat} {k : Int} {m o y : MarkV}
theorem few_layK (h : D.Few j) (k : Int) (m : MarkV) : (layK D k m).2.Few (j + 4) := few_layP h _ _
theorem few_putK (h : D.Few j) (k : Int) (m : MarkV) : (putK D k m).2.Few (j + 4) := by
  unfold putK
  split
  · exact few_layK h _ _
  · exact fewUp h (by omega)
theorem few_formatK (h : D.Few j) : (formatK D).2.Few (j + 8) := by
  unfold formatK
  split
  · exact fewUp (few_layK h _ _) (by omega)
  · exact few_layK (few_layK h _ _) _ _
theorem few_openK (h : D.Few j) (k : Int) : (openK D k).2.Few (j + 4) := by
  unfold openK
  split
  · exact fewUp h (by omega)
  · split
    · exact few_layK h _ _
    · exact few_layK h _ _
theorem getK_else (h : (getK D k).2 ≠ 0) : (getK D k).1 = noMark := by
  unfold getK newerK at h ⊢
  split at h
  · next h0 => rw [if_pos h0]
  · next h0 =>
    rw [if_neg h0]
    split at h
    · next h1 => rw [if_pos h1]
    · next h1 =>
      rw [if_neg h1]
      split at h
      · next h2 => rw [if_pos h2]
      · next h2 =>
        split at h
        · exact absurd rfl h
        · exact absurd rfl h
theorem newerK_right {k : Int} {a b : List Int} (h : (newerK (markB k a) (markB k b)).2 = 0) : (newerK (markB k a) (markB k b)).1.right := by
  unfold newerK at h ⊢
  split at h
  · exact absurd h (by decide)
  · next h2 =>
    rw [if_neg h2]
    split at h
    · next h3 =>
      rw [if_pos h3]
      refine markB_right ?_
      rcases h3 with h3 | h3
      · exact Classical.byContradiction fun h4 => h2 ⟨h3, h4⟩
      · exact h3.1
    · next h3 =>
      rw [if_neg h3]
      exact markB_right (Classical.byContradiction fun h4 => h3 (.inl h4))
theorem getK_right (h : (getK D k).2 = 0) : sortK k ∧ (getK D k).1.right := by
  unfold getK at h ⊢
  split at h
  · exact absurd h (by decide)
  · next h0 =>
    rw [if_neg h0]
    split at h
    · next h1 => exact absurd h h1
    · next h1 =>
      rw [if_neg h1]
      exact ⟨Classical.byContradiction h0, newerK_right h⟩
theorem place_bd (k : Int) : (placeK k = 2 ∨ placeK k = 4) ∧ placeK k + 1 < 6 := by unfold placeK; split <;> omega
theorem place_far {k q : Int} (h : sortK k) (hq : sortK q) (hn : k ≠ q) : placeK q ≠ placeK k ∧ placeK q ≠ placeK k + 1 ∧ placeK q + 1 ≠ placeK k ∧ placeK q + 1 ≠ placeK k + 1 := by
  rcases h with rfl | rfl <;> rcases hq with rfl | rfl
  · exact absurd rfl hn
  · decide
  · decide
  · exact absurd rfl hn
theorem flat_reads (h : Flat 6 D) (k : Int) : D.read (placeK k) = (D.stored (placeK k), 0) ∧ D.read ((placeK k : Int) + 1) = (D.stored (placeK k + 1), 0) := by
  have hb := (place_bd k).2
  refine ⟨h.read (by omega), ?_⟩
  rw [show ((placeK k : Int) + 1) = ((placeK k + 1 : Nat) : Int) by omega]
  exact h.read hb
theorem flat_get (h : Flat 6 D) (hk : sortK k) : getK D k = newerK (markB k (D.stored (placeK k))) (markB k (D.stored (placeK k + 1))) := by
  obtain ⟨h1, h2⟩ := flat_reads h k
  unfold getK seenK
  rw [if_neg (fun hn => hn hk), h1, h2]
  simp
theorem flat_bad (h : Flat 6 D) (h2 : (markB 2 (D.stored 2)).2 = 0) (h3 : (markB 2 (D.stored 3)).2 = 0) (h4 : (markB 3 (D.stored 4)).2 = 0) (h5 : (markB 3 (D.stored 5)).2 = 0) : badK D = [] := by
  obtain ⟨a1, a2⟩ := flat_reads h 2
  obtain ⟨b1, b2⟩ := flat_reads h 3
  have e2 : placeK 2 = 2 := rfl
  have e3 : placeK 3 = 4 := rfl
  rw [e2] at a1 a2
  rw [e3] at b1 b2
  unfold badK seenK badOf
  rw [e2, e3, a1, a2, b1, b2]
  simp [h2, h3, h4, h5]
/-- Blocks of a sort's two copies. -/
def Pair (D : DM) (k : Int) (a b : List Int) : Prop := D.stored (placeK k) = a ∧ D.stored (placeK k + 1) = b
/-- All blocks but those of a sort are as they were. -/
def Else (k : Int) (D D' : DM) : Prop := ∀ j, j ≠ placeK k → j ≠ placeK k + 1 → D'.stored j = D.stored j
theorem Pair.kept {q : Int} {a b : List Int} (h : Pair D q a b) (hk : sortK k) (hq : sortK q) (hn : k ≠ q) (he : Else k D D') : Pair D' q a b := by
  obtain ⟨h1, h2, h3, h4⟩ := place_far hk hq hn
  exact ⟨(he _ h1 h2).trans h.1, (he _ h3 h4).trans h.2⟩
/-- Laid, unarmed. -/
theorem still_layK {a b : List Int} (h : Still 6 D) (hp : Pair D k a b) (ha : BlkOk a) (hb : BlkOk b) (hk : sortK k) (hm : m.right) :
    (layK D k m).1 = 0 ∧ Still 6 (layK D k m).2 ∧ Pair (layK D k m).2 k (sealB (m.unit k)) (sealB (m.unit k)) ∧ Else k D (layK D k m).2 := by
  obtain ⟨h1, h2, h3, h4, h5, _⟩ := h.lay (place_bd k).2 (by rw [hp.1]; exact ha) (by rw [hp.2]; exact hb) (mark_ok hm hk)
  exact ⟨h1, h2, ⟨h3, h4⟩, h5⟩
theorem still_putK {a b : List Int} (h : Still 6 D) (hp : Pair D k a b) (ha : BlkOk a) (hb : BlkOk b) (hk : sortK k) (hm : m.right) :
    (putK D k m).1 = 0 ∧ Still 6 (putK D k m).2 ∧ Pair (putK D k m).2 k (sealB (m.unit k)) (sealB (m.unit k)) ∧ Else k D (putK D k m).2 := by
  unfold putK
  rw [if_pos ⟨hk, hm⟩]
  exact still_layK h hp ha hb hk hm
theorem still_format (h : Still 6 D) (hok : ∀ j, j < 6 → BlkOk (D.stored j)) : (formatK D).1 = 0 ∧ Still 6 (formatK D).2 ∧ Pair (formatK D).2 2 (sealB (noMark.unit 2)) (sealB (noMark.unit 2)) ∧ Pair (formatK D).2 3 (sealB (noMark.unit 3)) (sealB (noMark.unit 3)) := by
  obtain ⟨h1, h2, h3, h4⟩ := still_layK h (k := 2) ⟨rfl, rfl⟩ (hok 2 (by decide)) (hok 3 (by decide)) (.inl rfl) noMark_right
  have hp3 : Pair (layK D 2 noMark).2 3 (D.stored 4) (D.stored 5) := ⟨h4 4 (by decide) (by decide), h4 5 (by decide) (by decide)⟩
  obtain ⟨k1, k2, k3, k4⟩ := still_layK h2 hp3 (hok 4 (by decide)) (hok 5 (by decide)) (.inr rfl) noMark_right
  unfold formatK
  rw [if_neg (fun hn => hn h1)]
  exact ⟨k1, k2, h3.kept (.inr rfl) (.inl rfl) (by decide) k4, k3⟩
/-- Laid, perhaps armed; crashed, woken: small blocks are the elder ones or the new one. -/
theorem flat_layK_crash {a b : List Int} (h : Flat 6 D) (hp : Pair D k a b) (ha : BlkOk a) (hb : BlkOk b) (sa : Slim a) (sb : Slim b) (hk : sortK k) (hm : m.right) (stay torn sectors : Int) :
    ∃ a' b', Still 6 ((layK D k m).2.crash.2.wake stay torn sectors).2 ∧ Pair ((layK D k m).2.crash.2.wake stay torn sectors).2 k a' b' ∧ Else k D ((layK D k m).2.crash.2.wake stay torn sectors).2 ∧
      ((a' = sealB (m.unit k) ∧ (b' = b ∨ b' = sealB (m.unit k))) ∨ (a' = a ∧ b' = b)) ∧ ((layK D k m).1 = 0 → a' = sealB (m.unit k) ∧ b' = sealB (m.unit k)) := by
  have hc := mark_ok hm hk
  have sc := slim_seal (slim_mark_len m k)
  have hpl := (place_bd k).2
  rcases h.lay (c := sealB (m.unit k)) hpl (by rw [hp.1]; exact ha) (by rw [hp.2]; exact hb) hc with ⟨h1, h2, h3, h4, h5, _, _⟩ | ⟨h1, _, r, h3⟩
  · refine ⟨_, _, woken_still stay torn sectors h2.len, ⟨(woken_none stay torn sectors h2.waits _).trans h3, (woken_none stay torn sectors h2.waits _).trans h4⟩, fun j j1 j2 => (woken_none stay torn sectors h2.waits j).trans (h5 j j1 j2), .inl ⟨rfl, .inr rfl⟩, fun _ => ⟨rfl, rfl⟩⟩
  · obtain ⟨k1, k2⟩ := h3 stay torn sectors
    have ka := k2 (placeK k) (by omega)
    have kb := k2 (placeK k + 1) hpl
    have ke : Else k D ((layK D k m).2.crash.2.wake stay torn sectors).2 := fun j j1 j2 => by
      by_cases hj : j < 6
      · have := k2 j hj
        dsimp only at this
        rw [if_neg j1, if_neg j2] at this
        exact this
      · have hq : ((layK D k m).2.crash.2.wake stay torn sectors).2.cells.length = 6 := k1.flat.len
        have hq2 := h.len
        unfold DM.stored
        rw [List.getD_eq_getElem?_getD, List.getD_eq_getElem?_getD, List.getElem?_eq_none (by omega : D.cells.length ≤ j), List.getElem?_eq_none (by omega : ((layK D k m).2.crash.2.wake stay torn sectors).2.cells.length ≤ j)]
    dsimp only at ka kb
    rw [if_pos rfl] at ka
    rw [if_neg (by omega), if_pos rfl] at kb
    refine ⟨_, _, k1, ⟨rfl, rfl⟩, ke, ?_, fun e => absurd (h1.symm.trans e) (by decide)⟩
    cases r with
    | true =>
      rw [if_pos rfl] at ka kb
      obtain ⟨s, hs⟩ := kb
      rw [hp.2] at hs
      refine .inl ⟨ka, ?_⟩
      rcases slim_torn sb sc s with e | e
      · exact .inl (hs.trans e)
      · exact .inr (hs.trans e)
    | false =>
      rw [if_neg (by decide)] at ka kb
      obtain ⟨s, hs⟩ := ka
      rw [hp.1] at hs
      rcases slim_torn sa sc s with e | e
      · exact .inr ⟨hs.trans e, kb.trans hp.2⟩
      · exact .inl ⟨hs.trans e, .inl (kb.trans hp.2)⟩
end
end Go.Proofs.YtpaikolnampcfaaGreatDoor
namespace Go.Proofs.YtpaikolnampcfaaGreatDoor
open Mx
abbrev noughtB : List Int := List.replicate 256 0
section
variable {D D' : DM} {k q : Int} {m o y x : MarkV} {a b : List Int}
abbrev MarkV.blk (m : MarkV) (k : Int) : List Int := sealB (m.unit k)
theorem newerK_one (h : m.right) (hk : sortK k) (hb : b = m.blk k ∨ (markB k b).2 ≠ 0) : newerK (markB k b) (markB k (m.blk k)) = (m, 0) ∧ newerK (markB k (m.blk k)) (markB k b) = (m, 0) := by
  have hs := mark_seal h hk
  show newerK (markB k b) (markB k (sealB (m.unit k))) = _ ∧ newerK (markB k (sealB (m.unit k))) (markB k b) = _
  rw [hs]
  rcases hb with rfl | hb
  · show newerK (markB k (sealB (m.unit k))) _ = _ ∧ newerK _ (markB k (sealB (m.unit k))) = _
    rw [hs]
    unfold newerK
    constructor <;> simp
  · unfold newerK
    constructor
    · rw [if_neg (by rintro ⟨_, h2⟩; exact h2 rfl), if_pos (.inl hb)]
    · rw [if_neg (by rintro ⟨h1, _⟩; exact h1 rfl), if_neg (by rintro (h1 | h1); exact h1 rfl; exact hb h1.1)]
theorem newerK_none (ha : (markB k a).2 ≠ 0) (hb : (markB k b).2 ≠ 0) : newerK (markB k a) (markB k b) = (noMark, 10) := by unfold newerK; rw [if_pos ⟨ha, hb⟩]
theorem newerK_young (ho : o.right) (hy : y.right) (hk : sortK k) (hv : o.ver < y.ver) : newerK (markB k (y.blk k)) (markB k (o.blk k)) = (y, 0) := by
  show newerK (markB k (sealB (y.unit k))) (markB k (sealB (o.unit k))) = _
  rw [mark_seal ho hk, mark_seal hy hk]
  unfold newerK
  rw [if_neg (by rintro ⟨h1, _⟩; exact h1 rfl), if_neg (by rintro (h1 | h1); exact h1 rfl; have h2 : y.ver < o.ver := h1.2; omega)]
theorem blk_inj (ho : o.right) (hy : y.right) (hk : sortK k) (h : y.blk k = o.blk k) : y = o := by
  have h1 := mark_seal ho hk
  have h : sealB (y.unit k) = sealB (o.unit k) := h
  rw [← h, mark_seal hy hk] at h1
  simpa using h1
/-- Two copies of which this is told. -/
structure Tell (D : DM) (k : Int) (m : MarkV) (a b : List Int) : Prop where
  pair : Pair D k a b
  oa : BlkOk a
  ob : BlkOk b
  told : newerK (markB k a) (markB k b) = (m, 0)
  same : a = b → a = m.blk k
/-- Opened: it is told, and both copies have it. -/
theorem Tell.open_ (h : Tell D k m a b) (hD : Still 6 D) (hk : sortK k) : (openK D k).1 = (m, 0) ∧ Still 6 (openK D k).2 ∧ Pair (openK D k).2 k (m.blk k) (m.blk k) ∧ Else k D (openK D k).2 := by
  have hg : getK D k = (m, 0) := by rw [flat_get hD.flat hk, h.pair.1, h.pair.2]; exact h.told
  have hm : m.right := by have := (getK_right (D := D) (k := k) (by rw [hg])).2; rw [hg] at this; exact this
  obtain ⟨r1, r2⟩ := flat_reads hD.flat k
  rw [h.pair.1] at r1
  rw [h.pair.2] at r2
  unfold openK
  rw [hg, r1, r2]
  by_cases he : a = b
  · rw [if_pos (.inr he)]
    have h1 := h.same he
    exact ⟨rfl, hD, ⟨h.pair.1.trans h1, h.pair.2.trans (he ▸ h1)⟩, fun _ _ _ => rfl⟩
  · rw [if_neg (by rintro (h1 | h1); exact h1 rfl; exact he h1)]
    obtain ⟨p1, p2, p3, p4⟩ := still_layK hD h.pair h.oa h.ob hk hm
    rw [if_neg (fun hn => hn p1)]
    exact ⟨rfl, p2, p3, p4⟩
/-- Both copies have it, or one of them, and the other one is wiped. -/
def Half (D : DM) (k : Int) (m : MarkV) : Prop := ∃ a b, Pair D k a b ∧ ((a = m.blk k ∧ (b = m.blk k ∨ b = noughtB)) ∨ (a = noughtB ∧ b = m.blk k))
def Both (D : DM) (k : Int) (m : MarkV) : Prop := Pair D k (m.blk k) (m.blk k)
theorem Both.half (h : Both D k m) : Half D k m := ⟨_, _, h, .inl ⟨rfl, .inl rfl⟩⟩
theorem Half.kept (h : Half D q m) (hk : sortK k) (hq : sortK q) (hn : k ≠ q) (he : Else k D D') : Half D' q m := by
  obtain ⟨a, b, h1, h2⟩ := h
  exact ⟨a, b, h1.kept hk hq hn he, h2⟩
theorem nought_ne (hm : m.right) (hk : sortK k) : noughtB ≠ m.blk k := by
  intro e
  have h1 := markB_nought k
  have e : List.replicate 256 0 = sealB (m.unit k) := e
  rw [e, mark_seal hm hk] at h1
  exact h1 rfl
theorem Half.tell (h : Half D k m) (hm : m.right) (hk : sortK k) : ∃ a b, Tell D k m a b ∧ Slim a ∧ Slim b ∧ ((a = m.blk k ∧ (b = m.blk k ∨ b = noughtB)) ∨ (a = noughtB ∧ b = m.blk k)) := by
  obtain ⟨a, b, h1, h2⟩ := h
  have hB := mark_ok hm hk
  have sB := slim_seal (slim_mark_len m k)
  have hN := nought_ne hm hk
  have h3 := h2
  rcases h3 with ⟨rfl, rfl | rfl⟩ | ⟨rfl, rfl⟩
  · exact ⟨_, _, ⟨h1, hB, hB, (newerK_one hm hk (.inl rfl)).1, fun _ => rfl⟩, sB, sB, h2⟩
  · exact ⟨_, _, ⟨h1, hB, nought_ok, (newerK_one hm hk (.inr (markB_nought k))).2, fun _ => rfl⟩, sB, slim_nought, h2⟩
  · exact ⟨_, _, ⟨h1, nought_ok, hB, (newerK_one hm hk (.inr (markB_nought k))).1, fun e => e⟩, slim_nought, sB, h2⟩
/-- Opened, crashed amid that, woken: it is there still. -/
theorem Half.open_crash (h : Half D k m) (hm : m.right) (hD : Still 6 D) (hk : sortK k) (n stay torn sectors : Int) :
    Still 6 ((openK (D.arm n) k).2.crash.2.wake stay torn sectors).2 ∧ Half ((openK (D.arm n) k).2.crash.2.wake stay torn sectors).2 k m ∧ Else k D ((openK (D.arm n) k).2.crash.2.wake stay torn sectors).2 := by
  obtain ⟨a, b, hT, sa, sb, h2⟩ := h.tell hm hk
  obtain ⟨hF, hst⟩ := hD.arm n
  have hp : Pair (D.arm n) k a b := ⟨(hst _).trans hT.pair.1, (hst _).trans hT.pair.2⟩
  have hg : getK (D.arm n) k = (m, 0) := by rw [flat_get hF hk, hp.1, hp.2]; exact hT.told
  obtain ⟨r1, r2⟩ := flat_reads hF k
  rw [hp.1] at r1
  rw [hp.2] at r2
  have hsame : Still 6 ((D.arm n).crash.2.wake stay torn sectors).2 ∧ Half ((D.arm n).crash.2.wake stay torn sectors).2 k m ∧ Else k D ((D.arm n).crash.2.wake stay torn sectors).2 :=
    ⟨woken_still stay torn sectors hF.len, ⟨a, b, ⟨(woken_none stay torn sectors hF.waits _).trans hp.1, (woken_none stay torn sectors hF.waits _).trans hp.2⟩, h2⟩, fun j _ _ => (woken_none stay torn sectors hF.waits j).trans (hst j)⟩
  unfold openK
  rw [hg, r1, r2]
  by_cases he : a = b
  · rw [if_pos (.inr he)]; exact hsame
  · rw [if_neg (by rintro (h1 | h1); exact h1 rfl; exact he h1)]
    have hL : Still 6 ((layK (D.arm n) k m).2.crash.2.wake stay torn sectors).2 ∧ Half ((layK (D.arm n) k m).2.crash.2.wake stay torn sectors).2 k m ∧ Else k D ((layK (D.arm n) k m).2.crash.2.wake stay torn sectors).2 := by
      obtain ⟨a', b', l1, l2, l3, l4, _⟩ := flat_layK_crash hF hp hT.oa hT.ob sa sb hk hm stay torn sectors
      refine ⟨l1, ⟨a', b', l2, ?_⟩, fun j j1 j2 => (l3 j j1 j2).trans (hst j)⟩
      rcases l4 with ⟨e1, e2⟩ | ⟨e1, e2⟩
      · refine .inl ⟨e1, ?_⟩
        rcases e2 with e2 | e2
        · rcases h2 with ⟨_, h3⟩ | ⟨_, h3⟩
          · rw [e2]; exact h3
          · exact .inl (e2.trans h3)
        · exact .inl e2
      · rw [e1, e2]; exact h2
    split
    · exact hL
    · exact hL
/-- One copy of a sort's is wiped. -/
theorem Both.wipe (h : Both D k m) (hD : Still 6 D) (n : Nat) (hn : n = placeK k ∨ n = placeK k + 1) : Still 6 (D.wipe n).2 ∧ Half (D.wipe n).2 k m ∧ Else k D (D.wipe n).2 := by
  have hb := (place_bd k).2
  obtain ⟨h1, h2, h3⟩ := hD.wipe (n := n) (by omega)
  refine ⟨h1, ?_, fun j j1 j2 => h3 j (by rcases hn with rfl | rfl <;> assumption)⟩
  rcases hn with rfl | rfl
  · have hq := (h3 (placeK k + 1) (by omega)).trans h.2
    rcases h2 with h2 | h2
    · exact ⟨_, _, ⟨h2, hq⟩, .inr ⟨rfl, rfl⟩⟩
    · exact ⟨_, _, ⟨h2.trans h.1, hq⟩, .inl ⟨rfl, .inl rfl⟩⟩
  · have hq := (h3 (placeK k) (by omega)).trans h.1
    rcases h2 with h2 | h2
    · exact ⟨_, _, ⟨hq, h2⟩, .inl ⟨rfl, .inr rfl⟩⟩
    · exact ⟨_, _, ⟨hq, h2.trans h.2⟩, .inl ⟨rfl, .inl rfl⟩⟩
theorem both_bad (hD : Still 6 D) (h2 : Both D 2 m) (h3 : Both D 3 x) (hm : m.right) (hx : x.right) : badK D = [] := by
  have e2 := mark_seal hm (.inl rfl : sortK 2)
  have e3 := mark_seal hx (.inr rfl : sortK 3)
  have a1 : D.stored 2 = sealB (m.unit 2) := h2.1
  have a2 : D.stored 3 = sealB (m.unit 2) := h2.2
  have a3 : D.stored 4 = sealB (x.unit 3) := h3.1
  have a4 : D.stored 5 = sealB (x.unit 3) := h3.2
  exact flat_bad hD.flat (by rw [a1, e2]) (by rw [a2, e2]) (by rw [a3, e3]) (by rw [a4, e3])
/-- The two sorts, the one asked for first. -/
def Two2 (k q : Int) : Prop := (k = 2 ∧ q = 3) ∨ (k = 3 ∧ q = 2)
theorem Two2.sorts (h : Two2 k q) : sortK k ∧ sortK q ∧ k ≠ q := by rcases h with ⟨rfl, rfl⟩ | ⟨rfl, rfl⟩ <;> decide
/-- A copy is wiped; opened, crashed amid that, woken; opened, and the other sort, too: all is as it was. -/
theorem mark_round (hs : Two2 k q) (hm : m.right) (hx : x.right) (hD : Still 6 D) (h1 : Both D k m) (h2 : Both D q x) (w : Nat) (hw : 2 ≤ w ∧ w ≤ 5) (n stay torn sectors : Int) :
    ∃ D', D' = ((openK ((D.wipe w).2.arm n) k).2.crash.2.wake stay torn sectors).2 ∧ Still 6 D' ∧ (openK D' k).1 = (m, 0) ∧ (openK (openK D' k).2 q).1 = (x, 0) ∧ Still 6 (openK (openK D' k).2 q).2 ∧
      Both (openK (openK D' k).2 q).2 k m ∧ Both (openK (openK D' k).2 q).2 q x ∧ badK (openK (openK D' k).2 q).2 = [] := by
  obtain ⟨sk, sq, hne⟩ := hs.sorts
  have hwp : Still 6 (D.wipe w).2 ∧ Half (D.wipe w).2 k m ∧ Half (D.wipe w).2 q x := by
    have hcase : (w = placeK k ∨ w = placeK k + 1) ∨ (w = placeK q ∨ w = placeK q + 1) := by
      rcases hs with ⟨rfl, rfl⟩ | ⟨rfl, rfl⟩
      · have e1 : placeK 2 = 2 := rfl
        have e2 : placeK 3 = 4 := rfl
        omega
      · have e1 : placeK 2 = 2 := rfl
        have e2 : placeK 3 = 4 := rfl
        omega
    rcases hcase with hc | hc
    · obtain ⟨w1, w2, w3⟩ := h1.wipe hD w hc
      exact ⟨w1, w2, h2.half.kept sk sq hne w3⟩
    · obtain ⟨w1, w2, w3⟩ := h2.wipe hD w hc
      exact ⟨w1, h1.half.kept sq sk (fun e => hne e.symm) w3, w2⟩
  obtain ⟨w1, w2, w3⟩ := hwp
  obtain ⟨c1, c2, c3⟩ := w2.open_crash hm w1 sk n stay torn sectors
  refine ⟨_, rfl, c1, ?_⟩
  have hq2 := w3.kept sk sq hne c3
  generalize ((openK ((D.wipe w).2.arm n) k).2.crash.2.wake stay torn sectors).2 = E at *
  obtain ⟨a, b, hT, _⟩ := c2.tell hm sk
  obtain ⟨o1, o2, o3, o4⟩ := hT.open_ c1 sk
  have hq3 := hq2.kept sk sq hne o4
  obtain ⟨a2, b2, hT2, _⟩ := hq3.tell hx sq
  obtain ⟨p1, p2, p3, p4⟩ := hT2.open_ o2 sq
  have hk3 : Both (openK (openK E k).2 q).2 k m := Pair.kept o3 sq sk (fun e => hne e.symm) p4
  refine ⟨o1, p1, p2, hk3, p3, ?_⟩
  rcases hs with ⟨rfl, rfl⟩ | ⟨rfl, rfl⟩
  · exact both_bad p2 hk3 p3 hm hx
  · exact both_bad p2 p3 hk3 hx hm
/-- A Put of a younger one, crashed, woken, opened: it is done, or not; the other sort stays. -/
theorem mark_put (hs : Two2 k q) (ho : o.right) (hy : y.right) (hv : o.ver < y.ver) (hD : Still 6 D) (h1 : Both D k o) (h2 : Both D q x) (n stay torn sectors : Int) :
    ∃ m, (m = o ∨ m = y) ∧ ((putK (D.arm n) k y).1 = 0 → m = y) ∧ (openK ((putK (D.arm n) k y).2.crash.2.wake stay torn sectors).2 k).1 = (m, 0) ∧
      Still 6 (openK ((putK (D.arm n) k y).2.crash.2.wake stay torn sectors).2 k).2 ∧ Both (openK ((putK (D.arm n) k y).2.crash.2.wake stay torn sectors).2 k).2 k m ∧ Both (openK ((putK (D.arm n) k y).2.crash.2.wake stay torn sectors).2 k).2 q x := by
  obtain ⟨sk, sq, hne⟩ := hs.sorts
  obtain ⟨hF, hst⟩ := hD.arm n
  have hp : Pair (D.arm n) k (o.blk k) (o.blk k) := ⟨(hst _).trans h1.1, (hst _).trans h1.2⟩
  have hO := mark_ok ho sk
  have hY := mark_ok hy sk
  have sO := slim_seal (slim_mark_len o k)
  obtain ⟨a', b', l1, l2, l3, l4, l5⟩ := flat_layK_crash hF hp hO hO sO sO sk hy stay torn sectors
  have e : putK (D.arm n) k y = layK (D.arm n) k y := by unfold putK; rw [if_pos ⟨sk, hy⟩]
  rw [e]
  have hex : ∃ m, (m = o ∨ m = y) ∧ ((layK (D.arm n) k y).1 = 0 → m = y) ∧ Tell ((layK (D.arm n) k y).2.crash.2.wake stay torn sectors).2 k m a' b' := by
    by_cases hd : (layK (D.arm n) k y).1 = 0
    · obtain ⟨rfl, rfl⟩ := l5 hd
      exact ⟨y, .inr rfl, fun _ => rfl, l2, hY, hY, (newerK_one hy sk (.inl rfl)).1, fun _ => rfl⟩
    · rcases l4 with ⟨rfl, rfl | rfl⟩ | ⟨rfl, rfl⟩
      · exact ⟨y, .inr rfl, fun _ => rfl, l2, hY, hO, newerK_young ho hy sk hv, fun _ => rfl⟩
      · exact ⟨y, .inr rfl, fun _ => rfl, l2, hY, hY, (newerK_one hy sk (.inl rfl)).1, fun _ => rfl⟩
      · exact ⟨o, .inl rfl, fun e => absurd e hd, l2, hO, hO, (newerK_one ho sk (.inl rfl)).1, fun _ => rfl⟩
  obtain ⟨m, m1, m2, hT⟩ := hex
  obtain ⟨o1, o2, o3, o4⟩ := hT.open_ l1 sk
  refine ⟨m, m1, m2, o1, o2, o3, ?_⟩
  exact Pair.kept (Pair.kept (D := D) h2 sk sq hne fun j j1 j2 => (l3 j j1 j2).trans (hst j)) sk sq hne o4
end
end Go.Proofs.YtpaikolnampcfaaGreatDoor
namespace Go.Proofs.YtpaikolnampcfaaGreatDoor
open Mx
section
variable {D D' : DM} {k q : Int} {m o y x : MarkV} {a b : List Int}
theorem both_get (hD : Flat 6 D) (h : Both D k m) (hm : m.right) (hk : sortK k) : getK D k = (m, 0) := by
  rw [flat_get hD hk, h.1, h.2]
  exact (newerK_one hm hk (.inl rfl)).1
/-- Put, unarmed. -/
theorem mark_laid (hD : Still 6 D) (hp : Pair D k a b) (ha : BlkOk a) (hb : BlkOk b) (hk : sortK k) (hm : m.right) :
    (putK D k m).1 = 0 ∧ Still 6 (putK D k m).2 ∧ Both (putK D k m).2 k m ∧ Else k D (putK D k m).2 ∧ (putK D k m).2.scar (placeK k) = false ∧ (putK D k m).2.scar (placeK k + 1) = false := by
  obtain ⟨h1, h2, h3, h4⟩ := still_putK hD hp ha hb hk hm
  obtain ⟨s1, s2⟩ := hD.lay_scar (n := placeK k) (c := sealB (m.unit k)) (place_bd k).2 (by rw [hp.1]; exact ha) (by rw [hp.2]; exact hb) (mark_ok hm hk)
  refine ⟨h1, h2, h3, h4, ?_, ?_⟩
  · unfold putK; rw [if_pos ⟨hk, hm⟩]; exact s1
  · unfold putK; rw [if_pos ⟨hk, hm⟩]; exact s2
theorem new_stored {B j : Nat} (hj : j < B) : (DM.new B).stored j = noughtB := by
  unfold DM.stored DM.new
  show ((List.replicate B nought).getD j ([], false)).1 = _
  rw [List.getD_eq_getElem?_getD, List.getElem?_replicate, if_pos hj]; rfl
/-- A new disk, formatted. -/
theorem mark_format : (formatK (DM.new 6)).1 = 0 ∧ Still 6 (formatK (DM.new 6)).2 ∧ Both (formatK (DM.new 6)).2 2 noMark ∧ Both (formatK (DM.new 6)).2 3 noMark ∧ (formatK (DM.new 6)).2.Few 8 := by
  obtain ⟨h1, h2, h3, h4⟩ := still_format (Still.new (B := 6)) (fun j hj => by rw [new_stored hj]; exact nought_ok)
  exact ⟨h1, h2, h3, h4, few_formatK Few.new⟩
/-- Put over a mark, unarmed: the other sort stays. -/
theorem mark_over (hs : Two2 k q) (hD : Still 6 D) (h1 : Both D k o) (h2 : Both D q x) (ho : o.right) (hm : m.right) :
    (putK D k m).1 = 0 ∧ Still 6 (putK D k m).2 ∧ Both (putK D k m).2 k m ∧ Both (putK D k m).2 q x ∧ (putK D k m).2.scar (placeK k) = false ∧ (putK D k m).2.scar (placeK k + 1) = false := by
  obtain ⟨sk, sq, hne⟩ := hs.sorts
  obtain ⟨p1, p2, p3, p4, p5, p6⟩ := mark_laid hD h1 (mark_ok ho sk) (mark_ok ho sk) sk hm
  exact ⟨p1, p2, p3, Pair.kept h2 sk sq hne p4, p5, p6⟩
/-- A whole copy, hurt by a burst, has none. -/
theorem mark_rot (hD : Still 6 D) (hm : m.right) (hk : sortK k) {n : Nat} (hn : n < 6) (hb : D.stored n = m.blk k) (hs : D.scar n = false) (bit : Int) (hbit : 0 ≤ bit ∧ bit ≤ 2016) (mask : Nat) (h0 : mask.testBit 0 = true) :
    (D.rot n bit mask).1 = 0 ∧ Still 6 (D.rot n bit mask).2 ∧ (BlkOk ((D.rot n bit mask).2.stored n) ∧ (markB k ((D.rot n bit mask).2.stored n)).2 ≠ 0) ∧ (∀ j, j ≠ n → (D.rot n bit mask).2.stored j = D.stored j) ∧ ∀ j, j ≠ n → (D.rot n bit mask).2.scar j = D.scar j := by
  have hB := mark_ok hm hk
  obtain ⟨h1, h2, h3, h4, h5⟩ := hD.rot hn (by rw [hb]; exact hB) hs bit hbit mask h0
  refine ⟨h1, h2, ?_, h4, h5⟩
  rw [h3, hb]
  refine ⟨flipK_ok hB _ _ _, ?_⟩
  rcases mark_burst hm hk bit.toNat mask 32 (by decide) (by omega) with h | h
  · exact absurd h (burst_other hB _ _ _ h0 (by decide) (by decide) (by omega))
  · exact h
/-- Hurt, or not. -/
def rotIf (h : Bool) (D : DM) (n : Nat) (bit : Int) (mask : Nat) : DM := if h then (D.rot n bit mask).2 else D
/-- It is lost just if both copies are hurt; the other sort stays; a Put behind that is told. -/
theorem mark_lost (hs : Two2 k q) (hm : m.right) (hx : x.right) (hy : y.right) (hD : Still 6 D) (h1 : Both D k m) (h2 : Both D q x) (s1 : D.scar (placeK k) = false) (s2 : D.scar (placeK k + 1) = false) (bit : Int) (hbit : 0 ≤ bit ∧ bit ≤ 2016) (mask : Nat) (h0 : mask.testBit 0 = true) (u v : Bool) :
    (D.rot (placeK k) bit mask).1 = 0 ∧ ((rotIf u D (placeK k) bit mask).rot (placeK k + 1 : Nat) bit mask).1 = 0 ∧
      getK (rotIf v (rotIf u D (placeK k) bit mask) (placeK k + 1) bit mask) k = (if u = true ∧ v = true then (noMark, 10) else (m, 0)) ∧ getK (rotIf v (rotIf u D (placeK k) bit mask) (placeK k + 1) bit mask) q = (x, 0) ∧
      (putK (rotIf v (rotIf u D (placeK k) bit mask) (placeK k + 1) bit mask) k y).1 = 0 ∧ getK (putK (rotIf v (rotIf u D (placeK k) bit mask) (placeK k + 1) bit mask) k y).2 k = (y, 0) := by
  obtain ⟨sk, sq, hne⟩ := hs.sorts
  have hpl := (place_bd k).2
  obtain ⟨f1, f2, f3, f4⟩ := place_far sk sq hne
  have hB := mark_ok hm sk
  have r1 := mark_rot hD hm sk (n := placeK k) (by omega) h1.1 s1 bit hbit mask h0
  have hu : Still 6 (rotIf u D (placeK k) bit mask) ∧ BlkOk ((rotIf u D (placeK k) bit mask).stored (placeK k)) ∧ (if u = true then (markB k ((rotIf u D (placeK k) bit mask).stored (placeK k))).2 ≠ 0 else (rotIf u D (placeK k) bit mask).stored (placeK k) = m.blk k) ∧ (∀ j, j ≠ placeK k → (rotIf u D (placeK k) bit mask).stored j = D.stored j) ∧ (rotIf u D (placeK k) bit mask).scar (placeK k + 1) = false := by
    unfold rotIf
    cases u with
    | true => exact ⟨r1.2.1, r1.2.2.1.1, r1.2.2.1.2, r1.2.2.2.1, (r1.2.2.2.2 _ (by omega)).trans s2⟩
    | false => exact ⟨hD, by show BlkOk (D.stored _); rw [h1.1]; exact hB, h1.1, fun _ _ => rfl, s2⟩
  refine ⟨r1.1, ?_⟩
  generalize rotIf u D (placeK k) bit mask = E at *
  obtain ⟨u1, u2, u3, u4, u5⟩ := hu
  have hE : E.stored (placeK k + 1) = m.blk k := (u4 _ (by omega)).trans h1.2
  have r2 := mark_rot u1 hm sk (n := placeK k + 1) hpl hE u5 bit hbit mask h0
  have hv : Still 6 (rotIf v E (placeK k + 1) bit mask) ∧ BlkOk ((rotIf v E (placeK k + 1) bit mask).stored (placeK k + 1)) ∧ (if v = true then (markB k ((rotIf v E (placeK k + 1) bit mask).stored (placeK k + 1))).2 ≠ 0 else (rotIf v E (placeK k + 1) bit mask).stored (placeK k + 1) = m.blk k) ∧ (∀ j, j ≠ placeK k + 1 → (rotIf v E (placeK k + 1) bit mask).stored j = E.stored j) := by
    unfold rotIf
    cases v with
    | true => exact ⟨r2.2.1, r2.2.2.1.1, r2.2.2.1.2, r2.2.2.2.1⟩
    | false => exact ⟨u1, by show BlkOk (E.stored _); rw [hE]; exact hB, hE, fun _ _ => rfl⟩
  refine ⟨r2.1, ?_⟩
  generalize rotIf v E (placeK k + 1) bit mask = F at *
  obtain ⟨v1, v2, v3, v4⟩ := hv
  have hF : F.stored (placeK k) = E.stored (placeK k) := v4 _ (by omega)
  have hq : Both F q x := ⟨(v4 _ f2).trans ((u4 _ f1).trans h2.1), (v4 _ f4).trans ((u4 _ f3).trans h2.2)⟩
  rw [← hF] at u2 u3
  obtain ⟨p1, p2, p3, _⟩ := mark_laid (m := y) v1 ⟨rfl, rfl⟩ u2 v2 sk hy
  refine ⟨?_, both_get v1.flat hq hx sq, p1, both_get p2.flat p3 hy sk⟩
  rw [flat_get v1.flat sk]
  cases u with
  | true =>
    rw [if_pos rfl] at u3
    cases v with
    | true =>
      rw [if_pos rfl] at v3
      rw [if_pos ⟨rfl, rfl⟩]
      exact newerK_none u3 v3
    | false =>
      rw [if_neg (by decide)] at v3
      rw [if_neg (by decide), v3]
      exact (newerK_one hm sk (.inr u3)).1
  | false =>
    rw [if_neg (by decide)] at u3
    rw [if_neg (by rintro ⟨h, _⟩; cases h), u3]
    cases v with
    | true =>
      rw [if_pos rfl] at v3
      exact (newerK_one hm sk (.inr v3)).2
    | false =>
      rw [if_neg (by decide)] at v3
      rw [v3]
      exact (newerK_one hm sk (.inl rfl)).2
end
end Go.Proofs.YtpaikolnampcfaaGreatDoor
namespace Go.Proofs.YtpaikolnampcfaaGreatDoor
open Mx
def m06 : MarkV := ⟨1, 4, 2, 2, 0⟩
theorem m06_right : m06.right := by decide
theorem mark_awake : (formatK (DM.new 6)).1 = 0 ∧ (putK (formatK (DM.new 6)).2 2 m06).1 = 0 ∧ ((putK (formatK (DM.new 6)).2 2 m06).2.wipe 3).1 = 0 ∧ getK ((putK (formatK (DM.new 6)).2 2 m06).2.wipe 3).2 2 = (m06, 0) ∧
    getK ((putK (formatK (DM.new 6)).2 2 m06).2.wipe 3).2 3 = (noMark, 0) ∧ badK ((putK (formatK (DM.new 6)).2 2 m06).2.wipe 3).2 = [3] ∧ (putK (formatK (DM.new 6)).2 2 m06).2.Few 12 := by
  obtain ⟨f1, f2, f3, f4, f5⟩ := mark_format
  obtain ⟨p1, p2, p3, p4, _, p6⟩ := mark_over (m := m06) (.inl ⟨rfl, rfl⟩ : Two2 2 3) f2 f3 f4 noMark_right m06_right
  refine ⟨f1, p1, ?_⟩
  have hF := few_putK f5 2 m06
  generalize (putK (formatK (DM.new 6)).2 2 m06).2 = D at *
  have hne := nought_ne m06_right (.inl rfl : sortK 2)
  have h3 : D.stored 3 = m06.blk 2 := p3.2
  have hs : (D.cells.getD 3 ([], false)).2 = false := p6
  have hlen := p2.flat.len
  have hh : D.has 3 := p2.flat.has (n := 3) (by decide)
  have hw : D.wipe 3 = (0, { D with cells := D.cells.set 3 (noughtB, true) }) := by
    unfold DM.wipe DM.hurt
    rw [if_pos hh, show (3 : Int).toNat = 3 from rfl, if_neg (by rw [h3]; exact hne), hs]
    rfl
  obtain ⟨w1, _, w3⟩ := p2.wipe (n := 3) (by decide)
  have w4 : (D.wipe 3).2.stored 3 = noughtB := by rw [hw]; exact stored_at (cs := D.cells) (x := (noughtB, true)) (n := 3) rfl (by omega)
  have e1 : (D.wipe 3).1 = 0 := by rw [hw]
  have w1 : Still 6 (D.wipe 3).2 := w1
  have w3 : ∀ j, j ≠ 3 → (D.wipe 3).2.stored j = D.stored j := w3
  clear hw
  generalize (D.wipe 3).2 = E at *
  have b2 : E.stored 2 = m06.blk 2 := (w3 2 (by decide)).trans p3.1
  have b4 : E.stored 4 = noMark.blk 3 := (w3 4 (by decide)).trans p4.1
  have b5 : E.stored 5 = noMark.blk 3 := (w3 5 (by decide)).trans p4.2
  have s2 := mark_seal m06_right (.inl rfl : sortK 2)
  have s3 := mark_seal noMark_right (.inr rfl : sortK 3)
  refine ⟨e1, ?_, both_get w1.flat ⟨b4, b5⟩ noMark_right (.inr rfl), ?_, hF⟩
  · rw [flat_get w1.flat (.inl rfl : sortK 2), show placeK 2 = 2 from rfl, b2, w4]
    exact (newerK_one m06_right (.inl rfl) (.inr (markB_nought 2))).2
  · obtain ⟨a1, a2⟩ := flat_reads w1.flat 2
    obtain ⟨c1, c2⟩ := flat_reads w1.flat 3
    rw [show placeK 2 = 2 from rfl] at a1 a2
    rw [show placeK 3 = 4 from rfl] at c1 c2
    rw [b2] at a1
    rw [show (2 : Nat) + 1 = 3 from rfl, w4] at a2
    rw [b4] at c1
    rw [show (4 : Nat) + 1 = 5 from rfl, b5] at c2
    unfold badK seenK badOf
    rw [show placeK 2 = 2 from rfl, show placeK 3 = 4 from rfl, a1, a2, c1, c2]
    have n2 := markB_nought 2
    have k2 : (markB 2 (m06.blk 2)).2 = 0 := by show (markB 2 (sealB (m06.unit 2))).2 = 0; rw [s2]
    have k3 : (markB 3 (noMark.blk 3)).2 = 0 := by show (markB 3 (sealB (noMark.unit 3))).2 = 0; rw [s3]
    simp [n2, k2, k3]
end Go.Proofs.YtpaikolnampcfaaGreatDoor
