/- A disk of a law's own, its blocks told one by one; bytes that were handed out stay. -/
/- A disk that is up and unarmed, what its calls make of it. -/
import Derived.Test.YtmmebaphhgggfaaGreatDoorDevStored
import Derived.Test.YtmmebaphhgggfaaGreatDoorDevWake
import Derived.Test.YtmmebaphhgggfaaGreatDoorKitChg
import Derived.Test.YtmmebaphhgggfaaGreatDoorDevRot
namespace Go.Proofs.YtmmebaphhgggfaaGreatDoor
open Go.RowKit
structure OwnT (w0 w : World) (T : Nat → Prop) (h : Nat) (D : DM) : Prop where
  at_ : DevAt w T h D
  below : Below w0.heap.size w0 w
  lo : ∀ k, T k → w0.heap.size ≤ k
/-- Bytes in a block that is none of the disk's. -/
def Held (w : World) (T : Nat → Prop) (v : Value) (bs : List Int) : Prop := ∃ A, v = .slice A bs.length bs.length ∧ BytesAt w A bs ∧ ∀ a, A = some a → ¬ T a.block ∧ a.block < w.heap.size
theorem Held.step {w w2 : World} {T : Nat → Prop} {v : Value} {bs : List Int} (k : Held w T v bs) (hc : Chg T w w2) : Held w2 (grow T w w2) v bs := by
  obtain ⟨A, rfl, hb, ha⟩ := k
  refine ⟨A, rfl, hb.hold (fun a e => hc.block _ (ha a e).2 (ha a e).1), fun a e => ⟨fun ht => ?_, Nat.lt_of_lt_of_le (ha a e).2 hc.size⟩⟩
  rcases ht with ht | ht
  · exact (ha a e).1 ht
  · have := (ha a e).2; omega
theorem Held.on {w w2 : World} {T : Nat → Prop} {v : Value} {bs : List Int} (k : Held w T v bs) (hb : Below w.heap.size w w2) : Held w2 T v bs := by
  obtain ⟨A, rfl, h, ha⟩ := k
  exact ⟨A, rfl, h.hold (fun a e => hb.block _ (ha a e).2), fun a e => ⟨(ha a e).1, Nat.lt_of_lt_of_le (ha a e).2 hb.size⟩⟩
theorem OutAt.held {w w2 : World} {T : Nat → Prop} {v : Value} {bs : List Int} (h : OutAt w2 w.heap.size v bs) (hf : ∀ k, T k → k < w.heap.size) : Held w2 T v bs := by
  obtain ⟨A, rfl, hb, ha⟩ := h.bytes
  exact ⟨A, rfl, hb, fun a e => ⟨fun ht => by have := hf _ ht; have := (ha a e).1; omega, (ha a e).2⟩⟩
section
variable {σ : SenD} {w0 w w' : World} {T : Nat → Prop} {h : Nat} {D : DM}
theorem OwnT.gl (k : OwnT w0 w T h D) (hG : GlD σ w0) : GlD σ w := hG.below k.below
theorem OwnT.gs (k : OwnT w0 w T h D) (hS : GlS σ w0) : GlS σ w := hS.below k.below
theorem OwnT.apart (k : OwnT w0 w T h D) (hG : GlD σ w0) : ∀ b, σ.blk b → ¬ T b := fun b hb ht => by have := hG.lt hb; have := k.lo b ht; omega
theorem OwnT.apartS (k : OwnT w0 w T h D) (hS : GlS σ w0) : ∀ b, σ.blkS b → ¬ T b := fun b hb ht => by have := hS.lt hb; have := k.lo b ht; omega
theorem OwnT.next {w2 : World} {D' : DM} (k : OwnT w0 w T h D) (d : Dev w T h D' w2) : OwnT w0 w2 (grow T w w2) h D' :=
  ⟨d.at_, d.fr.below k.below k.lo k.below.size, fun j hj => by
    rcases hj with hj | hj
    · exact k.lo j hj
    · exact Nat.le_trans k.below.size hj.1⟩
theorem OwnT.on (k : OwnT w0 w T h D) (hb : Below w.heap.size w w') : OwnT w0 w' T h D := ⟨k.at_.below hb, k.below.trans (hb.mono k.below.size), k.lo⟩
theorem OwnT.drewN (k : OwnT w0 w T h D) (n : Nat) : OwnT w0 (w.drewN n) T h D := ⟨k.at_.drewN n, drewN_below k.below n, k.lo⟩
theorem OwnT.write (hG : GlD σ w0) (k : OwnT w0 w T h D) (hF : D.Few 1000000) (n : Int) (A : Option Addr) (bs : List Int) (c : Nat) (hz : BytesAt w A bs) (hA : bs ≠ [] → ∀ a, A = some a → ¬ T a.block) (hl : bs.length ≤ 140737488351232) :
    Calls Tryz.prog 31 #[.pointer (some ⟨h, 0, none⟩), .int .i64 n, .slice A bs.length c] w fun e w2 => e = .returned (.int .i64 (D.write n bs).1) ∧ OwnT w0 w2 (grow T w w2) h (D.write n bs).2 ∧ Chg T w w2 :=
  (write_any σ k.at_ hF (k.gl hG) (k.apart hG) n A bs c hz hA hl).mono fun _ _ ⟨h1, h2⟩ => ⟨h1, k.next h2, h2.fr⟩
theorem OwnT.sync (hG : GlD σ w0) (k : OwnT w0 w T h D) (hF : D.Few 1000000) :
    Calls Tryz.prog 45 #[.pointer (some ⟨h, 0, none⟩)] w fun e w2 => e = .returned (.int .i64 D.sync.1) ∧ OwnT w0 w2 (grow T w w2) h D.sync.2 ∧ Chg T w w2 :=
  (sync_any σ k.at_ hF (k.gl hG) (k.apart hG)).mono fun _ _ ⟨h1, h2⟩ => ⟨h1, k.next h2, h2.fr⟩
theorem OwnT.crash (hG : GlD σ w0) (k : OwnT w0 w T h D) (hF : D.Few 1000000) :
    Calls Tryz.prog 32 #[.pointer (some ⟨h, 0, none⟩)] w fun e w2 => e = .returned (.int .i64 D.crash.1) ∧ OwnT w0 w2 (grow T w w2) h D.crash.2 ∧ Chg T w w2 :=
  (crash_any σ k.at_ hF (k.gl hG)).mono fun _ _ ⟨h1, h2⟩ => ⟨h1, k.next h2, h2.fr⟩
theorem OwnT.wake (k : OwnT w0 w T h D) (hF : D.Few 1000000) (stay torn sectors : Int) :
    Calls Tryz.prog 33 #[.pointer (some ⟨h, 0, none⟩), .int .i64 stay, .int .i64 torn, .int .i64 sectors] w fun e w2 => e = .returned (.int .i64 (D.wake stay torn sectors).1) ∧ OwnT w0 w2 (grow T w w2) h (D.wake stay torn sectors).2 ∧ Chg T w w2 :=
  (wake_any k.at_ hF stay torn sectors).mono fun _ _ ⟨h1, h2⟩ => ⟨h1, k.next h2, h2.fr⟩
theorem OwnT.rot (hG : GlD σ w0) (hS : GlS σ w0) (k : OwnT w0 w T h D) (n bit : Int) (mask : Nat) (hm : mask < 4294967296) :
    Calls Tryz.prog 27 #[.pointer (some ⟨h, 0, none⟩), .int .i64 n, .int .i64 bit, .int .u32 (mask : Int)] w fun e w2 => e = .returned (.int .i64 (D.rot n bit mask).1) ∧ OwnT w0 w2 (grow T w w2) h (D.rot n bit mask).2 ∧ Chg T w w2 :=
  (rot_any σ k.at_ (k.gl hG) (k.gs hS) (k.apart hG) (k.apartS hS) n bit mask hm).mono fun _ _ ⟨h1, h2⟩ => ⟨h1, k.next h2, h2.fr⟩
theorem OwnT.wipe (hG : GlD σ w0) (hS : GlS σ w0) (k : OwnT w0 w T h D) (n : Int) :
    Calls Tryz.prog 30 #[.pointer (some ⟨h, 0, none⟩), .int .i64 n] w fun e w2 => e = .returned (.int .i64 (D.wipe n).1) ∧ OwnT w0 w2 (grow T w w2) h (D.wipe n).2 ∧ Chg T w w2 :=
  (wipe_any σ k.at_ (k.gl hG) (k.gs hS) (k.apart hG) (k.apartS hS) n).mono fun _ _ ⟨h1, h2⟩ => ⟨h1, k.next h2, h2.fr⟩
theorem OwnT.stored (k : OwnT w0 w T h D) (n : Int) :
    Calls Tryz.prog 29 #[.pointer (some ⟨h, 0, none⟩), .int .i64 n] w fun e w2 => ∃ v, e = .returned v ∧ Held w2 T v (D.storedI n) ∧ Below w.heap.size w w2 ∧ OwnT w0 w2 T h D :=
  (stored_any k.at_ n).mono fun _ _ ⟨v, h1, h2, h3⟩ => ⟨v, h1, h2.held k.at_.foot, h3, k.on h3⟩
theorem OwnT.new (hb : Below w0.heap.size w0 w) (n : Nat) (h0 : 0 < n) (h1 : n ≤ 4096) :
    Calls Tryz.prog 44 #[.int .i64 (n : Int)] w fun e w2 => ∃ h, e = .returned (.tuple #[.pointer (some ⟨h, 0, none⟩), .int .i64 0]) ∧ OwnT w0 w2 (fun k => w.heap.size ≤ k ∧ k < w2.heap.size) h (DM.new n) ∧ Below w.heap.size w w2 :=
  (new_any n h0 h1).mono fun _ _ ⟨h, e1, e2, e3⟩ => ⟨h, e1, ⟨e2, hb.trans (e3.mono hb.size), fun _ hj => Nat.le_trans hb.size hj.1⟩, e3⟩
/-- Two rows of bytes that were handed out, compared. -/
theorem Held.same {v u : Value} {xs ys : List Int} (hx : Held w T v xs) (hy : Held w T u ys) (hl : xs.length ≤ 9223372036854775807) :
    Calls Tryz.prog 17 #[v, u] w fun e w2 => e = .returned (.bool (sameB xs ys)) ∧ ∃ n, w2 = w.drewN n := by
  obtain ⟨A, rfl, h1, _⟩ := hx
  obtain ⟨B, rfl, h2, _⟩ := hy
  exact sameBytes_any xs ys A B _ _ w h1 h2 hl
end
end Go.Proofs.YtmmebaphhgggfaaGreatDoor
namespace Go.Proofs.YtmmebaphhgggfaaGreatDoor
/-- A disk of so many blocks, which is up and unarmed. -/
structure Calm (B : Nat) (D : DM) : Prop where
  len : D.cells.length = B
  up : D.down = false
  unarmed : D.armed = 0
section
variable {B : Nat} {D : DM}
theorem Calm.write (h : Calm B D) (n : Int) (hn : 0 ≤ n ∧ n < (B : Int)) (bs : List Int) : Calm B (D.write n bs).2 ∧ (D.write n bs).2.cells = D.cells ∧ (D.write n bs).2.waits = D.waits ++ (if bs.length ≤ 256 then [(n.toNat, padB bs)] else []) := by
  have hh : D.has n := ⟨hn.1, by rw [h.len]; exact hn.2⟩
  unfold DM.write
  rw [if_neg (by rw [h.up]; decide)]
  by_cases hb : 256 < bs.length
  · rw [if_pos (.inr hb), if_neg (by omega)]; exact ⟨h, rfl, (List.append_nil _).symm⟩
  · rw [if_neg (by rintro (h1 | h1); exact h1 hh; exact hb h1), if_neg (by rw [h.unarmed]; decide), if_pos (by omega)]
    exact ⟨⟨h.len, h.up, by show D.armed - 1 = 0; rw [h.unarmed]⟩, rfl, rfl⟩
theorem DM.Few.write {k : Nat} (h : D.Few k) (n : Int) (bs : List Int) : (D.write n bs).2.Few (k + 1) := by
  have h1 := h.tu
  have h2 := h.cr
  have h3 := h.ws
  have h0 : D.Few (k + 1) := ⟨by omega, by omega, by omega⟩
  unfold DM.write
  split
  · exact h0
  · split
    · exact h0
    · split
      · exact ⟨by show D.turns ≤ _; omega, by show D.crashes + 1 ≤ _; omega, by show D.waits.length ≤ _; omega⟩
      · exact ⟨by show D.turns + 1 ≤ _; omega, by show D.crashes ≤ _; omega, by show (D.waits ++ [_]).length ≤ _; rw [List.length_append, List.length_singleton]; omega⟩
theorem Calm.write0 (h : Calm B D) (n : Int) (hn : 0 ≤ n ∧ n < (B : Int)) (bs : List Int) (hb : bs.length ≤ 256) : (D.write n bs).1 = 0 := by
  have hh : D.has n := ⟨hn.1, by rw [h.len]; exact hn.2⟩
  unfold DM.write
  rw [if_neg (by rw [h.up]; decide), if_neg (by rintro (h1 | h1); exact h1 hh; omega), if_neg (by rw [h.unarmed]; decide)]
theorem Calm.new {B : Nat} : Calm B (DM.new B) := ⟨List.length_replicate, rfl, rfl⟩
theorem Few.new {B : Nat} : (DM.new B).Few 0 := ⟨Nat.le_refl 0, Nat.le_refl 0, Nat.le_refl 0⟩
theorem Calm.sync (h : Calm B D) {k : Nat} (hF : D.Few k) : D.sync.1 = 0 ∧ Calm B D.sync.2 ∧ D.sync.2.waits = [] ∧ D.sync.2.Few (k + 1) := by
  unfold DM.sync
  rw [if_neg (by rw [h.up]; decide), if_neg (by rw [h.unarmed]; decide)]
  have h1 := hF.tu
  have h2 := hF.cr
  exact ⟨rfl, ⟨by show (settleK _ _ _ _).length = B; rw [settleK_len]; exact h.len, h.up, by show D.armed - 1 = 0; rw [h.unarmed]⟩, rfl, ⟨by show D.turns + 1 ≤ _; omega, by show D.crashes ≤ _; omega, Nat.zero_le _⟩⟩
theorem Calm.crash (h : Calm B D) {k : Nat} (hF : D.Few k) (stay torn sectors : Int) : D.crash.1 = 0 ∧ D.crash.2.Few (k + 1) ∧ (D.crash.2.wake stay torn sectors).1 = 0 ∧ (D.crash.2.wake stay torn sectors).2.cells = settleK D.cells D.waits (fate stay torn sectors) D.waits.length ∧ (D.crash.2.wake stay torn sectors).2.waits = [] ∧ Calm B (D.crash.2.wake stay torn sectors).2 := by
  unfold DM.crash
  rw [if_neg (by rw [h.up]; decide)]
  have h1 := hF.tu
  have h2 := hF.cr
  have h3 := hF.ws
  refine ⟨rfl, ⟨by show D.turns ≤ _; omega, by show D.crashes + 1 ≤ _; omega, by show D.waits.length ≤ _; omega⟩, ?_⟩
  unfold DM.wake
  rw [if_pos rfl]
  exact ⟨rfl, rfl, rfl, ⟨by show (settleK _ _ _ _).length = B; rw [settleK_len]; exact h.len, rfl, rfl⟩⟩
theorem Calm.read (h : Calm B D) (hw : D.waits = []) {n : Nat} (hn : n < B) : D.read (n : Int) = (D.stored n, 0) ∧ D.storedI (n : Int) = D.stored n := by
  have hh : D.has (n : Int) := ⟨by omega, by rw [h.len]; omega⟩
  unfold DM.read DM.storedI
  rw [if_neg (by rw [h.up]; decide), if_pos hh, if_pos hh, Int.toNat_natCast]
  refine ⟨?_, rfl⟩
  unfold DM.seen
  rw [hw]; rfl
theorem Calm.stored (h : Calm B D) {n : Nat} (hn : n < B) : D.storedI (n : Int) = D.stored n := by
  have hh : D.has (n : Int) := ⟨by omega, by rw [h.len]; omega⟩
  unfold DM.storedI
  rw [if_pos hh, Int.toNat_natCast]
theorem DM.Ok.stored_len (h : D.Ok) {n : Nat} (hn : n < D.cells.length) : (D.stored n).length = 256 := by
  unfold DM.stored
  rw [List.getD_eq_getElem?_getD, List.getElem?_eq_getElem hn]
  exact (h.bytes n _ (List.getElem?_eq_getElem hn)).1
end
/-- A disk of one block, that is up, where nothing waits. -/
structure One (D : DM) (b : List Int) (hurt : Bool) : Prop where
  calm : Calm 1 D
  cells : D.cells = [(b, hurt)]
  waits : D.waits = []
section
variable {D : DM} {b c : List Int} {hurt : Bool}
theorem One.new : One (DM.new 1) (List.replicate 256 0) false := ⟨Calm.new, rfl, rfl⟩
theorem One.stored (h : One D b hurt) : D.storedI 0 = b := by
  rw [show (0 : Int) = ((0 : Nat) : Int) from rfl, h.calm.stored (by decide)]
  unfold DM.stored
  rw [h.cells]; rfl
theorem padB_full (hc : c.length = 256) : padB c = c := by unfold padB; rw [hc]; simp
/-- Written, synced. -/
theorem One.sync (h : One D b hurt) (hb : BlkOk b) (hc : BlkOk c) {k : Nat} (hF : D.Few k) : (D.write 0 c).1 = 0 ∧ (D.write 0 c).2.Few (k + 1) ∧ (D.write 0 c).2.sync.1 = 0 ∧ One (D.write 0 c).2.sync.2 c false ∧ (D.write 0 c).2.sync.2.Few (k + 2) := by
  have h0 : (0 : Int) ≤ 0 ∧ (0 : Int) < ((1 : Nat) : Int) := by decide
  obtain ⟨h1, h2, h3⟩ := h.calm.write 0 h0 c
  have hF1 := hF.write 0 c
  obtain ⟨s1, s2, s3, s4⟩ := h1.sync hF1
  refine ⟨h.calm.write0 0 h0 c (by have := hc.1; omega), hF1, s1, ⟨s2, ?_, s3⟩, s4⟩
  unfold DM.sync
  rw [if_neg (by rw [h1.up]; decide), if_neg (by rw [h1.unarmed]; decide)]
  show settleK (D.write 0 c).2.cells (D.write 0 c).2.waits (fun _ => 8) (D.write 0 c).2.waits.length = [(c, false)]
  rw [h2, h3, h.cells, h.waits, if_pos (by have := hc.1; omega), padB_full hc.1]
  show [storeS (b, hurt) c 8] = [(c, false)]
  rw [storeS_whole hb hc]
/-- Written, crashed, woken: the first write torn. -/
theorem One.torn (h : One D b hurt) (hc : BlkOk c) {k : Nat} (hF : D.Few k) (sectors : Int) : (D.write 0 c).1 = 0 ∧ (D.write 0 c).2.Few (k + 1) ∧ (D.write 0 c).2.crash.1 = 0 ∧ (D.write 0 c).2.crash.2.Few (k + 2) ∧ ((D.write 0 c).2.crash.2.wake 0 0 sectors).1 = 0 ∧
    ∃ hurt', One ((D.write 0 c).2.crash.2.wake 0 0 sectors).2 (c.take (32 * (sectors % 9).toNat) ++ b.drop (32 * (sectors % 9).toNat)) hurt' := by
  have h0 : (0 : Int) ≤ 0 ∧ (0 : Int) < ((1 : Nat) : Int) := by decide
  obtain ⟨h1, h2, h3⟩ := h.calm.write 0 h0 c
  have hF1 := hF.write 0 c
  obtain ⟨s1, s2, s3, s4, s5, s6⟩ := h1.crash hF1 0 0 sectors
  refine ⟨h.calm.write0 0 h0 c (by have := hc.1; omega), hF1, s1, s2, s3, (storeS (b, hurt) c (sectors % 9).toNat).2, s6, ?_, s5⟩
  rw [s4, h2, h3, h.cells, h.waits, if_pos (by have := hc.1; omega), padB_full hc.1]
  show [storeS (b, hurt) c (fate 0 0 sectors 0)] = _
  rw [show fate 0 0 sectors 0 = (sectors % 9).toNat from if_pos rfl]
  rfl
theorem One.few_wake {k : Nat} (hF : D.Few k) (stay torn sectors : Int) : (D.wake stay torn sectors).2.Few k := by
  unfold DM.wake
  split
  · exact ⟨hF.tu, hF.cr, Nat.zero_le _⟩
  · exact hF
/-- Hurt by a burst. -/
theorem One.rot (h : One D b false) (bit : Int) (hb : 0 ≤ bit ∧ bit < 2048) (mask : Nat) : ((D.rot 0 bit mask).1 = 0 ↔ flipK b bit.toNat mask (min 32 (2048 - bit.toNat)) ≠ b) ∧
    ∃ hurt', One (D.rot 0 bit mask).2 (flipK b bit.toNat mask (min 32 (2048 - bit.toNat))) hurt' := by
  have hh : D.has 0 := ⟨by decide, by rw [h.calm.len]; decide⟩
  have hs : D.stored 0 = b := by unfold DM.stored; rw [h.cells]; rfl
  unfold DM.rot
  rw [if_pos ⟨hh, hb⟩, show (0 : Int).toNat = 0 from rfl, hs]
  generalize flipK b bit.toNat mask (min 32 (2048 - bit.toNat)) = c
  unfold DM.hurt
  rw [hs]
  by_cases hc : c = b
  · rw [if_pos hc]
    exact ⟨⟨fun e => absurd (show (2 : Int) = 0 from e) (by decide), fun e => absurd hc e⟩, false, by rw [hc]; exact h⟩
  · rw [if_neg hc, if_neg (by rw [h.cells]; exact Bool.false_ne_true)]
    exact ⟨⟨fun _ => hc, fun _ => rfl⟩, true, ⟨by show (D.cells.set 0 _).length = 1; rw [List.length_set]; exact h.calm.len, h.calm.up, h.calm.unarmed⟩, by show D.cells.set 0 _ = _; rw [h.cells]; rfl, h.waits⟩
/-- Wiped. -/
theorem One.wipe (h : One D b false) (hb : b ≠ List.replicate 256 0) : (D.wipe 0).1 = 0 ∧ One (D.wipe 0).2 (List.replicate 256 0) true := by
  have hh : D.has 0 := ⟨by decide, by rw [h.calm.len]; decide⟩
  have hs : D.stored 0 = b := by unfold DM.stored; rw [h.cells]; rfl
  unfold DM.wipe
  rw [if_pos hh, show (0 : Int).toNat = 0 from rfl]
  unfold DM.hurt
  rw [hs, if_neg (fun e => hb e.symm), if_neg (by rw [h.cells]; exact Bool.false_ne_true)]
  exact ⟨rfl, ⟨by show (D.cells.set 0 _).length = 1; rw [List.length_set]; exact h.calm.len, h.calm.up, h.calm.unarmed⟩, by show D.cells.set 0 _ = _; rw [h.cells]; rfl, h.waits⟩
end
end Go.Proofs.YtmmebaphhgggfaaGreatDoor
