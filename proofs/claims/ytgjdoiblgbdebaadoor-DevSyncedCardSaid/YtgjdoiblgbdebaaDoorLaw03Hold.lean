/- A disk of a law's own, its blocks told one by one; bytes that were handed out stay. -/
import Derived.Test.YtgjdoiblgbdebaaDoorLaw03Own
import Derived.Test.YtgjdoiblgbdebaaDoorDevRot
namespace Go.Proofs.YtgjdoiblgbdebaaDoor
open Go.RowKit
structure OwnT (w0 w : World) (T : Nat → Prop) (h : Nat) (D : DM) : Prop where
  at_ : DevAt w T h D
  below : Below w0.heap.size w0 w
  lo : ∀ k, T k → w0.heap.size ≤ k
/-- Bytes in a block that is none of the disk's. -/
def Held (w : World) (T : Nat → Prop) (v : Value) (bs : List Int) : Prop := ∃ A, v = .slice A bs.length bs.length ∧ BytesAt w A bs ∧ ∀ a, A = some a → ¬ T a.block ∧ a.block < w.heap.size
theorem Held.step {w w2 : World} {T : Nat → Prop} {v : Value} {bs : List Int} (k : Held w T v bs) (hc : Chg T w w2) : Held w2 (grow T w w2) v bs := by
  obtain ⟨A, rfl, hb, ha⟩ := k
  refine ⟨A, rfl, hb.hold (fun a e => hc.block _ (ha a e).2 (ha a e).1), fun a e => ⟨fun ht => ?_, Nat.lt_of_lt_of_le (ha a e).2 hc.size⟩⟩
  rcases ht with ht | ht
  · exact (ha a e).1 ht
  · have := (ha a e).2; omega
theorem Held.on {w w2 : World} {T : Nat → Prop} {v : Value} {bs : List Int} (k : Held w T v bs) (hb : Below w.heap.size w w2) : Held w2 T v bs := by
  obtain ⟨A, rfl, h, ha⟩ := k
  exact ⟨A, rfl, h.hold (fun a e => hb.block _ (ha a e).2), fun a e => ⟨(ha a e).1, Nat.lt_of_lt_of_le (ha a e).2 hb.size⟩⟩
theorem OutAt.held {w w2 : World} {T : Nat → Prop} {v : Value} {bs : List Int} (h : OutAt w2 w.heap.size v bs) (hf : ∀ k, T k → k < w.heap.size) : Held w2 T v bs := by
  obtain ⟨A, rfl, hb, ha⟩ := h.bytes
  exact ⟨A, rfl, hb, fun a e => ⟨fun ht => by have := hf _ ht; have := (ha a e).1; omega, (ha a e).2⟩⟩
section
variable {σ : SenD} {w0 w w' : World} {T : Nat → Prop} {h : Nat} {D : DM}
theorem OwnT.gl (k : OwnT w0 w T h D) (hG : GlD σ w0) : GlD σ w := hG.below k.below
theorem OwnT.gs (k : OwnT w0 w T h D) (hS : GlS σ w0) : GlS σ w := hS.below k.below
theorem OwnT.apart (k : OwnT w0 w T h D) (hG : GlD σ w0) : ∀ b, σ.blk b → ¬ T b := fun b hb ht => by have := hG.lt hb; have := k.lo b ht; omega
theorem OwnT.apartS (k : OwnT w0 w T h D) (hS : GlS σ w0) : ∀ b, σ.blkS b → ¬ T b := fun b hb ht => by have := hS.lt hb; have := k.lo b ht; omega
theorem OwnT.next {w2 : World} {D' : DM} (k : OwnT w0 w T h D) (d : Dev w T h D' w2) : OwnT w0 w2 (grow T w w2) h D' :=
  ⟨d.at_, d.fr.below k.below k.lo k.below.size, fun j hj => by
    rcases hj with hj | hj
    · exact k.lo j hj
    · exact Nat.le_trans k.below.size hj.1⟩
theorem OwnT.on (k : OwnT w0 w T h D) (hb : Below w.heap.size w w') : OwnT w0 w' T h D := ⟨k.at_.below hb, k.below.trans (hb.mono k.below.size), k.lo⟩
theorem OwnT.drewN (k : OwnT w0 w T h D) (n : Nat) : OwnT w0 (w.drewN n) T h D := ⟨k.at_.drewN n, drewN_below k.below n, k.lo⟩
theorem OwnT.write (hG : GlD σ w0) (k : OwnT w0 w T h D) (hF : D.Few 1000000) (n : Int) (A : Option Addr) (bs : List Int) (c : Nat) (hz : BytesAt w A bs) (hA : bs ≠ [] → ∀ a, A = some a → ¬ T a.block) (hl : bs.length ≤ 140737488351232) :
    Calls Tryd.prog 16 #[.pointer (some ⟨h, 0, none⟩), .int .i64 n, .slice A bs.length c] w fun e w2 => e = .returned (.int .i64 (D.write n bs).1) ∧ OwnT w0 w2 (grow T w w2) h (D.write n bs).2 ∧ Chg T w w2 :=
  (write_any σ k.at_ hF (k.gl hG) (k.apart hG) n A bs c hz hA hl).mono fun _ _ ⟨h1, h2⟩ => ⟨h1, k.next h2, h2.fr⟩
theorem OwnT.sync (hG : GlD σ w0) (k : OwnT w0 w T h D) (hF : D.Few 1000000) :
    Calls Tryd.prog 18 #[.pointer (some ⟨h, 0, none⟩)] w fun e w2 => e = .returned (.int .i64 D.sync.1) ∧ OwnT w0 w2 (grow T w w2) h D.sync.2 ∧ Chg T w w2 :=
  (sync_any σ k.at_ hF (k.gl hG) (k.apart hG)).mono fun _ _ ⟨h1, h2⟩ => ⟨h1, k.next h2, h2.fr⟩
theorem OwnT.crash (hG : GlD σ w0) (k : OwnT w0 w T h D) (hF : D.Few 1000000) :
    Calls Tryd.prog 21 #[.pointer (some ⟨h, 0, none⟩)] w fun e w2 => e = .returned (.int .i64 D.crash.1) ∧ OwnT w0 w2 (grow T w w2) h D.crash.2 ∧ Chg T w w2 :=
  (crash_any σ k.at_ hF (k.gl hG)).mono fun _ _ ⟨h1, h2⟩ => ⟨h1, k.next h2, h2.fr⟩
theorem OwnT.wake (k : OwnT w0 w T h D) (hF : D.Few 1000000) (stay torn sectors : Int) :
    Calls Tryd.prog 22 #[.pointer (some ⟨h, 0, none⟩), .int .i64 stay, .int .i64 torn, .int .i64 sectors] w fun e w2 => e = .returned (.int .i64 (D.wake stay torn sectors).1) ∧ OwnT w0 w2 (grow T w w2) h (D.wake stay torn sectors).2 ∧ Chg T w w2 :=
  (wake_any k.at_ hF stay torn sectors).mono fun _ _ ⟨h1, h2⟩ => ⟨h1, k.next h2, h2.fr⟩
theorem OwnT.rot (hG : GlD σ w0) (hS : GlS σ w0) (k : OwnT w0 w T h D) (n bit : Int) (mask : Nat) (hm : mask < 4294967296) :
    Calls Tryd.prog 27 #[.pointer (some ⟨h, 0, none⟩), .int .i64 n, .int .i64 bit, .int .u32 (mask : Int)] w fun e w2 => e = .returned (.int .i64 (D.rot n bit mask).1) ∧ OwnT w0 w2 (grow T w w2) h (D.rot n bit mask).2 ∧ Chg T w w2 :=
  (rot_any σ k.at_ (k.gl hG) (k.gs hS) (k.apart hG) (k.apartS hS) n bit mask hm).mono fun _ _ ⟨h1, h2⟩ => ⟨h1, k.next h2, h2.fr⟩
theorem OwnT.wipe (hG : GlD σ w0) (hS : GlS σ w0) (k : OwnT w0 w T h D) (n : Int) :
    Calls Tryd.prog 28 #[.pointer (some ⟨h, 0, none⟩), .int .i64 n] w fun e w2 => e = .returned (.int .i64 (D.wipe n).1) ∧ OwnT w0 w2 (grow T w w2) h (D.wipe n).2 ∧ Chg T w w2 :=
  (wipe_any σ k.at_ (k.gl hG) (k.gs hS) (k.apart hG) (k.apartS hS) n).mono fun _ _ ⟨h1, h2⟩ => ⟨h1, k.next h2, h2.fr⟩
theorem OwnT.read (hG : GlD σ w0) (k : OwnT w0 w T h D) (n : Int) :
    Calls Tryd.prog 23 #[.pointer (some ⟨h, 0, none⟩), .int .i64 n] w fun e w2 => ∃ v, e = .returned (.tuple #[v, .int .i64 (D.read n).2]) ∧ Held w2 T v (D.read n).1 ∧ Below w.heap.size w w2 ∧ OwnT w0 w2 T h D :=
  (read_any σ k.at_ (k.gl hG) n).mono fun _ _ ⟨v, h1, h2, h3⟩ => ⟨v, h1, h2.held k.at_.foot, h3, k.on h3⟩
theorem OwnT.stored (k : OwnT w0 w T h D) (n : Int) :
    Calls Tryd.prog 20 #[.pointer (some ⟨h, 0, none⟩), .int .i64 n] w fun e w2 => ∃ v, e = .returned v ∧ Held w2 T v (D.storedI n) ∧ Below w.heap.size w w2 ∧ OwnT w0 w2 T h D :=
  (stored_any k.at_ n).mono fun _ _ ⟨v, h1, h2, h3⟩ => ⟨v, h1, h2.held k.at_.foot, h3, k.on h3⟩
theorem OwnT.stat (k : OwnT w0 w T h D) :
    Calls Tryd.prog 19 #[.pointer (some ⟨h, 0, none⟩)] w fun e w2 => e = .returned D.statV ∧ Below w.heap.size w w2 ∧ OwnT w0 w2 T h D :=
  (stat_any k.at_).mono fun _ _ ⟨h1, h2⟩ => ⟨h1, h2, k.on h2⟩
theorem OwnT.new (hb : Below w0.heap.size w0 w) (n : Nat) (h0 : 0 < n) (h1 : n ≤ 4096) :
    Calls Tryd.prog 9 #[.int .i64 (n : Int)] w fun e w2 => ∃ h, e = .returned (.tuple #[.pointer (some ⟨h, 0, none⟩), .int .i64 0]) ∧ OwnT w0 w2 (fun k => w.heap.size ≤ k ∧ k < w2.heap.size) h (DM.new n) ∧ Below w.heap.size w w2 :=
  (new_any n h0 h1).mono fun _ _ ⟨h, e1, e2, e3⟩ => ⟨h, e1, ⟨e2, hb.trans (e3.mono hb.size), fun _ hj => Nat.le_trans hb.size hj.1⟩, e3⟩
/-- Two rows of bytes that were handed out, compared. -/
theorem Held.same {v u : Value} {xs ys : List Int} (hx : Held w T v xs) (hy : Held w T u ys) (hl : xs.length ≤ 9223372036854775807) :
    Calls Tryd.prog 24 #[v, u] w fun e w2 => e = .returned (.bool (sameB xs ys)) ∧ ∃ n, w2 = w.drewN n := by
  obtain ⟨A, rfl, h1, _⟩ := hx
  obtain ⟨B, rfl, h2, _⟩ := hy
  exact sameBytes_any xs ys A B _ _ w h1 h2 hl
end
end Go.Proofs.YtgjdoiblgbdebaaDoor
