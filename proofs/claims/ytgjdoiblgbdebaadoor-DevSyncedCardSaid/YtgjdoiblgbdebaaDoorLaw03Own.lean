/- A disk of a law's own, and what each call makes of it. -/
import Derived.Test.YtgjdoiblgbdebaaDoorDevNew
import Derived.Test.YtgjdoiblgbdebaaDoorDevStat
import Derived.Deep.LoopGhost
namespace Go.Proofs.YtgjdoiblgbdebaaDoor
open Go.RowKit
/-- Below what was there at the start nothing has turned: a disk of its own may. -/
theorem Chg.own {B : Nat} {a w w' : World} {T : Nat → Prop} (h : Chg T w w') (hb : Below B a w) (hT : ∀ k, T k → B ≤ k) (hB : B ≤ w.heap.size) : Below B a w' := h.below hb hT hB
/-- A disk of a law's own, in what was laid since. -/
structure Own (w0 w : World) (h : Nat) (D : DM) : Prop where
  at_ : DevAt w (fun k => w0.heap.size ≤ k ∧ k < w.heap.size) h D
  below : Below w0.heap.size w0 w
theorem Own.next {w0 w w' : World} {h : Nat} {D D' : DM} (k : Own w0 w h D) (d : Dev w (fun k => w0.heap.size ≤ k ∧ k < w.heap.size) h D' w') : Own w0 w' h D' :=
  ⟨d.at_.mono (by
    have := k.below.size
    have := d.fr.size
    rintro j (hj | hj)
    · exact ⟨hj.1, by omega⟩
    · exact ⟨by omega, hj.2⟩) (fun _ hj => hj.2), d.fr.below k.below (fun _ hj => hj.1) k.below.size⟩
theorem Own.on {w0 w w' : World} {h : Nat} {D : DM} (k : Own w0 w h D) (hb : Below w.heap.size w w') : Own w0 w' h D :=
  ⟨(k.at_.below hb).mono (fun _ hj => ⟨hj.1, Nat.lt_of_lt_of_le hj.2 hb.size⟩) (fun _ hj => hj.2), k.below.trans (hb.mono k.below.size)⟩
theorem Own.drewN {w0 w : World} {h : Nat} {D : DM} (k : Own w0 w h D) (n : Nat) : Own w0 (w.drewN n) h D := ⟨k.at_.drewN n, drewN_below k.below n⟩
theorem Own.gl {σ : SenD} {w0 w : World} {h : Nat} {D : DM} (k : Own w0 w h D) (hG : GlD σ w0) : GlD σ w := hG.below k.below
theorem Own.apart {σ : SenD} {w0 w : World} (hG : GlD σ w0) : ∀ b, σ.blk b → ¬ (w0.heap.size ≤ b ∧ b < w.heap.size) := fun b hb h => by have := hG.lt hb; omega
section
variable {σ : SenD} {w0 w w' : World} {h : Nat} {D : DM}
theorem Own.write (hG : GlD σ w0) (k : Own w0 w h D) (hF : D.Few 1000000) (hb : Below w.heap.size w w') (n : Int) (A : Option Addr) (bs : List Int) (c : Nat) (hz : BytesAt w' A bs) (hA : bs ≠ [] → ∀ a, A = some a → ¬ (w0.heap.size ≤ a.block ∧ a.block < w.heap.size)) (hl : bs.length ≤ 140737488351232) :
    Calls Tryd.prog 16 #[.pointer (some ⟨h, 0, none⟩), .int .i64 n, .slice A bs.length c] w' fun e w2 => e = .returned (.int .i64 (D.write n bs).1) ∧ Own w0 w2 h (D.write n bs).2 :=
  (write_any σ (k.at_.below hb) hF ((k.gl hG).below hb) (Own.apart hG) n A bs c hz hA hl).mono fun _ _ ⟨h1, h2⟩ => ⟨h1, k.next (Dev.after hb h2 (fun _ hj => hj.2))⟩
theorem Own.sync (hG : GlD σ w0) (k : Own w0 w h D) (hF : D.Few 1000000) :
    Calls Tryd.prog 18 #[.pointer (some ⟨h, 0, none⟩)] w fun e w2 => e = .returned (.int .i64 D.sync.1) ∧ Own w0 w2 h D.sync.2 :=
  (sync_any σ k.at_ hF (k.gl hG) (Own.apart hG)).mono fun _ _ ⟨h1, h2⟩ => ⟨h1, k.next h2⟩
theorem Own.crash (hG : GlD σ w0) (k : Own w0 w h D) (hF : D.Few 1000000) :
    Calls Tryd.prog 21 #[.pointer (some ⟨h, 0, none⟩)] w fun e w2 => e = .returned (.int .i64 D.crash.1) ∧ Own w0 w2 h D.crash.2 :=
  (crash_any σ k.at_ hF (k.gl hG)).mono fun _ _ ⟨h1, h2⟩ => ⟨h1, k.next h2⟩
theorem Own.wake (k : Own w0 w h D) (hF : D.Few 1000000) (stay torn sectors : Int) :
    Calls Tryd.prog 22 #[.pointer (some ⟨h, 0, none⟩), .int .i64 stay, .int .i64 torn, .int .i64 sectors] w fun e w2 => e = .returned (.int .i64 (D.wake stay torn sectors).1) ∧ Own w0 w2 h (D.wake stay torn sectors).2 :=
  (wake_any k.at_ hF stay torn sectors).mono fun _ _ ⟨h1, h2⟩ => ⟨h1, k.next h2⟩
theorem Own.read (hG : GlD σ w0) (k : Own w0 w h D) (n : Int) :
    Calls Tryd.prog 23 #[.pointer (some ⟨h, 0, none⟩), .int .i64 n] w fun e w2 => ∃ v, e = .returned (.tuple #[v, .int .i64 (D.read n).2]) ∧ OutAt w2 w.heap.size v (D.read n).1 ∧ Below w.heap.size w w2 ∧ Own w0 w2 h D :=
  (read_any σ k.at_ (k.gl hG) n).mono fun _ _ ⟨v, h1, h2, h3⟩ => ⟨v, h1, h2, h3, k.on h3⟩
theorem Own.stored (k : Own w0 w h D) (n : Int) :
    Calls Tryd.prog 20 #[.pointer (some ⟨h, 0, none⟩), .int .i64 n] w fun e w2 => ∃ v, e = .returned v ∧ OutAt w2 w.heap.size v (D.storedI n) ∧ Below w.heap.size w w2 ∧ Own w0 w2 h D :=
  (stored_any k.at_ n).mono fun _ _ ⟨v, h1, h2, h3⟩ => ⟨v, h1, h2, h3, k.on h3⟩
theorem Own.stat (k : Own w0 w h D) :
    Calls Tryd.prog 19 #[.pointer (some ⟨h, 0, none⟩)] w fun e w2 => e = .returned D.statV ∧ Below w.heap.size w w2 ∧ Own w0 w2 h D :=
  (stat_any k.at_).mono fun _ _ ⟨h1, h2⟩ => ⟨h1, h2, k.on h2⟩
theorem Own.new (hb : Below w0.heap.size w0 w) (n : Nat) (h0 : 0 < n) (h1 : n ≤ 4096) :
    Calls Tryd.prog 9 #[.int .i64 (n : Int)] w fun e w2 => ∃ h, e = .returned (.tuple #[.pointer (some ⟨h, 0, none⟩), .int .i64 0]) ∧ Own w0 w2 h (DM.new n) :=
  (new_any n h0 h1).mono fun _ _ ⟨h, e1, e2, e3⟩ => ⟨h, e1, e2.mono (fun _ hj => ⟨Nat.le_trans hb.size hj.1, hj.2⟩) (fun _ hj => hj.2), hb.trans (e3.mono hb.size)⟩
theorem Own.few {D : DM} (h1 : D.turns ≤ 1000) (h2 : D.crashes ≤ 1000) (h3 : D.waits.length ≤ 1000) : D.Few 1000000 := ⟨by omega, by omega, by omega⟩
end
end Go.Proofs.YtgjdoiblgbdebaaDoor
