/- A disk of a law's own, its blocks told one by one; bytes that were handed out stay. -/
/- Arm of a disk: just what the page tells. -/
/- Read of a disk: just what the page tells. -/
/- Calls on a disk of a law's own, told step by step. -/
import Derived.Test.YtpaikolnampcfaaGreatDoorDevStored
import Derived.Test.YtpaikolnampcfaaGreatDoorDevWake
import Derived.Test.YtpaikolnampcfaaGreatDoorKitInts
import Derived.Test.YtpaikolnampcfaaGreatDoorDevRot
import Derived.Test.YtpaikolnampcfaaGreatDoorDevSeenW
import Derived.BigRegion
import Derived.Test.YtpaikolnampcfaaGreatDoorMarkAwake
namespace Go.Proofs.YtpaikolnampcfaaGreatDoor
open Go.RowKit
structure OwnT (w0 w : World) (T : Nat → Prop) (h : Nat) (D : DM) : Prop where
  at_ : DevAt w T h D
  below : Below w0.heap.size w0 w
  lo : ∀ k, T k → w0.heap.size ≤ k
/-- Bytes in a block that is none of the disk's. -/
def Held (w : World) (T : Nat → Prop) (v : Value) (bs : List Int) : Prop := ∃ A, v = .slice A bs.length bs.length ∧ BytesAt w A bs ∧ ∀ a, A = some a → ¬ T a.block ∧ a.block < w.heap.size
theorem Held.step {w w2 : World} {T : Nat → Prop} {v : Value} {bs : List Int} (k : Held w T v bs) (hc : Chg T w w2) : Held w2 (grow T w w2) v bs := by
  obtain ⟨A, rfl, hb, ha⟩ := k
  refine ⟨A, rfl, hb.hold (fun a e => hc.block _ (ha a e).2 (ha a e).1), fun a e => ⟨fun ht => ?_, Nat.lt_of_lt_of_le (ha a e).2 hc.size⟩⟩
  rcases ht with ht | ht
  · exact (ha a e).1 ht
  · have := (ha a e).2; omega
theorem Held.on {w w2 : World} {T : Nat → Prop} {v : Value} {bs : List Int} (k : Held w T v bs) (hb : Below w.heap.size w w2) : Held w2 T v bs := by
  obtain ⟨A, rfl, h, ha⟩ := k
  exact ⟨A, rfl, h.hold (fun a e => hb.block _ (ha a e).2), fun a e => ⟨(ha a e).1, Nat.lt_of_lt_of_le (ha a e).2 hb.size⟩⟩
theorem OutAt.held {w w2 : World} {T : Nat → Prop} {v : Value} {bs : List Int} (h : OutAt w2 w.heap.size v bs) (hf : ∀ k, T k → k < w.heap.size) : Held w2 T v bs := by
  obtain ⟨A, rfl, hb, ha⟩ := h.bytes
  exact ⟨A, rfl, hb, fun a e => ⟨fun ht => by have := hf _ ht; have := (ha a e).1; omega, (ha a e).2⟩⟩
section
variable {σ : SenD} {w0 w w' : World} {T : Nat → Prop} {h : Nat} {D : DM}
theorem OwnT.gl (k : OwnT w0 w T h D) (hG : GlD σ w0) : GlD σ w := hG.below k.below
theorem OwnT.gs (k : OwnT w0 w T h D) (hS : GlS σ w0) : GlS σ w := hS.below k.below
theorem OwnT.apart (k : OwnT w0 w T h D) (hG : GlD σ w0) : ∀ b, σ.blk b → ¬ T b := fun b hb ht => by have := hG.lt hb; have := k.lo b ht; omega
theorem OwnT.apartS (k : OwnT w0 w T h D) (hS : GlS σ w0) : ∀ b, σ.blkS b → ¬ T b := fun b hb ht => by have := hS.lt hb; have := k.lo b ht; omega
theorem OwnT.next {w2 : World} {D' : DM} (k : OwnT w0 w T h D) (d : Dev w T h D' w2) : OwnT w0 w2 (grow T w w2) h D' :=
  ⟨d.at_, d.fr.below k.below k.lo k.below.size, fun j hj => by
    rcases hj with hj | hj
    · exact k.lo j hj
    · exact Nat.le_trans k.below.size hj.1⟩
theorem OwnT.on (k : OwnT w0 w T h D) (hb : Below w.heap.size w w') : OwnT w0 w' T h D := ⟨k.at_.below hb, k.below.trans (hb.mono k.below.size), k.lo⟩
theorem OwnT.drewN (k : OwnT w0 w T h D) (n : Nat) : OwnT w0 (w.drewN n) T h D := ⟨k.at_.drewN n, drewN_below k.below n, k.lo⟩
theorem OwnT.write (hG : GlD σ w0) (k : OwnT w0 w T h D) (hF : D.Few 1000000) (n : Int) (A : Option Addr) (bs : List Int) (c : Nat) (hz : BytesAt w A bs) (hA : bs ≠ [] → ∀ a, A = some a → ¬ T a.block) (hl : bs.length ≤ 140737488351232) :
    Calls Tryz.prog 58 #[.pointer (some ⟨h, 0, none⟩), .int .i64 n, .slice A bs.length c] w fun e w2 => e = .returned (.int .i64 (D.write n bs).1) ∧ OwnT w0 w2 (grow T w w2) h (D.write n bs).2 ∧ Chg T w w2 :=
  (write_any σ k.at_ hF (k.gl hG) (k.apart hG) n A bs c hz hA hl).mono fun _ _ ⟨h1, h2⟩ => ⟨h1, k.next h2, h2.fr⟩
theorem OwnT.sync (hG : GlD σ w0) (k : OwnT w0 w T h D) (hF : D.Few 1000000) :
    Calls Tryz.prog 60 #[.pointer (some ⟨h, 0, none⟩)] w fun e w2 => e = .returned (.int .i64 D.sync.1) ∧ OwnT w0 w2 (grow T w w2) h D.sync.2 ∧ Chg T w w2 :=
  (sync_any σ k.at_ hF (k.gl hG) (k.apart hG)).mono fun _ _ ⟨h1, h2⟩ => ⟨h1, k.next h2, h2.fr⟩
theorem OwnT.crash (hG : GlD σ w0) (k : OwnT w0 w T h D) (hF : D.Few 1000000) :
    Calls Tryz.prog 35 #[.pointer (some ⟨h, 0, none⟩)] w fun e w2 => e = .returned (.int .i64 D.crash.1) ∧ OwnT w0 w2 (grow T w w2) h D.crash.2 ∧ Chg T w w2 :=
  (crash_any σ k.at_ hF (k.gl hG)).mono fun _ _ ⟨h1, h2⟩ => ⟨h1, k.next h2, h2.fr⟩
theorem OwnT.wake (k : OwnT w0 w T h D) (hF : D.Few 1000000) (stay torn sectors : Int) :
    Calls Tryz.prog 36 #[.pointer (some ⟨h, 0, none⟩), .int .i64 stay, .int .i64 torn, .int .i64 sectors] w fun e w2 => e = .returned (.int .i64 (D.wake stay torn sectors).1) ∧ OwnT w0 w2 (grow T w w2) h (D.wake stay torn sectors).2 ∧ Chg T w w2 :=
  (wake_any k.at_ hF stay torn sectors).mono fun _ _ ⟨h1, h2⟩ => ⟨h1, k.next h2, h2.fr⟩
theorem OwnT.rot (hG : GlD σ w0) (hS : GlS σ w0) (k : OwnT w0 w T h D) (n bit : Int) (mask : Nat) (hm : mask < 4294967296) :
    Calls Tryz.prog 38 #[.pointer (some ⟨h, 0, none⟩), .int .i64 n, .int .i64 bit, .int .u32 (mask : Int)] w fun e w2 => e = .returned (.int .i64 (D.rot n bit mask).1) ∧ OwnT w0 w2 (grow T w w2) h (D.rot n bit mask).2 ∧ Chg T w w2 :=
  (rot_any σ k.at_ (k.gl hG) (k.gs hS) (k.apart hG) (k.apartS hS) n bit mask hm).mono fun _ _ ⟨h1, h2⟩ => ⟨h1, k.next h2, h2.fr⟩
theorem OwnT.wipe (hG : GlD σ w0) (hS : GlS σ w0) (k : OwnT w0 w T h D) (n : Int) :
    Calls Tryz.prog 37 #[.pointer (some ⟨h, 0, none⟩), .int .i64 n] w fun e w2 => e = .returned (.int .i64 (D.wipe n).1) ∧ OwnT w0 w2 (grow T w w2) h (D.wipe n).2 ∧ Chg T w w2 :=
  (wipe_any σ k.at_ (k.gl hG) (k.gs hS) (k.apart hG) (k.apartS hS) n).mono fun _ _ ⟨h1, h2⟩ => ⟨h1, k.next h2, h2.fr⟩
theorem OwnT.stored (k : OwnT w0 w T h D) (n : Int) :
    Calls Tryz.prog 25 #[.pointer (some ⟨h, 0, none⟩), .int .i64 n] w fun e w2 => ∃ v, e = .returned v ∧ Held w2 T v (D.storedI n) ∧ Below w.heap.size w w2 ∧ OwnT w0 w2 T h D :=
  (stored_any k.at_ n).mono fun _ _ ⟨v, h1, h2, h3⟩ => ⟨v, h1, h2.held k.at_.foot, h3, k.on h3⟩
theorem OwnT.new (hb : Below w0.heap.size w0 w) (n : Nat) (h0 : 0 < n) (h1 : n ≤ 4096) :
    Calls Tryz.prog 17 #[.int .i64 (n : Int)] w fun e w2 => ∃ h, e = .returned (.tuple #[.pointer (some ⟨h, 0, none⟩), .int .i64 0]) ∧ OwnT w0 w2 (fun k => w.heap.size ≤ k ∧ k < w2.heap.size) h (DM.new n) ∧ Below w.heap.size w w2 :=
  (new_any n h0 h1).mono fun _ _ ⟨h, e1, e2, e3⟩ => ⟨h, e1, ⟨e2, hb.trans (e3.mono hb.size), fun _ hj => Nat.le_trans hb.size hj.1⟩, e3⟩
/-- Two rows of bytes that were handed out, compared. -/
theorem Held.same {v u : Value} {xs ys : List Int} (hx : Held w T v xs) (hy : Held w T u ys) (hl : xs.length ≤ 9223372036854775807) :
    Calls Tryz.prog 24 #[v, u] w fun e w2 => e = .returned (.bool (sameB xs ys)) ∧ ∃ n, w2 = w.drewN n := by
  obtain ⟨A, rfl, h1, _⟩ := hx
  obtain ⟨B, rfl, h2, _⟩ := hy
  exact sameBytes_any xs ys A B _ _ w h1 h2 hl
end
end Go.Proofs.YtpaikolnampcfaaGreatDoor
namespace Go.Proofs.YtpaikolnampcfaaGreatDoor
open Go.RowKit
section
variable {w : World} {T : Nat → Prop} {dk : Nat} {D : DM} (σ : SenD)
theorem DevL.arms {hu tu cr : Nat} {M : List MCell} {ws : List (Nat × List Int)} {left : Int} {dn : Bool} (l : DevL D hu tu cr M ws left dn) (hd : D.down = false) (n : Int) (hn : n ≤ 9223372036854775807) : DevL (D.arm n) hu tu cr M ws (if 0 ≤ n then n else 0) dn := by
  unfold DM.arm
  rw [if_neg (by rw [hd]; decide)]
  exact ⟨l.hu, l.tu, l.cr, l.len, l.mm, l.ws, l.dn, (fun _ => by show _ = ((n.toNat : Nat) : Int); split <;> omega), by split <;> omega, l.some_⟩
theorem DevR.lefts {C : Nat} {wv : Value} {hu tu cr : Nat} {M : List MCell} {ws : List (Nat × List Int)} {left : Int} {dn : Bool} (k : DevR w T dk C wv hu tu cr M ws left dn) (v : Int) : DevR (w.setCell ⟨dk, 6, none⟩ (.int .i64 v)) T dk C wv hu tu cr M ws v dn :=
  k.own8 (set_size _ _ _) (fun _ hb => set_other _ _ _ _ _ hb) (k.blk.set1 6 (.int .i64 v))
set_option maxRecDepth 100000 in
theorem arm_any (k : DevAt w T dk D) (hG : GlD σ w) (n : Int) (hn : n ≤ 9223372036854775807) :
    Calls Tryz.prog 34 #[.pointer (some ⟨dk, 0, none⟩), .int .i64 n] w fun e w' => e = .returned (.tuple #[]) ∧ Dev w T dk (D.arm n) w' := by
  obtain ⟨C, wv, hu, tu, cr, M, ws, left, dn, R, L⟩ := k
  have HT := Lib.hid (up_any σ hG R)
  have HL := Lib.hid L
  have hdn := L.dn
  have HR := Lib.hid R
  have c6 := R.cell8.2.2.2.2.2.2.1
  have f6 := R.blk.free 6
  clear R L hG
  cases hd : D.down with
  | true =>
    have Hw : Hid (D.arm n = D) := Lib.hid (by unfold DM.arm; rw [if_pos hd])
    rw [hdn, hd] at HT
    clear hd hdn
    unfold upE DErr.val errK at *
    simp only [if_true] at HT
    go_enter Tryz.func34, Tryz.ntmps34
    go_wp2_with fail
    refine HT.out.mono ?_
    rintro e w' ⟨rfl, rfl⟩
    go_wp2_with fail
    go_end0
    rw [Hw.out]
    exact ⟨rfl, Dev.of (HR.out.mono (fun _ hj => .inl hj) (grow_lt HR.out.foot (Nat.le_refl _))) HL.out (Chg.refl _ _)⟩
  | false =>
    have HA := Lib.hid (HL.out.arms hd n hn)
    rw [hdn, hd] at HT
    clear hd hdn
    unfold upE DErr.val at HT
    simp only [Bool.false_eq_true, if_false] at HT
    have HE : ∀ v : Int, Hid (DevR (w.setCell ⟨dk, 6, none⟩ (.int .i64 v)) (grow T w (w.setCell ⟨dk, 6, none⟩ (.int .i64 v))) dk C wv hu tu cr M ws v dn ∧ Chg T w (w.setCell ⟨dk, 6, none⟩ (.int .i64 v))) := fun v =>
      Lib.hid ⟨(HR.out.lefts v).mono (fun _ hj => .inl hj) (grow_lt HR.out.foot (Nat.le_of_eq (set_size _ _ _).symm)), (Chg.refl T w).set (.inl HR.out.self) _⟩
    by_cases h0 : 0 ≤ n
    · rw [if_pos h0] at HA
      have HE := HE n
      go_enter Tryz.func34, Tryz.ntmps34
      go_wp2_with fail
      refine HT.out.mono ?_
      rintro e w' ⟨rfl, rfl⟩
      go_wp2_with fail
      go_end0
      exact ⟨rfl, Dev.of HE.out.1 HA.out HE.out.2⟩
    · rw [if_neg h0] at HA
      have HE := HE 0
      have h1 : n ≤ 0 := by omega
      go_enter Tryz.func34, Tryz.ntmps34
      go_wp2_with fail
      refine HT.out.mono ?_
      rintro e w' ⟨rfl, rfl⟩
      go_wp2_with fail
      go_end0
      exact ⟨rfl, Dev.of HE.out.1 HA.out HE.out.2⟩
end
end Go.Proofs.YtpaikolnampcfaaGreatDoor
namespace Go.Proofs.YtpaikolnampcfaaGreatDoor
open Go.RowKit
section
variable {w : World} {T : Nat → Prop} {dk : Nat} {D : DM} (σ : SenD)
theorem reachE_eq {hu tu cr : Nat} {M : List MCell} {ws : List (Nat × List Int)} {left : Int} {dn : Bool} (L : DevL D hu tu cr M ws left dn) (n : Int) : reachE dn M n = if D.down then .dn else if D.has n then .ok else .bk := by
  unfold reachE
  rw [L.hasB, L.dn]
  by_cases h : D.has n <;> simp [h]
set_option maxRecDepth 100000 in
set_option maxHeartbeats 1000000 in
theorem read_any (k : DevAt w T dk D) (hG : GlD σ w) (n : Int) :
    Calls Tryz.prog 150 #[.pointer (some ⟨dk, 0, none⟩), .int .i64 n] w fun e w' => ∃ v, e = .returned (.tuple #[v, .int .i64 (D.read n).2]) ∧ OutAt w' w.heap.size v (D.read n).1 ∧ Below w.heap.size w w' := by
  have HO := Lib.hid k.ok
  obtain ⟨C, wv, hu, tu, cr, M, ws, left, dn, R, L⟩ := k
  have HT := Lib.hid (reaches_any σ hG R n)
  rw [reachE_eq L] at HT
  have HE := Lib.hid (fun x hx => errno_any σ w hG x hx)
  have HR := Lib.hid R
  have HL := Lib.hid L
  clear R L hG
  cases hd : D.down with
  | true =>
    have Hw : Hid (D.read n = ([], 11)) := Lib.hid (by unfold DM.read; rw [if_pos hd])
    have HE := Lib.hid (HE.out .dn (by intro e; cases e))
    rw [if_pos hd] at HT
    clear hd
    unfold DErr.val errK at *
    go_enter Tryz.func150, Tryz.ntmps150
    go_wp2_with fail
    refine HT.out.mono ?_
    rintro e w' ⟨rfl, rfl⟩
    go_wp2_with fail
    refine HE.out.mono ?_
    rintro e w4 ⟨rfl, hb4⟩
    have HB4 := Lib.hid hb4
    clear hb4
    go_wp2_with fail
    go_ret2
    rw [Hw.out]
    exact ⟨_, rfl, .inl ⟨rfl, rfl⟩, HB4.out⟩
  | false =>
    by_cases hn : D.has n
    · have Hw : Hid (D.read n = (D.seen n.toNat, 0)) := Lib.hid (by unfold DM.read; rw [if_neg (by rw [hd]; decide), if_pos hn])
      rw [if_neg (by rw [hd]; decide), if_pos hn] at HT
      unfold DM.has at hn
      obtain ⟨m, rfl⟩ := Int.eq_ofNat_of_zero_le hn.1
      have hm : m < M.length := by have := HL.out.len; omega
      have hs := seenM_eq HL.out hm
      have HS := Lib.hid (seen_any HR.out m hm hs.2)
      rw [hs.1] at HS
      have HB := Lib.hid (HO.out.seen (n := m) (by omega))
      rw [Int.toNat_natCast] at Hw
      have hz := zeroBlock
      have hlen : (u8s (D.seen m)).length = 256 := by rw [u8s_len, HB.out.1]
      have hst := fun w' => store_block1 w' HB.out
      clear hd hn hs
      unfold DErr.val at HT
      go_enter Tryz.func150, Tryz.ntmps150
      go_wp2_with fail
      refine HT.out.mono ?_
      rintro e w' ⟨rfl, rfl⟩
      go_wp2_with fail
      refine HS.out.mono ?_
      rintro e w4 ⟨rfl, hb4⟩
      have HB4 := Lib.hid hb4
      clear hb4
      go_wp2_with fail
      go_ret2
      rw [Hw.out]
      have hsz := HB4.out.size
      refine ⟨_, rfl, .inr ⟨w4.heap.size, 119, ?_, hsz, BlockIs.made w4 _ _, HB.out.2⟩, HB4.out.trans ((below_new w4 _).mono hsz)⟩
      rw [HB.out.1]; rfl
    · have Hw : Hid (D.read n = ([], 2)) := Lib.hid (by unfold DM.read; rw [if_neg (by rw [hd]; decide), if_neg hn])
      have HE := Lib.hid (HE.out .bk (by intro e; cases e))
      rw [if_neg (by rw [hd]; decide), if_neg hn] at HT
      clear hd
      unfold DErr.val errK at *
      go_enter Tryz.func150, Tryz.ntmps150
      go_wp2_with fail
      refine HT.out.mono ?_
      rintro e w' ⟨rfl, rfl⟩
      go_wp2_with fail
      refine HE.out.mono ?_
      rintro e w4 ⟨rfl, hb4⟩
      have HB4 := Lib.hid hb4
      clear hb4
      go_wp2_with fail
      go_ret2
      rw [Hw.out]
      exact ⟨_, rfl, .inl ⟨rfl, rfl⟩, HB4.out⟩
end
end Go.Proofs.YtpaikolnampcfaaGreatDoor
namespace Go.Proofs.YtpaikolnampcfaaGreatDoor
open Go.RowKit
/-- What a call on a law's own disk leaves. -/
structure Stp (w0 w : World) (T : Nat → Prop) (h : Nat) (D : DM) (w' : World) : Prop where
  own : OwnT w0 w' (grow T w w') h D
  fr : Chg T w w'
section
variable {w0 w w1 w2 : World} {T : Nat → Prop} {h : Nat} {D D1 D2 : DM}
theorem OwnT.mono {T' : Nat → Prop} (k : OwnT w0 w T h D) (hT : ∀ j, T j → T' j) (hf : ∀ j, T' j → j < w.heap.size) (hl : ∀ j, T' j → w0.heap.size ≤ j) : OwnT w0 w T' h D := ⟨k.at_.mono hT hf, k.below, hl⟩
theorem OwnT.foot (k : OwnT w0 w T h D) : ∀ j, T j → j < w.heap.size := k.at_.foot
theorem Stp.below (k : OwnT w0 w T h D) (hb : Below w.heap.size w w1) : Stp w0 w T h D w1 :=
  ⟨(k.on hb).mono (fun _ hj => .inl hj) (grow_lt k.foot hb.size) (fun j hj => by
    rcases hj with hj | hj
    · exact k.lo j hj
    · exact Nat.le_trans k.below.size hj.1), Chg.of_below hb⟩
theorem Stp.refl (k : OwnT w0 w T h D) : Stp w0 w T h D w := Stp.below k (Below.refl _ _)
theorem Stp.trans (a : Stp w0 w T h D1 w1) (b : Stp w0 w1 (grow T w w1) h D2 w2) : Stp w0 w T h D2 w2 :=
  ⟨b.own.mono (grow_trans a.fr.size b.fr.size) (fun j hj => by
    rcases hj with hj | hj
    · exact b.own.foot j (.inl (.inl hj))
    · exact hj.2) (fun j hj => by
    rcases hj with hj | hj
    · exact a.own.lo j (.inl hj)
    · by_cases hw : j < w1.heap.size
      · exact a.own.lo j (.inr ⟨hj.1, hw⟩)
      · exact b.own.lo j (.inr ⟨by omega, hj.2⟩)), a.fr.trans b.fr⟩
theorem Stp.on (a : Stp w0 w T h D1 w1) (hb : Below w1.heap.size w1 w2) : Stp w0 w T h D1 w2 := a.trans (Stp.below a.own hb)
theorem Stp.after {hb : Below w.heap.size w w1} (k : OwnT w0 w T h D) (b : Stp w0 w1 T h D2 w2) : Stp w0 w T h D2 w2 :=
  ⟨b.own.mono (fun j hj => by
    rcases hj with hj | hj
    · exact .inl hj
    · exact .inr ⟨Nat.le_trans hb.size hj.1, hj.2⟩) (fun j hj => by
    rcases hj with hj | hj
    · exact b.own.foot j (.inl hj)
    · exact hj.2) (fun j hj => by
    rcases hj with hj | hj
    · exact k.lo j hj
    · exact Nat.le_trans k.below.size hj.1), (Chg.of_below hb).trans (b.fr.mono (fun _ hj => .inl hj))⟩
/-- A block that is none of the disk's stays. -/
theorem Stp.kept (a : Stp w0 w T h D1 w1) {g : Nat} (hg : g < w.heap.size) (hT : ¬ T g) : w1.heap[g]? = w.heap[g]? := a.fr.block g hg hT
theorem Stp.off (_a : Stp w0 w T h D1 w1) {g : Nat} (hg : g < w.heap.size) (hT : ¬ T g) : ¬ grow T w w1 g := by
  rintro (hh | hh)
  · exact hT hh
  · omega
end
theorem few6 {D : DM} {k : Nat} (hF : D.Few k) (hk : k ≤ 999000) : D.Few 1000000 := fewUp hF (by omega)
section
variable {δ : SenD} {w0 w : World} {T : Nat → Prop} {h : Nat} {D : DM}
theorem write_stp (hD : GlD δ w0) (k : OwnT w0 w T h D) {q : Nat} (hF : D.Few q) (hq : q ≤ 999000) (n : Int) (A : Option Addr) (bs : List Int) (c : Nat) (hz : BytesAt w A bs) (ho : ∀ a, A = some a → ¬ T a.block) (hl : bs.length ≤ 140737488351232) :
    Calls Tryz.prog 58 #[.pointer (some ⟨h, 0, none⟩), .int .i64 n, .slice A bs.length c] w fun e w2 => e = .returned (.int .i64 (D.write n bs).1) ∧ Stp w0 w T h (D.write n bs).2 w2 :=
  (OwnT.write hD k (few6 hF hq) n A bs c hz (fun _ a e => ho a e) hl).mono fun _ _ ⟨h1, h2, h3⟩ => ⟨h1, h2, h3⟩
theorem sync_stp (hD : GlD δ w0) (k : OwnT w0 w T h D) {q : Nat} (hF : D.Few q) (hq : q ≤ 999000) :
    Calls Tryz.prog 60 #[.pointer (some ⟨h, 0, none⟩)] w fun e w2 => e = .returned (.int .i64 D.sync.1) ∧ Stp w0 w T h D.sync.2 w2 :=
  (OwnT.sync hD k (few6 hF hq)).mono fun _ _ ⟨h1, h2, h3⟩ => ⟨h1, h2, h3⟩
theorem arm_stp (hD : GlD δ w0) (k : OwnT w0 w T h D) (n : Int) (hn : n ≤ 9223372036854775807) :
    Calls Tryz.prog 34 #[.pointer (some ⟨h, 0, none⟩), .int .i64 n] w fun e w2 => e = .returned (.tuple #[]) ∧ Stp w0 w T h (D.arm n) w2 :=
  (arm_any δ k.at_ (k.gl hD) n hn).mono fun _ _ ⟨h1, h2⟩ => ⟨h1, k.next h2, h2.fr⟩
theorem crash_stp (hD : GlD δ w0) (k : OwnT w0 w T h D) {q : Nat} (hF : D.Few q) (hq : q ≤ 999000) :
    Calls Tryz.prog 35 #[.pointer (some ⟨h, 0, none⟩)] w fun e w2 => e = .returned (.int .i64 D.crash.1) ∧ Stp w0 w T h D.crash.2 w2 :=
  (OwnT.crash hD k (few6 hF hq)).mono fun _ _ ⟨h1, h2, h3⟩ => ⟨h1, h2, h3⟩
theorem wake_stp (k : OwnT w0 w T h D) {q : Nat} (hF : D.Few q) (hq : q ≤ 999000) (stay torn sectors : Int) :
    Calls Tryz.prog 36 #[.pointer (some ⟨h, 0, none⟩), .int .i64 stay, .int .i64 torn, .int .i64 sectors] w fun e w2 => e = .returned (.int .i64 (D.wake stay torn sectors).1) ∧ Stp w0 w T h (D.wake stay torn sectors).2 w2 :=
  (OwnT.wake k (few6 hF hq) stay torn sectors).mono fun _ _ ⟨h1, h2, h3⟩ => ⟨h1, h2, h3⟩
theorem rot_stp (hD : GlD δ w0) (hS : GlS δ w0) (k : OwnT w0 w T h D) (n bit : Int) (mask : Nat) (hm : mask < 4294967296) :
    Calls Tryz.prog 38 #[.pointer (some ⟨h, 0, none⟩), .int .i64 n, .int .i64 bit, .int .u32 (mask : Int)] w fun e w2 => e = .returned (.int .i64 (D.rot n bit mask).1) ∧ Stp w0 w T h (D.rot n bit mask).2 w2 :=
  (OwnT.rot hD hS k n bit mask hm).mono fun _ _ ⟨h1, h2, h3⟩ => ⟨h1, h2, h3⟩
theorem wipe_stp (hD : GlD δ w0) (hS : GlS δ w0) (k : OwnT w0 w T h D) (n : Int) :
    Calls Tryz.prog 37 #[.pointer (some ⟨h, 0, none⟩), .int .i64 n] w fun e w2 => e = .returned (.int .i64 (D.wipe n).1) ∧ Stp w0 w T h (D.wipe n).2 w2 :=
  (OwnT.wipe hD hS k n).mono fun _ _ ⟨h1, h2, h3⟩ => ⟨h1, h2, h3⟩
theorem read_stp (hD : GlD δ w0) (k : OwnT w0 w T h D) (n : Int) :
    Calls Tryz.prog 150 #[.pointer (some ⟨h, 0, none⟩), .int .i64 n] w fun e w2 => ∃ v, e = .returned (.tuple #[v, .int .i64 (D.read n).2]) ∧ Held w2 T v (D.read n).1 ∧ Below w.heap.size w w2 :=
  (read_any δ k.at_ (k.gl hD) n).mono fun _ _ ⟨v, h1, h2, h3⟩ => ⟨v, h1, h2.held k.at_.foot, h3⟩
/-- Bytes that are none of the disk's stay. -/
theorem Stp.bytes {D1 : DM} {w1 : World} (a : Stp w0 w T h D1 w1) {A : Option Addr} {bs : List Int} (hz : BytesAt w A bs) (ho : ∀ x, A = some x → ¬ T x.block ∧ x.block < w.heap.size) : BytesAt w1 A bs ∧ ∀ x, A = some x → ¬ grow T w w1 x.block ∧ x.block < w1.heap.size :=
  ⟨hz.hold fun x e => a.kept (ho x e).2 (ho x e).1, fun x e => ⟨a.off (ho x e).2 (ho x e).1, Nat.lt_of_lt_of_le (ho x e).2 a.fr.size⟩⟩
theorem Stp.block {D1 : DM} {w1 : World} (a : Stp w0 w T h D1 w1) {g : Nat} {t : TypeId} {cs : Array Value} (hB : BlockIs w g t cs) (hT : ¬ T g) : BlockIs w1 g t cs ∧ ¬ grow T w w1 g := ⟨hB.keep (a.kept hB.lt hT), a.off hB.lt hT⟩
end
end Go.Proofs.YtpaikolnampcfaaGreatDoor
