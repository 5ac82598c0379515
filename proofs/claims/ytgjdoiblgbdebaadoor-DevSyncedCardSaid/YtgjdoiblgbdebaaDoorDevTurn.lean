/- A turn: unless the disk is armed for it, a write waits, or what waits is stored. -/
import Derived.Test.YtgjdoiblgbdebaaDoorDevWait
import Derived.Test.YtgjdoiblgbdebaaDoorDevSettleS
namespace Go.Proofs.YtgjdoiblgbdebaaDoor
open Go.RowKit
section
variable {w : World} {T : Nat → Prop} {dk C : Nat} {wv : Value} {hu tu cr : Nat} {M : List MCell} {ws : List (Nat × List Int)} {left : Int} {dn : Bool}
set_option maxRecDepth 100000 in
theorem write1_any (k : DevR w T dk C wv hu tu cr M ws left dn) (n : Nat) (hn : n < M.length) (A : Option Addr) (bs : List Int) (c : Nat) (hb : BytesAt w A bs) (hl : bs.length ≤ 256) (hws : ws.length ≤ 1000000000) (bd bn bb : Nat)
    (cd : w.cell? ⟨bd, 0, none⟩ = some (.pointer (some ⟨dk, 0, none⟩))) (cn : w.cell? ⟨bn, 0, none⟩ = some (.int .i64 (n : Int))) (cb : w.cell? ⟨bb, 0, none⟩ = some (.slice A bs.length c)) :
    Calls Tryd.prog 46 #[.pointer (some ⟨bd, 0, none⟩), .pointer (some ⟨bn, 0, none⟩), .pointer (some ⟨bb, 0, none⟩)] w fun e w' => e = .returned (.tuple #[]) ∧
      ∃ wv', DevR w' (grow T w w') dk C wv' hu tu cr (lastM M n (ws.length + 1)) (ws ++ [(n, padB bs)]) left dn ∧ Chg T w w' := by
  have HW := Lib.hid (wait_any k n hn A bs c hb hl hws)
  clear k hb
  go_enter Tryd.func46, Tryd.ntmps46
  go_wp2_with fail
  refine HW.out.mono ?_
  rintro e w' ⟨rfl, hd⟩
  have HD := Lib.hid hd
  clear hd
  go_wp2_with fail
  go_end0
  exact ⟨rfl, HD.out⟩
set_option maxRecDepth 100000 in
theorem sync1_any (k : DevR w T dk C wv (mHurts M) tu cr M ws left dn) (hws : ws.length ≤ 1000000000) (bd : Nat) (cd : w.cell? ⟨bd, 0, none⟩ = some (.pointer (some ⟨dk, 0, none⟩))) :
    Calls Tryd.prog 49 #[.pointer (some ⟨bd, 0, none⟩)] w fun e w' => e = .returned (.tuple #[]) ∧
      DevR w' (grow T w w') dk C (.slice none 0 0) (mHurts (settleM M ws (fun _ => 8) ws.length)) tu cr (settleM M ws (fun _ => 8) ws.length) [] left dn ∧ Chg T w w' := by
  have HW := Lib.hid (settle_sync k hws)
  clear k
  go_enter Tryd.func49, Tryd.ntmps49
  go_wp2_with fail
  refine HW.out.mono ?_
  rintro e w' ⟨rfl, hd⟩
  have HD := Lib.hid hd
  clear hd
  go_wp2_with fail
  go_end0
  exact ⟨rfl, HD.out⟩
/-- A turn for which the disk is armed. -/
theorem turn_trips (σ : SenD) (hG : GlD σ w) (hT : ∀ b, σ.blk b → ¬ T b) (k : DevR w T dk C wv hu tu cr M ws 1 dn) (htu : tu ≤ 1000000000) (hcr : cr ≤ 1000000000) (f : Value) :
    Calls Tryd.prog 45 #[.pointer (some ⟨dk, 0, none⟩), f] w fun e w' => e = .returned ((DErr.ref ((tu : Int) + 1)).val σ) ∧ DevR w' T dk C wv hu tu (cr + 1) M ws 1 true ∧ Chg T w w' := by
  have c6 := k.cell8.2.2.2.2.2.2.1
  have HF := Lib.hid (fall_any k hcr)
  have k2 := k.falls
  have hc : Chg T w ((w.setCell ⟨dk, 7, none⟩ (.bool true)).setCell ⟨dk, 2, none⟩ (.int .i64 ((cr + 1 : Nat) : Int))) := ((Chg.refl T w).set (.inl k.self) _).set (.inl k.self) _
  have hG2 := hG.keep (w' := (w.setCell ⟨dk, 7, none⟩ (.bool true)).setCell ⟨dk, 2, none⟩ (.int .i64 ((cr + 1 : Nat) : Int))) (fun b hb => hc.block b (hG.lt hb) (hT b hb))
  have H2 := Lib.hid (And.intro k2 (And.intro hc hG2))
  clear k k2 hc hG2
  go_enter Tryd.func45, Tryd.ntmps45
  go_wp2_with fail
  refine HF.out.mono ?_
  rintro e w' ⟨rfl, hw'⟩
  rw [← hw'] at H2
  clear hw' HF c6
  have c1 := H2.out.1.cell8.2.1
  have g1 := H2.out.2.2.dn
  unfold errK at g1
  go_wp2_with fail
  go_quiet (fail)
  go_wp2_with fail
  go_ret
  exact ⟨rfl, H2.out.1.drewN _, H2.out.2.1.drewN _⟩
/-- A turn begins. -/
theorem DevR.turns (k : DevR w T dk C wv hu tu cr M ws left dn) (v : Int) : DevR ((w.setCell ⟨dk, 6, none⟩ (.int .i64 v)).setCell ⟨dk, 1, none⟩ (.int .i64 ((tu : Int) + 1))) T dk C wv hu (tu + 1) cr M ws v dn ∧ Chg T w ((w.setCell ⟨dk, 6, none⟩ (.int .i64 v)).setCell ⟨dk, 1, none⟩ (.int .i64 ((tu : Int) + 1))) :=
  ⟨k.own8 (by rw [set_size, set_size]) (fun b hb => by rw [set_other _ _ _ _ _ hb, set_other _ _ _ _ _ hb]) ((k.blk.set1 6 (.int .i64 v)).set1 1 (.int .i64 ((tu : Int) + 1))), ((Chg.refl T w).set (.inl k.self) _).set (.inl k.self) _⟩
def nextLeft (left : Int) : Int := if left = 0 then 0 else left - 1
theorem grow_step {S : Nat → Prop} {w1 w2 : World} (h1 : Chg S w w1) (hs : w1.heap.size = w.heap.size) : ∀ j, grow S w1 w2 j → grow S w w2 j := by
  have := h1.size
  rintro j (hj | hj)
  · exact .inl hj
  · exact .inr ⟨by omega, hj.2⟩
set_option maxRecDepth 100000 in
theorem turn_write (k : DevR w T dk C wv hu tu cr M ws left dn) (htu : tu ≤ 1000000000) (hl0 : 0 ≤ left) (hl1 : left ≤ 9223372036854775807) (hne : left ≠ 1) (n : Nat) (hn : n < M.length) (A : Option Addr) (bs : List Int) (c : Nat) (hb : BytesAt w A bs) (hA : bs ≠ [] → ∀ a, A = some a → ¬ T a.block) (hl : bs.length ≤ 256) (hws : ws.length ≤ 1000000000) (bd bn bb : Nat)
    (cd : w.cell? ⟨bd, 0, none⟩ = some (.pointer (some ⟨dk, 0, none⟩)) ∧ ¬ T bd) (cn : w.cell? ⟨bn, 0, none⟩ = some (.int .i64 (n : Int)) ∧ ¬ T bn) (cb : w.cell? ⟨bb, 0, none⟩ = some (.slice A bs.length c) ∧ ¬ T bb) :
    Calls Tryd.prog 45 #[.pointer (some ⟨dk, 0, none⟩), .func (.func 46) #[] #[.pointer (some ⟨bd, 0, none⟩), .pointer (some ⟨bn, 0, none⟩), .pointer (some ⟨bb, 0, none⟩)]] w fun e w' => e = .returned .nilIface ∧
      ∃ wv', DevR w' (grow T w w') dk C wv' hu (tu + 1) cr (lastM M n (ws.length + 1)) (ws ++ [(n, padB bs)]) (nextLeft left) dn ∧ Chg T w w' := by
  obtain ⟨c0, c1, c2, c3, c4, c5, c6, c7⟩ := k.cell8
  have f1 := k.blk.free 1
  have f6 := k.blk.free 6
  have Hf := Lib.hid k.foot
  have HP : ∀ v : Int, Hid (DevR ((w.setCell ⟨dk, 6, none⟩ (.int .i64 v)).setCell ⟨dk, 1, none⟩ (.int .i64 ((tu : Int) + 1))) T dk C wv hu (tu + 1) cr M ws v dn ∧ Chg T w ((w.setCell ⟨dk, 6, none⟩ (.int .i64 v)).setCell ⟨dk, 1, none⟩ (.int .i64 ((tu : Int) + 1))) ∧ ((w.setCell ⟨dk, 6, none⟩ (.int .i64 v)).setCell ⟨dk, 1, none⟩ (.int .i64 ((tu : Int) + 1))).heap.size = w.heap.size) := fun v => Lib.hid ⟨(k.turns v).1, (k.turns v).2, by rw [set_size, set_size]⟩
  have Hcell : Hid (∀ w', Chg T w w' → ∀ (b : Nat) (v : Value), w.cell? ⟨b, 0, none⟩ = some v ∧ ¬ T b → w'.cell? ⟨b, 0, none⟩ = some v) := Lib.hid fun w' hc b v ⟨h1, h2⟩ => (World.cell?_of_block (a := ⟨b, 0, none⟩) (hc.block b (World.block_lt_of_cell? w _ h1) h2)).trans h1
  have Hb : Hid (∀ w', Chg T w w' → BytesAt w' A bs) := Lib.hid fun w' hc => ⟨hb.1, fun hz => by
    obtain ⟨b, off, e, h1⟩ := hb.2 hz
    exact ⟨b, off, e, fun i hi => (World.cell?_of_block (a := ⟨b, off + i, none⟩) (hc.block b (World.block_lt_of_cell? w _ (h1 i hi)) (hA hz _ e))).trans (h1 i hi)⟩⟩
  have Hcd := Lib.hid cd
  have Hcn := Lib.hid cn
  have Hcb := Lib.hid cb
  clear c0 c2 c3 c4 c5 c7 k hb hA cd cn cb
  by_cases h0 : left = 0
  · have H1 := HP 0
    have hC := Lib.hid H1.out.2.1
    have hS := Lib.hid H1.out.2.2
    clear HP
    subst h0
    go_enter Tryd.func45, Tryd.ntmps45
    go_wp2_with fail
    refine (write1_any H1.out.1 n hn A bs c (Hb.out _ H1.out.2.1) hl hws bd bn bb (Hcell.out _ H1.out.2.1 bd _ Hcd.out) (Hcell.out _ H1.out.2.1 bn _ Hcn.out) (Hcell.out _ H1.out.2.1 bb _ Hcb.out)).mono ?_
    rintro e w' ⟨rfl, hd⟩
    have HD := Lib.hid hd
    clear hd H1
    go_wp2_with fail
    go_ret
    obtain ⟨wv', hd, hc⟩ := HD.out
    exact ⟨rfl, wv', by unfold nextLeft; rw [if_pos rfl]; exact hd.mono (grow_step hC.out hS.out) (grow_lt Hf.out (hC.out.trans (hc.mono (fun _ hj => .inl hj))).size), hC.out.trans (hc.mono (fun _ hj => .inl hj))⟩
  · have H1 := HP (left - 1)
    have hC := Lib.hid H1.out.2.1
    have hS := Lib.hid H1.out.2.2
    clear HP
    go_enter Tryd.func45, Tryd.ntmps45
    go_wp2_with fail
    refine (write1_any H1.out.1 n hn A bs c (Hb.out _ H1.out.2.1) hl hws bd bn bb (Hcell.out _ H1.out.2.1 bd _ Hcd.out) (Hcell.out _ H1.out.2.1 bn _ Hcn.out) (Hcell.out _ H1.out.2.1 bb _ Hcb.out)).mono ?_
    rintro e w' ⟨rfl, hd⟩
    have HD := Lib.hid hd
    clear hd H1
    go_wp2_with fail
    go_ret
    obtain ⟨wv', hd, hc⟩ := HD.out
    exact ⟨rfl, wv', by unfold nextLeft; rw [if_neg h0]; exact hd.mono (grow_step hC.out hS.out) (grow_lt Hf.out (hC.out.trans (hc.mono (fun _ hj => .inl hj))).size), hC.out.trans (hc.mono (fun _ hj => .inl hj))⟩
set_option maxRecDepth 100000 in
theorem turn_sync (k : DevR w T dk C wv (mHurts M) tu cr M ws left dn) (htu : tu ≤ 1000000000) (hl0 : 0 ≤ left) (hl1 : left ≤ 9223372036854775807) (hne : left ≠ 1) (hws : ws.length ≤ 1000000000) (bd : Nat) (cd : w.cell? ⟨bd, 0, none⟩ = some (.pointer (some ⟨dk, 0, none⟩)) ∧ ¬ T bd) :
    Calls Tryd.prog 45 #[.pointer (some ⟨dk, 0, none⟩), .func (.func 49) #[] #[.pointer (some ⟨bd, 0, none⟩)]] w fun e w' => e = .returned .nilIface ∧
      DevR w' (grow T w w') dk C (.slice none 0 0) (mHurts (settleM M ws (fun _ => 8) ws.length)) (tu + 1) cr (settleM M ws (fun _ => 8) ws.length) [] (nextLeft left) dn ∧ Chg T w w' := by
  obtain ⟨c0, c1, c2, c3, c4, c5, c6, c7⟩ := k.cell8
  have f1 := k.blk.free 1
  have f6 := k.blk.free 6
  have Hf := Lib.hid k.foot
  have HP : ∀ v : Int, Hid (DevR ((w.setCell ⟨dk, 6, none⟩ (.int .i64 v)).setCell ⟨dk, 1, none⟩ (.int .i64 ((tu : Int) + 1))) T dk C wv (mHurts M) (tu + 1) cr M ws v dn ∧ Chg T w ((w.setCell ⟨dk, 6, none⟩ (.int .i64 v)).setCell ⟨dk, 1, none⟩ (.int .i64 ((tu : Int) + 1))) ∧ ((w.setCell ⟨dk, 6, none⟩ (.int .i64 v)).setCell ⟨dk, 1, none⟩ (.int .i64 ((tu : Int) + 1))).heap.size = w.heap.size) := fun v => Lib.hid ⟨(k.turns v).1, (k.turns v).2, by rw [set_size, set_size]⟩
  have Hcell : Hid (∀ w', Chg T w w' → ∀ (b : Nat) (v : Value), w.cell? ⟨b, 0, none⟩ = some v ∧ ¬ T b → w'.cell? ⟨b, 0, none⟩ = some v) := Lib.hid fun w' hc b v ⟨h1, h2⟩ => (World.cell?_of_block (a := ⟨b, 0, none⟩) (hc.block b (World.block_lt_of_cell? w _ h1) h2)).trans h1
  have Hcd := Lib.hid cd
  clear c0 c2 c3 c4 c5 c7 k cd
  by_cases h0 : left = 0
  · have H1 := HP 0
    have hC := Lib.hid H1.out.2.1
    have hS := Lib.hid H1.out.2.2
    clear HP
    subst h0
    go_enter Tryd.func45, Tryd.ntmps45
    go_wp2_with fail
    refine (sync1_any H1.out.1 hws bd (Hcell.out _ H1.out.2.1 bd _ Hcd.out)).mono ?_
    rintro e w' ⟨rfl, hd⟩
    have HD := Lib.hid hd
    clear hd H1
    go_wp2_with fail
    go_ret
    obtain ⟨hd, hc⟩ := HD.out
    exact ⟨rfl, by unfold nextLeft; rw [if_pos rfl]; exact hd.mono (grow_step hC.out hS.out) (grow_lt Hf.out (hC.out.trans (hc.mono (fun _ hj => .inl hj))).size), hC.out.trans (hc.mono (fun _ hj => .inl hj))⟩
  · have H1 := HP (left - 1)
    have hC := Lib.hid H1.out.2.1
    have hS := Lib.hid H1.out.2.2
    clear HP
    go_enter Tryd.func45, Tryd.ntmps45
    go_wp2_with fail
    refine (sync1_any H1.out.1 hws bd (Hcell.out _ H1.out.2.1 bd _ Hcd.out)).mono ?_
    rintro e w' ⟨rfl, hd⟩
    have HD := Lib.hid hd
    clear hd H1
    go_wp2_with fail
    go_ret
    obtain ⟨hd, hc⟩ := HD.out
    exact ⟨rfl, by unfold nextLeft; rw [if_neg h0]; exact hd.mono (grow_step hC.out hS.out) (grow_lt Hf.out (hC.out.trans (hc.mono (fun _ hj => .inl hj))).size), hC.out.trans (hc.mono (fun _ hj => .inl hj))⟩
end
end Go.Proofs.YtgjdoiblgbdebaaDoor
