/- The document's disk: there, turn, Arm, Crash. -/
/- The document's disk: store. -/
import Derived.Test.YtgjdoiblgbdebaaDoorRef3Mem
import Derived.Test.YtgjdoiblgbdebaaDoorKitAppend
import Derived.Test.YtgjdoiblgbdebaaDoorDevStore
namespace Go.Proofs.YtgjdoiblgbdebaaDoor
open Go.RowKit
section
variable {w : World} {T : Nat → Prop} {h : Nat} {cv wv : Value} {C : List RC} {L : List RL} {ar tu cr : Int} {dn : Bool}
theorem RefR.cslice (k : RefR w T h cv wv C L ar tu cr dn) : ∃ X cap, cv = .slice X C.length cap ∧ C.length ≤ cap ∧ cap ≤ maxLen := own_slice k.cown
theorem RefR.wslice (k : RefR w T h cv wv C L ar tu cr dn) : ∃ X cap, wv = .slice X L.length cap ∧ L.length ≤ cap ∧ cap ≤ maxLen := own_slice k.wown
def thereB (C : List RC) (n : Int) : Bool := decide (0 ≤ n ∧ n < C.length)
set_option maxRecDepth 100000 in
theorem there_any (k : RefR w T h cv wv C L ar tu cr dn) (n : Int) :
    Calls Tryd.prog 63 #[.pointer (some ⟨h, 0, none⟩), .int .i64 n] w fun e w' => e = .returned (.bool (thereB C n)) ∧ w = w' := by
  obtain ⟨X, cap, hcv, h1, h2⟩ := k.cslice
  have c0 := k.cell6.1
  rw [hcv] at c0
  have Hm := Lib.hid k.many
  clear k hcv
  have hE := Lib.hid (show thereB C n = decide (0 ≤ n ∧ n < (C.length : Int)) from rfl)
  by_cases h0 : 0 ≤ n
  · by_cases h3 : n < (C.length : Int)
    · go_enter Tryd.func63, Tryd.ntmps63
      go_wp2
      go_ret
      exact ⟨ret_bool (by rw [hE.out]; exact (decide_eq_true ⟨by omega, by omega⟩).symm), rfl⟩
    · go_enter Tryd.func63, Tryd.ntmps63
      go_wp2
      go_ret
      exact ⟨ret_bool (by rw [hE.out]; first | exact (decide_eq_false (by omega)).symm | (simp only [decide_eq_decide]; omega)), rfl⟩
  · go_enter Tryd.func63, Tryd.ntmps63
    go_wp2
    go_ret
    exact ⟨ret_bool (by rw [hE.out]; exact (decide_eq_false (by omega)).symm), rfl⟩
set_option maxRecDepth 100000 in
theorem turn3_trips (k : RefR w T h cv wv C L 1 tu cr dn) (hc : 0 ≤ cr ∧ cr ≤ 1000000000) :
    Calls Tryd.prog 65 #[.pointer (some ⟨h, 0, none⟩)] w fun e w' => e = .returned (.bool false) ∧ RefR w' T h cv wv C L 0 tu (cr + 1) true ∧ Chg T w w' := by
  have k1 := k.setA 0
  have k2 := k1.setD true
  have k3 := k2.setCr (cr + 1)
  have hc3 := ((Chg.refl T w).set (b := h) (i := 2) (.inl k.self) (.int .i64 0)).set (b := h) (i := 5) (.inl k.self) (.bool true) |>.set (b := h) (i := 4) (.inl k.self) (.int .i64 (cr + 1))
  obtain ⟨c0, c1, c2, c3, c4, c5⟩ := k.cell6
  have f2 := k.blk.free 2
  have d4 := k2.cell6.2.2.2.2.1
  have d5 := k1.cell6.2.2.2.2.2
  have f5 := k1.blk.free 5
  have f4 := k2.blk.free 4
  have H3 := Lib.hid (And.intro k3 hc3)
  clear k k1 k2 k3 hc3 c0 c1 c3 c4 c5
  obtain ⟨hc0, hc1⟩ := hc
  go_enter Tryd.func65, Tryd.ntmps65
  go_wp2
  go_ret
  exact ⟨rfl, H3.out⟩
set_option maxRecDepth 100000 in
theorem turn3_done (k : RefR w T h cv wv C L ar tu cr dn) (hne : ar ≠ 1) (ha : 0 ≤ ar ∧ ar ≤ 9223372036854775807) (ht : 0 ≤ tu ∧ tu ≤ 1000000000) :
    Calls Tryd.prog 65 #[.pointer (some ⟨h, 0, none⟩)] w fun e w' => e = .returned (.bool true) ∧ RefR w' T h cv wv C L (if 0 < ar then ar - 1 else 0) (tu + 1) cr dn ∧ Chg T w w' := by
  have k1 := k.setA (if 0 < ar then ar - 1 else 0)
  have k2 := k1.setT (tu + 1)
  have hc2 := ((Chg.refl T w).set (b := h) (i := 2) (.inl k.self) (.int .i64 (if 0 < ar then ar - 1 else 0))).set (b := h) (i := 3) (.inl k.self) (.int .i64 (tu + 1))
  obtain ⟨c0, c1, c2, c3, c4, c5⟩ := k.cell6
  have f2 := k.blk.free 2
  have d3 := k1.cell6.2.2.2.1
  have f3 := k1.blk.free 3
  have H3 := Lib.hid (And.intro k2 hc2)
  obtain ⟨ha0, ha1⟩ := ha
  obtain ⟨ht0, ht1⟩ := ht
  have hq : (ar == 1) = false := by simpa using hne
  clear k k1 k2 hc2 c0 c1 c3 c4 c5
  by_cases hp : 0 < ar
  · rw [if_pos hp] at *
    go_enter Tryd.func65, Tryd.ntmps65
    go_wp2
    all_goals go_ret
    all_goals exact ⟨rfl, H3.out⟩
  · rw [if_neg hp] at *
    obtain rfl : ar = 0 := by omega
    go_enter Tryd.func65, Tryd.ntmps65
    go_wp2
    all_goals go_ret
    all_goals exact ⟨rfl, H3.out⟩
end
end Go.Proofs.YtgjdoiblgbdebaaDoor
namespace Go.Proofs.YtgjdoiblgbdebaaDoor
open Go.RowKit
theorem src_at {w : World} {g : Nat} {bs : List Int} (hb : BytesAt w (some ⟨g, 0, none⟩) bs) (m : Nat) : ∀ j v, (u8s (bs.take m))[j]? = some v → w.cell? ((⟨g, 0, none⟩ : Addr).add j) = some v := by
  intro j v hj
  unfold u8s at hj
  rw [List.getElem?_map] at hj
  cases hq : (bs.take m)[j]? with
  | none => rw [hq] at hj; cases hj
  | some z =>
    rw [hq] at hj
    obtain rfl : Value.int .u8 z = v := by simpa using hj
    have hlt := (List.getElem?_eq_some_iff.1 hq).1
    rw [List.length_take] at hlt
    rw [List.getElem?_take_of_lt (by omega)] at hq
    have h1 := hb.one j (by omega)
    rw [Addr.add_mid, h1, List.getD_eq_getElem?_getD, hq]; rfl
theorem map_set_m (C : List RC) (n : Nat) (y : RC) : (C.set n y).map RC.m = (C.map RC.m).set n y.m := by rw [List.map_set]
theorem getD_m (C : List RC) (n : Nat) (hn : n < C.length) : (C.map RC.m).getD n ([], false) = C[n].m := by
  rw [List.getD_eq_getElem?_getD, List.getElem?_map, List.getElem?_eq_getElem hn]; rfl
section
variable {w : World} {T : Nat → Prop} {h : Nat} {cv wv : Value} {C : List RC} {L : List RL} {ar tu cr : Int} {dn : Bool}
set_option maxRecDepth 100000 in
set_option maxHeartbeats 2000000 in
theorem store3_any (k : RefR w T h cv wv C L ar tu cr dn) (l : RL) (hn : l.n < C.length) (hb : l.b.ok w T) (s : Nat) (hs : s ≤ 8) :
    Calls Tryd.prog 66 #[.pointer (some ⟨h, 0, none⟩), .agg #[.int .i64 (l.n : Int), l.b.v], .int .i64 (s : Int)] w fun e w' => e = .returned (.tuple #[]) ∧
      ∃ C', RefR w' (grow T w w') h cv wv C' L ar tu cr dn ∧ Chg T w w' ∧ C'.map RC.m = (C.map RC.m).set l.n (storeS ((C.map RC.m).getD l.n ([], false)) l.b.bs s) := by
  obtain ⟨g, cap, hcv, hc1, hc2⟩ := k.cform (by omega)
  have hbn := below_new w (.cells #[.int .i64 (l.n : Int), l.b.v] 94)
  have k1 := k.below hbn
  have hB := BlockIs.made w 94 #[.int .i64 (l.n : Int), l.b.v]
  have b0 : (w.alloc (.cells #[.int .i64 (l.n : Int), l.b.v] 94)).cell? ⟨w.heap.size, 0, none⟩ = some (.int .i64 (l.n : Int)) := hB.cell 0
  have c0 := k1.cell6.1
  rw [hcv] at c0
  have cn := (k1.cat hn hcv).1
  have hcb := k1.cb C[l.n] (List.getElem_mem hn)
  have Hk := Lib.hid (And.intro k1 (And.intro hbn (And.intro hcb hB)))
  have Hcv := Lib.hid hcv
  have Hk0 := Lib.hid (k1)
  have Hbw := Lib.hid hbn
  have HB0 := Lib.hid hB
  have Hbd := Lib.hid hcb.bd
  have hM := k.many
  have hi1 : (0 : Int) ≤ (l.n : Int) := by omega
  have hi2 : (l.n : Int) < (C.length : Int) := by omega
  have Hlb := Lib.hid (hb.keep (T' := T) (hbn.block _ (k.foot _ hb.mem)) hb.mem)
  have Hf := Lib.hid k.foot
  have hcl : (256 : Int) ≤ (l.b.cap : Int) := by have := hb.cap_le; omega
  clear k k1 hbn hcb hB hcv hb
  generalize hcb' : C[l.n].b = cb at *
  have Hcb := Lib.hid hcb'
  clear hcb'
  unfold RB.v at *
  go_enter Tryd.func66, Tryd.ntmps66
  go_wp2_with fail
  generalize hw0 : (w.alloc (.cells #[.int .i64 (l.n : Int), .slice (some ⟨l.b.g, 0, none⟩) 256 l.b.cap] 94)) = w0 at *
  have hsz : w0.heap.size = w.heap.size + 1 := by rw [← hw0]; simp
  have Hw0 := Lib.hid (And.intro hw0 hsz)
  clear hw0 hsz
  have hbE := below_new w0 (.cells #[] 5)
  have e0 := cell_below b0 hbE
  have e1 := cell_below c0 hbE
  have e2 := cell_below cn hbE
  have HbE := Lib.hid hbE
  have HbB := Lib.hid (BlockIs.made w0 5 #[])
  have Hz := Lib.hid (Hk.out.2.2.1.bytes.below hbE)
  have Hzl := Lib.hid Hk.out.2.2.1.bd.1
  clear hbE
  go_region_held3 (fun w' => w'.cell? ⟨w.heap.size, 0, none⟩ = some (.int .i64 (l.n : Int)) ∧ w'.cell? ⟨h, 0, none⟩ = some (.slice (some ⟨g, 0, none⟩) C.length cap) ∧ w'.cell? ⟨g, l.n * 2, none⟩ = some (.slice (some ⟨cb.g, 0, none⟩) 256 cb.cap)) (first | exact ⟨b0, c0, cn⟩ | exact ⟨e0, e1, e2⟩ | exact ⟨m0, m1, m2⟩) ((refine step_clone8 (by rfl) _ _ (by rfl) w0.heap.size (by rfl) (by first | exact HbB.out | exact HbB.out.drew) _ cb.bs 256 _ (by rfl) Hzl.out (by decide) (by first | exact Hz.out | exact Hz.out.drewN 1) (by intro e; cases e) (by decide) ?_; intro g3 cap3 w3 ho3 hg3 hc3 hm3 hgr3; have m0 := hgr3.cell e0 (fun e => absurd (Option.some.inj (show some w.heap.size = some w0.heap.size from e)) (by have := Hw0.out.2; omega)); have m1 := hgr3.cell e1 (fun e => absurd (Option.some.inj (show some h = some w0.heap.size from e)) (by have := Hk.out.1.lt; omega)); have m2 := hgr3.cell e2 (fun e => absurd (Option.some.inj (show some g = some w0.heap.size from e)) (by have := World.block_lt_of_cell? _ _ cn; have : g < w0.heap.size := this; omega)); have Hend := Lib.hid (show (w0.alloc (.cells #[] 5)).grownBy w3 (some w0.heap.size) from (by first | exact hgr3 | exact ⟨hgr3.os, hgr3.tape, hgr3.output, hgr3.size, hgr3.block⟩)); have Hown3 := Lib.hid (And.intro ho3 (And.intro hg3 (And.intro hc3 hm3))); clear ho3 hgr3 hg3 hc3 hm3))
  have hB3 : Below w0.heap.size w0 w3 := HbE.out.grown Hend.out (by simp) (fun k e => by cases e; exact Nat.le_refl _)
  have H3 := Lib.hid (And.intro (Hk.out.1.below hB3) (And.intro hB3 (And.intro (Hlb.out.keep (T' := T) (hB3.block _ (by have := Hf.out _ Hlb.out.mem; rw [Hw0.out.2]; omega)) Hlb.out.mem) (BlockIs.below Hk.out.2.2.2 hB3 (by rw [Hw0.out.2]; omega)))))
  obtain ⟨cur, hcur, hl1, hl2, hl3, hl4⟩ := own_cur Hown3.out.1
  have Hcur := Lib.hid (And.intro hcur (And.intro hl1 (And.intro hl2 (And.intro hl3 hl4))))
  have hb1 : w3.cell? ⟨w.heap.size, 1, none⟩ = some (.slice (some ⟨l.b.g, 0, none⟩) 256 l.b.cap) := H3.out.2.2.2.cell 1
  have Hsz := Lib.hid (show w.heap.size < w0.heap.size by rw [Hw0.out.2]; omega)
  clear b0 c0 cn e0 e1 e2 m0 m1 m2 hcur hl1 hl2 hl3 hl4 hB3 Hend HbE HbB Hz Hk
  have hs0 : (0 : Int) ≤ 32 * (s : Int) := by omega
  have hs8 : 32 * (s : Int) ≤ (l.b.cap : Int) := by omega
  have htn : (32 * (s : Int)).toNat = 32 * s := by omega
  have G1 := Lib.hid (show (u8s (l.b.bs.take (32 * s))).length = Nat.min (32 * s) 256 by rw [u8s_len, List.length_take, Hlb.out.bd.1])
  have G2 := Lib.hid (show 0 + (u8s (l.b.bs.take (32 * s))).length ≤ cur.length by rw [G1.out, Hcur.out.2.1]; have := Hcur.out.2.2.1; have := (show Nat.min (32 * s) 256 ≤ 256 from Nat.min_le_right _ _); show 0 + Nat.min (32 * s) 256 ≤ _; omega)
  have G3 := Lib.hid (src_at H3.out.2.2.1.bytes (32 * s))
  have G4 := Lib.hid (u8s_one (l.b.bs.take (32 * s)))
  go_wp2_with (refine wpList_copy_splice rfl (.tmp 18) (.tmp 23) 33 33 rfl 5 Tryd.underlying33 (by kernel_rfl) (some ⟨g3, 0, none⟩) (some ⟨l.b.g, 0, none⟩) 256 cap3 (32 * s) l.b.cap rfl (by simp [Act.eval]) g3 0 cur 5 Hcur.out.1 (u8s (l.b.bs.take (32 * s))) G1.out (fun hp => ⟨rfl, ⟨l.b.g, 0, none⟩, rfl, G3.out⟩) G2.out G4.out w0.heap.size w0 H3.out.2.1 Hown3.out.2.1 ?_; intro w4 hG4 hB4)
  have ho4 := own_over (ys := l.b.bs.take (32 * s)) Hzl.out (by rw [List.length_take]; have := Hlb.out.bd.1; omega) Hcur.out.2.1 Hcur.out.2.2.1 Hcur.out.2.2.2.1 Hcur.out.2.2.2.2 hG4.out
  have hsz4 := hB4.size
  have hlt3 := (ho4.lt g3 rfl).2
  have hbk : BlkOk (storeS (cb.bs, C[l.n].hurt) l.b.bs s).1 := storeS_ok Hbd.out Hlb.out.bd hs
  have hlen : (l.b.bs.take (32 * s)).length = 32 * s := by rw [List.length_take]; have := Hlb.out.bd.1; omega
  rw [hlen] at ho4
  have H4 := Lib.hid (show RefR w4 (grow T w w4) h cv wv C L ar tu cr dn ∧ Chg T w w4 ∧ RB.ok w4 (grow T w w4) ⟨g3, cap3, (storeS (cb.bs, C[l.n].hurt) l.b.bs s).1⟩ ∧ BlockIs w4 w.heap.size 94 #[.int .i64 (l.n : Int), .slice (some ⟨l.b.g, 0, none⟩) 256 l.b.cap] from by
    have hbw : Below w.heap.size w w4 := Hbw.out.trans (hB4.mono (Nat.le_of_lt Hsz.out))
    exact ⟨(Hk0.out.below hB4).mono (fun _ hj => .inl hj) (grow_lt Hf.out hbw.size), Chg.of_below hbw, ⟨ho4, hbk, .inr ⟨by have := Hown3.out.2.1; have := Hsz.out; show w.heap.size ≤ g3; omega, hlt3⟩⟩, BlockIs.below HB0.out hB4 Hsz.out⟩)
  clear hG4 hB4 ho4 hsz4 hlt3 hbk hlen hb1 hs0 hs8 htn G1 G2 G3 G4 H3 Hcur
  have d0 := H4.out.1.cell6.1
  rw [Hcv.out] at d0
  have d1 : w4.cell? ⟨w.heap.size, 0, none⟩ = some (.int .i64 (l.n : Int)) := H4.out.2.2.2.cell 0
  have d2 := (H4.out.1.cat hn Hcv.out).1
  have d3 : w4.frozen? ⟨g, l.n * 2, none⟩ = false := by
    have := H4.out.1.cown
    rw [Hcv.out] at this
    exact this.frozenAt _
  rw [Hcb.out] at d2
  have H5 := Lib.hid (H4.out.1.setB Hcv.out hn ⟨g3, cap3, (storeS (cb.bs, C[l.n].hurt) l.b.bs s).1⟩ H4.out.2.2.1)
  have Hc5 := Lib.hid (H4.out.2.1.set (b := g) (i := l.n * 2) (.inl (Hk0.out.cm g (by rw [Hcv.out]; rfl))) (.slice (some ⟨g3, 0, none⟩) 256 cap3))
  have Hb5 := Lib.hid (show BlockIs (w4.setCell ⟨g, l.n * 2, none⟩ (.slice (some ⟨g3, 0, none⟩) 256 cap3)) w.heap.size 94 #[.int .i64 (l.n : Int), .slice (some ⟨l.b.g, 0, none⟩) 256 l.b.cap] from H4.out.2.2.2.keep (Below.heap_setCell w4 ⟨g, l.n * 2, none⟩ _ w.heap.size (fun e => by have := Hf.out g (Hk0.out.cm g (by rw [Hcv.out]; rfl)); have e : w.heap.size = g := e; omega)))
  unfold RB.v at H5
  go_region
  all_goals
    clear d0 d1 d2 d3
    have H6 := Lib.hid (show RefR (w4.setCell ⟨g, l.n * 2, none⟩ (.slice (some ⟨g3, 0, none⟩) 256 cap3)).drew _ h cv wv _ L ar tu cr dn ∧ Chg T w (w4.setCell ⟨g, l.n * 2, none⟩ (.slice (some ⟨g3, 0, none⟩) 256 cap3)).drew ∧ BlockIs (w4.setCell ⟨g, l.n * 2, none⟩ (.slice (some ⟨g3, 0, none⟩) 256 cap3)).drew w.heap.size 94 #[.int .i64 (l.n : Int), .slice (some ⟨l.b.g, 0, none⟩) 256 l.b.cap] from ⟨H5.out.1.drew, Hc5.out.drew, Hb5.out⟩)
    have hs46 : (w4.setCell ⟨g, l.n * 2, none⟩ (.slice (some ⟨g3, 0, none⟩) 256 cap3)).drew.heap.size = w4.heap.size := by show (w4.setCell _ _).heap.size = _; simp [World.setCell]
    have Hs46 := Lib.hid hs46
    clear hs46 H5 Hc5 Hb5
    generalize hW6 : (w4.setCell ⟨g, l.n * 2, none⟩ (.slice (some ⟨g3, 0, none⟩) 256 cap3)).drew = w6 at *
    have HW6 := Lib.hid hW6
    clear hW6
    by_cases h8 : s = 8
    · have h8' : (s : Int) = 8 := by omega
      have hl6 : l.n < (C.set l.n { C[l.n] with b := ⟨g3, cap3, (storeS (cb.bs, C[l.n].hurt) l.b.bs s).1⟩ }).length := by rw [List.length_set]; exact hn
      have e0 := H6.out.1.cell6.1
      have hcv6 : cv = .slice (some ⟨g, 0, none⟩) (C.set l.n { C[l.n] with b := ⟨g3, cap3, (storeS (cb.bs, C[l.n].hurt) l.b.bs s).1⟩ }).length cap := by rw [List.length_set]; exact Hcv.out
      rw [Hcv.out] at e0
      have e1 : w6.cell? ⟨w.heap.size, 0, none⟩ = some (.int .i64 (l.n : Int)) := H6.out.2.2.cell 0
      have e2 := (H6.out.1.cat hl6 hcv6).2
      simp only [List.getElem_set_self] at e2
      have e3 : w6.frozen? ⟨g, l.n * 2 + 1, none⟩ = false := by
        have := H6.out.1.cown
        rw [hcv6] at this
        exact this.frozenAt _
      have H7 := Lib.hid (H6.out.1.setH hcv6 hl6 false)
      have Hc7 := Lib.hid (H6.out.2.1.set (b := g) (i := l.n * 2 + 1) (.inl (Hk0.out.cm g (by rw [Hcv.out]; rfl))) (.bool false))
      clear hcv6
      subst h8
      clear h8'
      go_wp2_with fail
      go_region
      all_goals
        go_wp2_with fail
        go_end0
        refine ⟨rfl, _, (H7.out.1.mono (T' := grow T w (w6.setCell ⟨g, l.n * 2 + 1, none⟩ (.bool false)).drew) ?_ ?_).drew, Hc7.out.drew, ?_⟩
        · rintro j (hj | hj)
          · exact .inl hj
          · exact .inr ⟨hj.1, by show j < (w6.setCell _ _).heap.size; rw [set_size, Hs46.out]; exact hj.2⟩
        · intro j hj
          rcases hj with hj | hj
          · show j < (w6.setCell _ _).heap.size
            rw [set_size, Hs46.out]
            have := Hf.out j hj
            have := H4.out.2.1.size
            omega
          · exact hj.2
        · rw [map_set_m, map_set_m, List.set_set]; try rw [getD_m _ _ hn]
          congr 1
          simp only [RC.m, List.getElem_set_self, Hcb.out, storeS, if_true]
    · have h8' : ¬ (s : Int) = 8 := by omega
      go_wp2_with fail
      go_end0
      refine ⟨rfl, _, H6.out.1.mono (T' := grow T w w6) ?_ ?_, H6.out.2.1, ?_⟩
      · rintro j (hj | hj)
        · exact .inl hj
        · exact .inr ⟨hj.1, by rw [Hs46.out]; exact hj.2⟩
      · intro j hj
        rcases hj with hj | hj
        · have := Hf.out j hj
          have := H4.out.2.1.size
          rw [Hs46.out]; omega
        · exact hj.2
      · rw [map_set_m]; try rw [getD_m _ _ hn]
        congr 1
        simp only [RC.m, Hcb.out, storeS, if_neg h8]
end
end Go.Proofs.YtgjdoiblgbdebaaDoor
