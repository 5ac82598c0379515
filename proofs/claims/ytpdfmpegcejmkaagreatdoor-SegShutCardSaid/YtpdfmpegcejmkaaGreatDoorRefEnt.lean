/- The document's own writer (limpetref02), in memory: its bytes lie in one block, which grows. -/
/- The document's own writer: fields. -/
/- A writer of the page's own, of a call's own: fields that fit are put, one behind the other. -/
/- Is an entry right, by the page. -/
import Derived.Test.YtpdfmpegcejmkaaGreatDoorCodeAdd
import Derived.Test.YtpdfmpegcejmkaaGreatDoorKitInts
import Derived.Laws.AppendOwnNone
namespace Go.Proofs.YtpdfmpegcejmkaaGreatDoor
open Go.RowKit
/-- The writer's two cells, and its bytes' block. -/
structure RefC (w : World) (T : Nat → Prop) (h : Nat) (bv : Value) (bs : List Int) (sp : Bool) : Prop where
  foot : ∀ k, T k → k < w.heap.size
  self : T h
  blk : BlockIs w h 79 #[bv, .bool sp]
  own : w.ownsRow 0 5 1 bv bs.length (u8s bs)
  off : bv.ownBlock ≠ some h
  mem : ∀ b, bv.ownBlock = some b → T b
  bd : ∀ z ∈ bs, 0 ≤ z ∧ z < 256
section
variable {w w' w2 : World} {T : Nat → Prop} {h : Nat} {bv v' : Value} {bs ys : List Int} {sp : Bool}
theorem RefC.lt (k : RefC w T h bv bs sp) : h < w.heap.size := k.foot h k.self
theorem RefC.kept {row : Option Nat} (k : RefC w T h bv bs sp) (hg : w.grownBy w' row) (hr : ∀ b, row = some b → ¬ T b) : RefC w' T h bv bs sp := by
  refine ⟨fun j hj => Nat.lt_of_lt_of_le (k.foot j hj) hg.size, k.self, k.blk.kept hg (fun e => hr h e.symm k.self), k.own.kept hg ?_, k.off, k.mem, k.bd⟩
  cases hb : bv.ownBlock with
  | none => exact .inl rfl
  | some b => exact .inr (fun e => hr b e.symm (k.mem b hb))
theorem RefC.below (k : RefC w T h bv bs sp) (hb : Below w.heap.size w w') : RefC w' T h bv bs sp := k.kept (grown_below hb none) (fun b e => by cases e)
theorem RefC.drewN (k : RefC w T h bv bs sp) (n : Nat) : RefC (w.drewN n) T h bv bs sp := ⟨k.foot, k.self, k.blk, k.own, k.off, k.mem, k.bd⟩
theorem RefC.mono (k : RefC w T h bv bs sp) {T' : Nat → Prop} (hT : ∀ j, T j → T' j) (hf : ∀ j, T' j → j < w.heap.size) : RefC w T' h bv bs sp := ⟨hf, hT h k.self, k.blk, k.own, k.off, fun b hb => hT b (k.mem b hb), k.bd⟩
/-- What is appended to its bytes is stored. -/
theorem RefC.app {w1 : World} (k : RefC w T h bv bs sp) (hb : Below w.heap.size w w1) (hy : ∀ z ∈ ys, 0 ≤ z ∧ z < 256) {n : Nat} (hn : n = bs.length + ys.length) {xs : List Value} (hx : xs = u8s (bs ++ ys)) (ho : w2.ownsRow 0 5 1 v' n xs) (hg : w1.grownBy w2 bv.ownBlock) (hl : v'.ownBlock = bv.ownBlock ∨ ∃ b, v'.ownBlock = some b ∧ w1.heap.size ≤ b) :
    RefC (w2.setCell ⟨h, 0, none⟩ v') (grow T w (w2.setCell ⟨h, 0, none⟩ v')) h v' (bs ++ ys) sp ∧ Chg T w (w2.setCell ⟨h, 0, none⟩ v') := by
  subst hn hx
  have hsz1 := hb.size
  have hsz2 := hg.size
  have hset := grown_at (World.grownBy.refl w2 (some h)) 0 v'
  have hoff : v'.ownBlock ≠ some h := by
    rcases hl with e | ⟨b, e, hb'⟩
    · rw [e]; exact k.off
    · rw [e]; intro e'; injection e' with e'; have := k.lt; omega
  have hblk : BlockIs w2 h 79 #[bv, .bool sp] := (k.blk.below hb k.lt).kept hg (fun e => k.off e.symm)
  have hsz3 : (w2.setCell ⟨h, 0, none⟩ v').heap.size = w2.heap.size := by simp [World.setCell]
  have ho2 := ho.kept hset (show v'.ownBlock = none ∨ v'.ownBlock ≠ some h from .inr hoff)
  have hm : ∀ b, v'.ownBlock = some b → grow T w (w2.setCell ⟨h, 0, none⟩ v') b := by
    intro b hb'
    have h1 := (ho2.lt b hb').2
    rcases hl with e | ⟨b2, e, h3⟩
    · exact .inl (k.mem b (e ▸ hb'))
    · rw [hb'] at e; injection e with e
      exact .inr ⟨by omega, h1⟩
  refine ⟨⟨?_, .inl k.self, hblk.set1 0 v', own_same ho2 (by rw [List.length_append]) rfl, hoff, hm, ?_⟩, ?_⟩
  · rintro j (hj | hj)
    · have := k.foot j hj; omega
    · exact hj.2
  · intro z hz
    rcases List.mem_append.1 hz with hz | hz
    · exact k.bd z hz
    · exact hy z hz
  · refine ⟨hg.os.trans hb.os, hg.tape.trans hb.tape, hg.output.trans hb.output, by omega, fun j hj hT => ?_⟩
    refine (Below.heap_setCell w2 ⟨h, 0, none⟩ v' j (fun e => hT (e ▸ k.self))).trans ((hg.block j (by omega) (fun e => hT (k.mem j e.symm))).trans (hb.block j hj))
/-- It is spoilt. -/
theorem RefC.spoil (k : RefC w T h bv bs sp) : RefC (w.setCell ⟨h, 1, none⟩ (.bool true)) (grow T w (w.setCell ⟨h, 1, none⟩ (.bool true))) h bv bs true ∧ Chg T w (w.setCell ⟨h, 1, none⟩ (.bool true)) := by
  have hset := grown_at (World.grownBy.refl w (some h)) 1 (.bool true)
  have hsz3 : (w.setCell ⟨h, 1, none⟩ (.bool true)).heap.size = w.heap.size := by simp [World.setCell]
  refine ⟨⟨?_, .inl k.self, k.blk.set1 1 _, k.own.kept hset (.inr k.off), k.off, fun b hb => .inl (k.mem b hb), k.bd⟩, Chg.of_grown hset (fun b e => by cases e; exact k.self)⟩
  rintro j (hj | hj)
  · have := k.foot j hj; omega
  · exact hj.2
theorem RefC.grow_same (k : RefC w T h bv bs sp) : RefC w (grow T w w) h bv bs sp := k.mono (fun j hj => .inl hj) (by
  rintro j (hj | hj)
  · exact k.foot j hj
  · exact hj.2)
end
/-- The document's writer has these bytes, or is spoilt; it has at most so many. -/
def RefAt (w : World) (T : Nat → Prop) (h : Nat) (s : Option (List Int)) (m : Nat) : Prop := ∃ bv bs sp, RefC w T h bv bs sp ∧ bs.length ≤ m ∧ s = if sp then none else some bs
theorem RefAt.kept {w w' : World} {T : Nat → Prop} {h m : Nat} {s : Option (List Int)} {row : Option Nat} (k : RefAt w T h s m) (hg : w.grownBy w' row) (hr : ∀ b, row = some b → ¬ T b) : RefAt w' T h s m := by
  obtain ⟨bv, bs, sp, k, hm, hs⟩ := k; exact ⟨bv, bs, sp, k.kept hg hr, hm, hs⟩
theorem RefAt.below {w w' : World} {T : Nat → Prop} {h m : Nat} {s : Option (List Int)} (k : RefAt w T h s m) (hb : Below w.heap.size w w') : RefAt w' T h s m := k.kept (grown_below hb none) (fun b e => by cases e)
theorem RefAt.foot {w : World} {T : Nat → Prop} {h m : Nat} {s : Option (List Int)} (k : RefAt w T h s m) : ∀ j, T j → j < w.heap.size := by
  obtain ⟨bv, bs, sp, k, hm, hs⟩ := k; exact k.foot
theorem RefAt.self {w : World} {T : Nat → Prop} {h m : Nat} {s : Option (List Int)} (k : RefAt w T h s m) : T h := by
  obtain ⟨bv, bs, sp, k, hm, hs⟩ := k; exact k.self
theorem RefAt.lt {w : World} {T : Nat → Prop} {h m : Nat} {s : Option (List Int)} (k : RefAt w T h s m) : h < w.heap.size := k.foot h k.self
/-- What a call leaves that puts something. -/
structure RPut (w : World) (T : Nat → Prop) (h : Nat) (s : Option (List Int)) (m : Nat) (w' : World) : Prop where
  rf : RefAt w' (grow T w w') h s m
  fr : Chg T w w'
theorem RPut.trans {w w1 w2 : World} {T : Nat → Prop} {h m1 m2 : Nat} {s1 s2 : Option (List Int)} (a : RPut w T h s1 m1 w1) (b : RPut w1 (grow T w w1) h s2 m2 w2) (hf : ∀ k, T k → k < w.heap.size) : RPut w T h s2 m2 w2 := by
  obtain ⟨bv, bs, sp, k, hm, hs⟩ := b.rf
  refine ⟨⟨bv, bs, sp, k.mono (grow_trans a.fr.size b.fr.size) ?_, hm, hs⟩, a.fr.trans b.fr⟩
  have := a.fr.size
  have := b.fr.size
  rintro j (hj | hj)
  · have := hf j hj; omega
  · exact hj.2
theorem RPut.after {w w1 w2 : World} {T : Nat → Prop} {h m : Nat} {s : Option (List Int)} (hb : Below w.heap.size w w1) (b : RPut w1 T h s m w2) (hf : ∀ k, T k → k < w.heap.size) : RPut w T h s m w2 := by
  obtain ⟨bv, bs, sp, k, hm, hs⟩ := b.rf
  have := hb.size
  have := b.fr.size
  refine ⟨⟨bv, bs, sp, k.mono ?_ ?_, hm, hs⟩, ⟨b.fr.os.trans hb.os, b.fr.tape.trans hb.tape, b.fr.output.trans hb.output, by omega, fun j hj hT => (b.fr.block j (by omega) hT).trans (hb.block j hj)⟩⟩
  · rintro j (hj | hj)
    · exact .inl hj
    · exact .inr ⟨by omega, hj.2⟩
  · rintro j (hj | hj)
    · have := hf j hj; omega
    · exact hj.2
theorem RPut.same {w : World} {T : Nat → Prop} {h m : Nat} {s : Option (List Int)} (k : RefAt w T h s m) : RPut w T h s m w := by
  obtain ⟨bv, bs, sp, k, hm, hs⟩ := k; exact ⟨⟨bv, bs, sp, k.grow_same, hm, hs⟩, Chg.refl _ _⟩
theorem RefAt.more {w : World} {T : Nat → Prop} {h m m' : Nat} {s : Option (List Int)} (k : RefAt w T h s m) (hm : m ≤ m') : RefAt w T h s m' := by
  obtain ⟨bv, bs, sp, k, h1, hs⟩ := k; exact ⟨bv, bs, sp, k, Nat.le_trans h1 hm, hs⟩
theorem RPut.more {w w' : World} {T : Nat → Prop} {h m m' : Nat} {s : Option (List Int)} (k : RPut w T h s m w') (hm : m ≤ m') : RPut w T h s m' w' := ⟨k.rf.more hm, k.fr⟩
end Go.Proofs.YtpdfmpegcejmkaaGreatDoor
namespace Go.Proofs.YtpdfmpegcejmkaaGreatDoor
open Go.RowKit
set_option maxRecDepth 100000 in
theorem rtop_any (n : Int) (w : World) :
    Calls Tryz.prog 80 #[.int .i64 n] w fun e w' => e = .returned (.int .i64 (top n)) ∧ w = w' := by
  rcases top_cases n with ⟨rfl, h⟩ | ⟨rfl, h⟩ | ⟨rfl, h⟩ | ⟨rfl, h⟩ | ⟨h1, h2, h4, h6, h⟩
  all_goals have H := Lib.hid h; clear h
  · go_enter Tryz.func80, Tryz.ntmps80
    go_wp2
    go_ret
    exact ⟨ret_int H.out.symm, rfl⟩
  · go_enter Tryz.func80, Tryz.ntmps80
    go_wp2
    go_ret
    exact ⟨ret_int H.out.symm, rfl⟩
  · go_enter Tryz.func80, Tryz.ntmps80
    go_wp2
    go_ret
    exact ⟨ret_int H.out.symm, rfl⟩
  · go_enter Tryz.func80, Tryz.ntmps80
    go_wp2
    go_ret
    exact ⟨ret_int H.out.symm, rfl⟩
  · go_enter Tryz.func80, Tryz.ntmps80
    go_wp2
    go_ret
    exact ⟨ret_int H.out.symm, rfl⟩
theorem ret_none {P : Program} {fn : Func} {R : Ending → World → Prop} {a : Act} {w : World} (h : fn.results = #[]) (hd : a.defers = []) (hR : R (.returned (.tuple #[])) w) : bodyPost P fn R .ret a w :=
  bodyPost_ret (results_none h _ _ _) hd hR
theorem ref_cells {w : World} {h : Nat} {bv : Value} {sp : Bool} (k : BlockIs w h 79 #[bv, .bool sp]) : w.cell? ⟨h, 0, none⟩ = some bv ∧ w.cell? ⟨h, 1, none⟩ = some (.bool sp) ∧ w.frozen? ⟨h, 0, none⟩ = false ∧ w.frozen? ⟨h, 1, none⟩ = false := ⟨k.cell 0, k.cell 1, k.free 0, k.free 1⟩
theorem le_snoc_rest (k : Nat) (n : Int) : le (k + 1) n = n % 256 :: le k (n / 256) := rfl
theorem top_small (n : Int) : top n ≤ 1099511627776 := by rcases top_cases n with ⟨_, h⟩ | ⟨_, h⟩ | ⟨_, h⟩ | ⟨_, h⟩ | ⟨_, _, _, _, h⟩ <;> omega
theorem top_width {n : Int} (h : 0 ≤ top n) : 1 ≤ n ∧ n ≤ 6 := by rcases top_cases n with ⟨_, h⟩ | ⟨_, h⟩ | ⟨_, h⟩ | ⟨_, h⟩ | ⟨_, _, _, _, h⟩ <;> omega
set_option maxRecDepth 100000 in
set_option maxHeartbeats 2000000 in
theorem refField_any (w : World) (T : Nat → Prop) (h : Nat) (s : Option (List Int)) (m : Nat) (k : RefAt w T h s m) (wd n : Int) (hm : m ≤ 1000000000) (hn : -9223372036854775808 ≤ n ∧ n ≤ 9223372036854775807) :
    Calls Tryz.prog 44 #[.pointer (some ⟨h, 0, none⟩), .int .i64 wd, .int .i64 n] w fun e w' => e = .returned (.tuple #[]) ∧ RPut w T h (putO s (fieldsB wd [n])) (m + 6) w' := by
  obtain ⟨bv, bs, sp, k, hbm, hs⟩ := k
  obtain ⟨c0, c1, f0, f1⟩ := ref_cells k.blk
  have hts := top_small wd
  by_cases hin : 0 ≤ n ∧ n ≤ top wd
  · obtain ⟨h0, h1⟩ := hin
    have htw := top_width (n := wd) (by omega)
    obtain ⟨kw, hkw⟩ := Int.eq_ofNat_of_zero_le (show 0 ≤ wd by omega)
    have hfb : fieldsB wd [n] = some (le kw n) := by rw [fieldsB_one wd n (by omega) h0 h1, hkw]; rfl
    have htop : n ≤ top wd := h1
    obtain ⟨tp, htp⟩ : ∃ tp, top wd = tp := ⟨_, rfl⟩
    have Htop := Lib.hid htp
    have HT := Lib.hid (rtop_any wd w)
    have Hfb := Lib.hid hfb
    rw [htp] at HT hts h1 htop
    rw [hkw] at HT
    have Hkw := Lib.hid hkw
    have hkw6 : kw ≤ 6 := by omega
    have HK := Lib.hid k
    obtain ⟨w0, hw0⟩ : ∃ w0, w = w0 := ⟨_, rfl⟩
    have Hs := Lib.hid hs
    obtain ⟨i0, hi, hz0, hz1, hz2⟩ := info_parts infoByte
    rw [hkw]
    clear htp hfb htw k c1 f1 hs hw0 hkw
    go_enter Tryz.func44, Tryz.ntmps44
    go_wp2_with fail
    refine HT.out.mono ?_
    rintro e w' ⟨rfl, rfl⟩
    go_wp2_with fail
    go_loopg [2, 6] kw (fun g x i wx => ∃ (j : Nat) (y : Int) (pre : List Int) (v : Value), g = kw - j ∧ j ≤ kw ∧ i = .int .i64 (j : Int) ∧ x = .int .i64 y ∧ 0 ≤ y ∧ y ≤ 1099511627776 ∧ Hid (pre ++ le (kw - j) y = le kw n) ∧ Hid (pre.length = j) ∧ Hid (RefC wx (grow T w wx) h v (bs ++ pre) sp) ∧ Hid (Chg T w wx))
    case atStart => exact ⟨0, n, [], bv, rfl, by omega, rfl, rfl, h0, by omega, Lib.hid rfl, Lib.hid rfl, Lib.hid (by rw [List.append_nil]; exact HK.out.grow_same), Lib.hid (Chg.refl _ _)⟩
    case round =>
      clear c0 f0
      obtain ⟨j, y, pre, v, hgj, hj, rfl, rfl, y0, y1, hpre, hpl, hk, hch⟩ := hrel
      have Hgj := Lib.hid hgj; clear hgj
      obtain ⟨c0, c1, f0, f1⟩ := ref_cells hk.out.blk
      by_cases hlt : j < kw
      · obtain ⟨X, cap, rfl, _, hcm⟩ := own_slice hk.out.own
        unfold maxLen at hcm
        have hbl : (bs ++ pre).length = bs.length + j := by rw [List.length_append, hpl.out]
        obtain ⟨r, hr⟩ : ∃ r, kw - j = r + 1 := ⟨kw - j - 1, by omega⟩
        have hle : le (kw - j) y = y % 256 :: le r (y / 256) := by rw [hr]; rfl
        have hk2 : RefC wr (grow T w wr) h (.slice X (bs.length + j) cap) (bs ++ pre) sp := by have := hk.out; rwa [hbl] at this
        have hwr := own_same (m := bs.length + j) hk2.own hbl rfl
        have Hle := Lib.hid (And.intro hle (And.intro hr (And.intro hwr hk2)))
        clear hle hr hwr hk2
        rw [hbl] at c0
        have Hbl := Lib.hid hbl
        clear hbl
        have hy8 : 0 ≤ y % 256 ∧ y % 256 < 256 := by omega
        go_wp2_with (at_builtin; go_loud (refine wpList_append_own_at _ rfl _ _ 27 rfl 0 5 i0 (.int .u8 0) 1 1 Tryz.underlying27 hi hz0 hz1 hz2 rfl (by decide) _ _ _ rfl (Hle.out.2.2.1.alloc _) ⟨wr.heap.size, 0, none⟩ 1 1 [.int .u8 (y % 256)] rfl rfl (cell_one_new _ _ _) ?c3 ?c4 ?c5 ?c6 ?_))
        case c3 => intro u hu; rw [List.mem_singleton.1 hu]; rfl
        case c4 => unfold maxLen; omega
        case c5 => omega
        case c6 => exact Nat.zero_le _
        intro v2 w2 hown2 hgrow2 _ hlies
        obtain ⟨hC, hX⟩ := Hle.out.2.2.2.app (ys := [y % 256]) (below_new wr (.cells #[.int .u8 (y % 256)] 5)) (by simpa using hy8) (by rw [Hbl.out]; rfl) (by rw [u8s_snoc]) hown2 hgrow2 (by
          rcases hlies with e | e
          · exact .inl e
          · exact .inr ⟨_, e, by simp⟩)
        have hblk2 : BlockIs w2 h 79 #[.slice X (bs.length + j) cap, .bool sp] := (Hle.out.2.2.2.blk.below (below_new wr (.cells #[.int .u8 (y % 256)] 5)) Hle.out.2.2.2.lt).kept hgrow2 (fun e => Hle.out.2.2.2.off e.symm)
        obtain ⟨d0, d1, e0, e1⟩ := ref_cells hblk2
        obtain ⟨Y, yc, rfl, _, _⟩ := own_slice hown2
        have HS := Lib.hid (And.intro hC hX)
        clear hC hX hblk2 hown2 hgrow2 hlies c0 c1 f0 f1
        go_wp2_with fail
        go_roundg (kw - (j + 1))
        case measure => rw [Hgj.out]; omega
        case rel =>
          refine ⟨j + 1, y / 256, pre ++ [y % 256], .slice Y (bs.length + j + 1) yc, rfl, by omega, by go_num, rfl, by omega, by omega, Lib.hid ?_, Lib.hid ?_, Lib.hid ?_, Lib.hid ?_⟩
          · rw [List.append_assoc, ← hpre.out, Hle.out.1, show kw - (j + 1) = r by have := Hle.out.2.1; omega]; rfl
          · rw [List.length_append, hpl.out]; rfl
          · rw [← List.append_assoc]; exact HS.out.1.mono (grow_trans hch.out.size HS.out.2.size) (by
              rintro q (hq | hq)
              · have := HK.out.foot q hq; have := hch.out.size; have := HS.out.2.size; omega
              · exact hq.2)
          · exact hch.out.trans HS.out.2
      · obtain rfl : kw = j := by omega
        clear c1 f1
        go_wp2_with fail
        go_end0
        refine ⟨rfl, ⟨v, bs ++ pre, sp, hk.out, by rw [List.length_append, hpl.out]; omega, ?_⟩, hch.out⟩
        have hp := hpre.out
        rw [Nat.sub_self] at hp
        have hp2 : pre = le kw n := by simpa [le] using hp
        rw [← Hkw.out, Hfb.out, Hs.out, hp2]
        cases sp <;> rfl
  · have hbad : fieldsB wd [n] = none := by
      by_cases ht : top wd < 0
      · exact fieldsB_bad _ _ ht
      · exact fieldsB_out wd [n] n List.mem_cons_self (by omega)
    have Hbad := Lib.hid (show putO s (fieldsB wd [n]) = none by rw [hbad, putO_none])
    have HT := Lib.hid (rtop_any wd w)
    have HS := Lib.hid (And.intro k.spoil hbm)
    clear hbad k hs c0 f0
    by_cases h0 : n < 0
    · clear hin
      go_enter Tryz.func44, Tryz.ntmps44
      go_wp2_with fail
      refine ret_none rfl rfl ?_
      exact ⟨rfl, ⟨bv, bs, true, HS.out.1.1, by have := HS.out.2; omega, by rw [Hbad.out]; rfl⟩, HS.out.1.2⟩
    · have hgt : n > top wd := by omega
      have hn0 : decide (n < 0) = false := decide_eq_false h0
      clear hin
      go_enter Tryz.func44, Tryz.ntmps44
      go_wp2_with fail
      refine HT.out.mono ?_
      rintro e w' ⟨rfl, rfl⟩
      go_wp2_with fail
      refine ret_none rfl rfl ?_
      exact ⟨rfl, ⟨bv, bs, true, HS.out.1.1, by have := HS.out.2; omega, by rw [Hbad.out]; rfl⟩, HS.out.1.2⟩
end Go.Proofs.YtpdfmpegcejmkaaGreatDoor
namespace Go.Proofs.YtpdfmpegcejmkaaGreatDoor
open Go.RowKit
/-- A writer that was just begun. -/
theorem refAt_new (w : World) : RefAt (w.alloc (.cells #[.slice none 0 0, .bool false] 79)) (fun k => k = w.heap.size) w.heap.size (some []) 0 := by
  have hB := BlockIs.made w 79 #[.slice none 0 0, .bool false]
  refine ⟨.slice none 0 0, [], false, ⟨fun k hk => by subst hk; exact hB.lt, rfl, hB, World.ownsRow_nil _ _ _ _, fun e => by simp [Value.ownBlock] at e, fun b e => by simp [Value.ownBlock] at e, fun z hz => by cases hz⟩, Nat.le_refl _, rfl⟩
/-- A writer's bytes, where they lie. -/
theorem RefAt.bytes {w : World} {T : Nat → Prop} {h m : Nat} {bs : List Int} (k : RefAt w T h (some bs) m) : ∃ X cap, w.cell? ⟨h, 0, none⟩ = some (.slice X bs.length cap) ∧ BytesAt w X bs := by
  obtain ⟨bv, bs', sp, k, _, hs⟩ := k
  cases sp with
  | true => simp at hs
  | false =>
    obtain rfl : bs = bs' := by simpa using hs
    obtain ⟨X, cap, rfl, _, _⟩ := own_slice k.own
    exact ⟨X, cap, k.blk.cell 0, own_reads k.own k.bd⟩
/-- A field that fits is put. -/
theorem refField_fits (w : World) (T : Nat → Prop) (h m : Nat) (bs : List Int) (k : RefAt w T h (some bs) m) (wd n : Int) (hm : m ≤ 1000000000) (ht : 0 ≤ top wd) (h0 : 0 ≤ n) (h1 : n ≤ top wd) :
    Calls Tryz.prog 44 #[.pointer (some ⟨h, 0, none⟩), .int .i64 wd, .int .i64 n] w fun e w' => e = .returned (.tuple #[]) ∧ RPut w T h (some (bs ++ le wd.toNat n)) (m + 6) w' := by
  have hn : -9223372036854775808 ≤ n ∧ n ≤ 9223372036854775807 := by
    rcases top_cases wd with ⟨_, t⟩ | ⟨_, t⟩ | ⟨_, t⟩ | ⟨_, t⟩ | ⟨_, _, _, _, t⟩ <;> omega
  have := refField_any w T h (some bs) m k wd n hm hn
  rw [fieldsB_one wd n ht h0 h1] at this
  exact this
/-- A writer of a call's own: what it puts turns nothing below lo. -/
def RefN (lo : Nat) (w : World) (h : Nat) (bs : List Int) : Prop := ∃ T m, RefAt w T h (some bs) m ∧ m ≤ 6 * bs.length ∧ ∀ k, T k → lo ≤ k
theorem RefN.new (w : World) : RefN w.heap.size (w.alloc (.cells #[.slice none 0 0, .bool false] 79)) w.heap.size [] :=
  ⟨_, 0, refAt_new w, Nat.zero_le _, fun k hk => by subst hk; exact Nat.le_refl _⟩
theorem RefN.on {lo : Nat} {w w2 : World} {h : Nat} {bs : List Int} (k : RefN lo w h bs) (hb : Below w.heap.size w w2) : RefN lo w2 h bs := by
  obtain ⟨T, m, k1, k2, k3⟩ := k
  exact ⟨T, m, k1.below hb, k2, k3⟩
theorem RefN.bytes {lo : Nat} {w : World} {h : Nat} {bs : List Int} (k : RefN lo w h bs) : ∃ X cap, w.cell? ⟨h, 0, none⟩ = some (.slice X bs.length cap) ∧ BytesAt w X bs := by
  obtain ⟨T, m, k1, _, _⟩ := k
  exact k1.bytes
theorem RefN.low {lo : Nat} {w : World} {h : Nat} {bs : List Int} (k : RefN lo w h bs) : lo ≤ w.heap.size := by
  obtain ⟨T, m, k1, _, k3⟩ := k
  have := k3 h k1.self
  have := k1.lt
  omega
theorem RefN.put {lo : Nat} {w : World} {h : Nat} {bs : List Int} (k : RefN lo w h bs) (wd n : Int) (ht : 0 ≤ top wd) (h0 : 0 ≤ n) (h1 : n ≤ top wd) (hl : bs.length ≤ 1000) (hw : 1 ≤ wd.toNat) :
    Calls Tryz.prog 44 #[.pointer (some ⟨h, 0, none⟩), .int .i64 wd, .int .i64 n] w fun e w2 => e = .returned (.tuple #[]) ∧ RefN lo w2 h (bs ++ le wd.toNat n) ∧ Below lo w w2 := by
  have hlo := k.low
  obtain ⟨T, m, k1, k2, k3⟩ := k
  refine (refField_fits w T h m bs k1 wd n (by omega) ht h0 h1).mono ?_
  rintro e w2 ⟨rfl, hP⟩
  refine ⟨rfl, ⟨grow T w w2, m + 6, hP.rf, ?_, ?_⟩, hP.fr.below (Below.refl _ _) k3 hlo⟩
  · rw [List.length_append, le_len]; omega
  · rintro j (hj | hj)
    · exact k3 j hj
    · omega
theorem RefN.bytes2 {lo : Nat} {w : World} {h : Nat} {bs : List Int} (k : RefN lo w h bs) : ∃ X cap, w.cell? ⟨h, 0, none⟩ = some (.slice X bs.length cap) ∧ BytesAt w X bs ∧ bs.length ≤ cap ∧ cap ≤ 9223372036854775807 := by
  obtain ⟨T, m, ⟨bv, bs', sp, k1, _, hs⟩, _, _⟩ := k
  cases sp with
  | true => simp at hs
  | false =>
    obtain rfl : bs = bs' := by simpa using hs
    obtain ⟨X, cap, rfl, h1, h2⟩ := own_slice k1.own
    exact ⟨X, cap, k1.blk.cell 0, own_reads k1.own k1.bd, h1, by unfold maxLen at h2; omega⟩
end Go.Proofs.YtpdfmpegcejmkaaGreatDoor
namespace Go.Proofs.YtpdfmpegcejmkaaGreatDoor
open Go.RowKit
set_option maxRecDepth 100000 in
theorem refRight_any (w : World) (e : Ent) (A : Option Addr) (c : Nat) (hl : e.body.length ≤ 9223372036854775807) :
    Calls Tryz.prog 91 #[.agg #[.int .i64 e.index, .int .i64 e.term, .int .i64 e.kind, .slice A e.body.length c]] w fun r w' => r = .returned (.bool (rightB e)) ∧ Below w.heap.size w w' := by
  obtain ⟨x, t, k, body⟩ := e
  simp only at hl ⊢
  have hn := below_new w (.cells #[.int .i64 x, .int .i64 t, .int .i64 k, .slice A body.length c] 50)
  go_enter Tryz.func91, Tryz.ntmps91
  go_wp2
  all_goals
    go_ret
    refine ⟨ret_bool ?_, hn⟩
    unfold rightB
    first | exact (decide_eq_false (by simp only; omega)).symm | (rw [decide_eq_decide]; simp only; omega)
end Go.Proofs.YtpdfmpegcejmkaaGreatDoor
