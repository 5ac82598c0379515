/- CodeOne: the law's walk. -/
import Derived.Test.YtoddcjpfldpnfaaDoorLaw02Awake
import Derived.Test.YtoddcjpfldpnfaaDoorLaw02Size
import Derived.Test.YtoddcjpfldpnfaaDoorReadMath
import Derived.StillTailTactics
namespace Go.Proofs.YtoddcjpfldpnfaaDoor
open Go.RowKit
/-- What stays through CodeOne's rounds: the reader, the writer, what was there. -/
structure OneInv (σ : Sen) (w0 : World) (gr gw : Nat) (bs : List Int) (s : RSt) (t : Option (List Int)) (S : Nat → Prop) (w : World) : Prop where
  rd : RdAt σ w gr bs s
  wr : WrAt w S gw t
  sep : ∀ k, S k → k ≠ gr
  env : Env σ w0 gr w
  ne : gr ≠ gw
  lw : w0.heap.size ≤ gw
theorem OneInv.below {σ : Sen} {w0 : World} {gr gw : Nat} {bs : List Int} {s : RSt} {t : Option (List Int)} {S : Nat → Prop} {w w' : World} (h : OneInv σ w0 gr gw bs s t S w) (hb : Below w.heap.size w w') : OneInv σ w0 gr gw bs s t S w' :=
  ⟨h.rd.below hb, h.wr.below hb, h.sep, h.env.below hb, h.ne, h.lw⟩
theorem OneInv.got {σ : Sen} {w0 : World} {gr gw : Nat} {bs : List Int} {s s' : RSt} {t : Option (List Int)} {S : Nat → Prop} {w w' : World} (h : OneInv σ w0 gr gw bs s t S w) (hg : Got σ w gr bs s' w') : OneInv σ w0 gr gw bs s' t S w' :=
  ⟨hg.rd, h.wr.kept hg.fr (by simpa using fun e => h.ne e.symm) (fun k hk => by simpa using h.sep k hk), h.sep, h.env.grown hg.fr, h.ne, h.lw⟩
theorem writer_no (p : Option Addr) (b : Bool) : ∀ (i : Nat) (z : Int), (#[.pointer p, .bool b] : Array Value)[i]? ≠ some (.int .u8 z) := by
  intro i z
  match i with
  | 0 => simp
  | 1 => simp
  | i + 2 => simp
theorem OneInv.put {σ : Sen} {w0 : World} {gr gw : Nat} {bs : List Int} {s : RSt} {t t' : Option (List Int)} {S : Nat → Prop} {w w' : World} (h : OneInv σ w0 gr gw bs s t S w) (hP : Put w S gw t' w') : OneInv σ w0 gr gw bs s t' (grow S w w') w' := by
  obtain ⟨p, hb⟩ := h.wr.isBlock
  have hgr : gr < w.heap.size := by obtain ⟨x, cap, k, ev, hI⟩ := h.rd; exact hI.blk.lt
  refine ⟨h.rd.farAny hb (writer_no _ _) (fun e => h.ne e.symm) hP.fr, hP.wr, ?_, ⟨h.env.gl, below_grown h.env.bl hP.fr h.env.bl.size h.lw, h.env.lo⟩, h.ne, h.lw⟩
  rintro k (hk | hk)
  · exact h.sep k hk
  · omega
/-- Only a block without bytes has turned that is neither the reader's nor the writer's. -/
theorem OneInv.far {σ : Sen} {w0 : World} {gr gw q : Nat} {bs : List Int} {s : RSt} {t : Option (List Int)} {S : Nat → Prop} {ty : TypeId} {cs : Array Value} {w w' : World} (h : OneInv σ w0 gr gw bs s t S w) (hb : BlockIs w q ty cs) (hno : ∀ (i : Nat) (z : Int), cs[i]? ≠ some (.int .u8 z)) (hr : q ≠ gr) (hw : q ≠ gw) (hS : ∀ k, S k → k ≠ q) (h0 : w0.heap.size ≤ q) (hg : w.grownBy w' (some q)) : OneInv σ w0 gr gw bs s t S w' :=
  ⟨h.rd.farAny hb hno hr hg, h.wr.kept hg (by simpa using fun e => hw e.symm) (fun k hk => by simpa using hS k hk), h.sep, ⟨h.env.gl, below_grown h.env.bl hg h.env.bl.size h0, h.env.lo⟩, h.ne, h.lw⟩
theorem part_no (p : PartV) : ∀ (i : Nat) (z : Int), p.cells.toArray[i]? ≠ some (.int .u8 z) := by
  intro i z
  unfold PartV.cells
  match i with
  | 0 => simp
  | 1 => simp
  | 2 => simp
  | 3 => simp
  | 4 => simp
  | 5 => simp
  | 6 => simp
  | 7 => simp
  | 8 => simp
  | i + 9 => simp
/-- A part of this kind and width, and nothing else. -/
def blankV (kind width : Int) : PartV := ⟨kind, width, 0, noEnt, none, [], 0, none, [], 0, none, 0⟩
theorem i64z : i64ok 0 := ⟨by decide, by decide⟩
theorem blank_ok (w : World) (kind width : Int) (hk : i64ok kind) (hw : i64ok width) : (blankV kind width).ok w :=
  ⟨IntsAt.nil _ _, BytesAt.nil _ _, BytesAt.nil _ _, fun _ => rfl, fun _ => rfl, ⟨hk, hw, i64z, i64z, i64z, i64z⟩, ⟨Nat.zero_le _, Nat.zero_le _, Nat.zero_le _⟩⟩
/-- What was got is a part that is put by the bytes between. -/
structure PartGot (bs : List Int) (j : Nat) (s : RSt) (p : PartV) : Prop where
  ok : ∀ i, s = .ok i → j ≤ i ∧ i ≤ bs.length ∧ partB p = some (seg bs j i)
  len : p.ns.length ≤ 1000000
theorem i64e {z : Int} (h0 : 0 ≤ z) (h1 : z ≤ 1099511627776) : i64ok z := ⟨by omega, by omega⟩
theorem set8_grown (w : World) (q : Nat) (a b c d : Value) : w.grownBy ((((w.setCell ⟨q, 4, none⟩ a).setCell ⟨q, 5, none⟩ b).setCell ⟨q, 6, none⟩ c).setCell ⟨q, 7, none⟩ d) (some q) := grown_at (grown_at (grown_at (grown_at (World.grownBy.refl _ _) _ _) _ _) _ _) _ _
theorem same_self (xs : List Int) : sameB xs xs = true := decide_eq_true rfl
set_option maxRecDepth 100000 in
set_option maxHeartbeats 8000000 in
theorem codeOne_any (σ : Sen) (w : World) (hG : GlAt σ w) (bs : List Int) (B : Option Addr) (cb : Nat) (hz : BytesAt w B bs) (hzl : bs.length ≤ 140737488351232) (hzc : bs.length ≤ cb) (hzm : cb ≤ 9223372036854775807) (hB : B = none → cb = 0)
    (A : Option Addr) (ps : List PartV) (c : Nat) (hp : PVAt w A ps) (hl : ps.length ≤ 140737488351232) :
    Calls Tryd.prog 5 #[.slice B bs.length cb, .slice A ps.length c] w fun e w' => e = .returned (.bool true) ∧ Below w.heap.size w w' := by
  go_enter Tryd.func5, Tryd.ntmps5
  go_wp2_with fail
  refine (awake_any σ w hG.f).mono ?_
  rintro e w1 ⟨rfl, hb1⟩
  have hp1 := hp.below hb1
  have hz1 := hz.below hb1
  go_wp2_with fail
  refine (size_any w1 A ps c hp1 hl).mono ?_
  rintro e w2 ⟨m, rfl, hm, hmt, hq⟩
  have hq : Qu w1 w2 := hq
  have hb2 : Below w.heap.size w w2 := hb1.trans (hq.below _)
  have hz2 := hz1.below (hq.below _)
  have Hmt := Lib.hid hmt
  clear hmt hz1 hp1 hq hb1
  by_cases hbig : (m : Int) + (bs.length : Int) > 3000
  · go_wp2_with fail
    go_ret
    exact ⟨rfl, hb2⟩
  · have hmt := Hmt.out (by omega)
    have Hmt2 := Lib.hid (And.intro (show m ≤ 3000 by omega) hmt)
    have hbl : bs.length ≤ 3000 := by omega
    clear Hmt hmt
    go_wp2_with fail
    refine (read_any σ w2 bs B cb hz2 hzl hB).mono ?_
    rintro e w3 ⟨gr, rfl, hgr, hR, hb3⟩
    have hb3' : Below w.heap.size w w3 := hb2.trans (hb3.mono hb2.size)
    have hgl : gr < w3.heap.size := by obtain ⟨x, cap, k, ev, hI⟩ := hR; exact hI.blk.lt
    have hbW := below_new w3 (.cells #[.pointer none, .bool false] 32)
    have hInv : OneInv σ w gr w3.heap.size bs (.ok 0) (some (bs.take 0)) (fun _ => False) (w3.alloc (.cells #[.pointer none, .bool false] 32)) :=
      ⟨hR.below hbW, wr_new w3, fun k h => h.elim, ⟨hG, hb3'.trans (hbW.mono hb3'.size), by have := hb2.size; omega⟩, by omega, hb3'.size⟩
    have Hgr := Lib.hid hgr
    clear hR hb3 hb3' hbW hz2
    go_wp2_with fail
    generalize w3.alloc (.cells #[.pointer none, .bool false] 32) = w4 at *
    go_loopg [7] ps.length (fun g i wx => ∃ (k j : Nat) (S : Nat → Prop), g = ps.length - k ∧ k ≤ ps.length ∧ i = .int .i64 (k : Int) ∧ j ≤ bs.length ∧ OneInv σ w gr w3.heap.size bs (.ok j) (some (bs.take j)) S wx)
    case atStart => exact ⟨0, 0, _, rfl, by omega, rfl, by omega, hInv⟩
    case round =>
      obtain ⟨k, j, S, hgk, hk, rfl, hj, hI⟩ := hrel
      have Hgk := Lib.hid hgk; clear hgk
      by_cases hlt : k < ps.length
      · have hpk : ps[k]? = some ps[k] := List.getElem?_eq_getElem hlt
        generalize ps[k] = p at hpk
        have hpx : PVAt wr A ps := hp.below hI.env.bl
        obtain ⟨bb, off, rfl, hc⟩ := hpx.2 (by intro e; simp [e] at hlt)
        have c0 : wr.cell? ⟨bb, off + k * 9, none⟩ = some (.int .i64 p.kind) := hc k p hpk 0 _ rfl
        have c1 : wr.cell? ⟨bb, off + k * 9 + 1, none⟩ = some (.int .i64 p.width) := hc k p hpk 1 _ rfl
        have c8 : wr.cell? ⟨bb, off + k * 9 + 8, none⟩ = some (.int .i64 p.most) := hc k p hpk 8 _ rfl
        have hok := hpx.1 p (List.mem_of_getElem? hpk)
        have hblk := World.block_lt_of_cell? _ _ c0
        have a0 := fun o => (World.cell?_alloc_lt wr o ⟨bb, off + k * 9, none⟩ hblk).trans c0
        have a1 := fun o => (World.cell?_alloc_lt wr o ⟨bb, off + k * 9 + 1, none⟩ hblk).trans c1
        have a8 := fun o => (World.cell?_alloc_lt wr o ⟨bb, off + k * 9 + 8, none⟩ hblk).trans c8
        have hbN : Below wr.heap.size wr (wr.alloc (.cells #[.int .i64 p.kind, .int .i64 p.width, .slice none 0 0, .slice none 0 0, .int .i64 0, .int .i64 0, .int .i64 0, .slice none 0 0, .int .i64 0] 39)).drew := (below_new wr (.cells #[.int .i64 p.kind, .int .i64 p.width, .slice none 0 0, .slice none 0 0, .int .i64 0, .int .i64 0, .int .i64 0, .slice none 0 0, .int .i64 0] 39)).drew
        have hBN : BlockIs (wr.alloc (.cells #[.int .i64 p.kind, .int .i64 p.width, .slice none 0 0, .slice none 0 0, .int .i64 0, .int .i64 0, .int .i64 0, .slice none 0 0, .int .i64 0] 39)).drew wr.heap.size 39 (blankV p.kind p.width).cells.toArray := BlockIs.made _ _ _
        have hIN := hI.below hbN
        have hok2 := hok.bd
        have e0 := cell_below c0 hbN
        have e1 := cell_below c1 hbN
        have e8 := cell_below c8 hbN
        have hfr : ∀ q, S q → q ≠ wr.heap.size := fun q hq => by have := (hI.wr.foot q hq).2; omega
        have hrq : gr ≠ wr.heap.size ∧ w3.heap.size ≠ wr.heap.size ∧ w.heap.size ≤ wr.heap.size := ⟨by
          obtain ⟨x, cap, kk, ev, hR⟩ := hI.rd
          have := hR.blk.lt
          omega, by have := hI.wr.lt; omega, hI.env.bl.size⟩
        have HS := Lib.hid hfr
        clear hfr
        have HN := Lib.hid (And.intro hIN (And.intro hBN (And.intro e0 (And.intro e1 e8))))
        clear hpk hc hpx hI hok hbN hBN hIN e0 e1 e8
        go_wp2_with fail
        go_region_held3 (fun w' => w'.cell? ⟨bb, off + k * 9, none⟩ = some (.int .i64 p.kind) ∧ w'.cell? ⟨bb, off + k * 9 + 1, none⟩ = some (.int .i64 p.width)) (first | exact ⟨c0, c1⟩ | exact ⟨a0 _, a1 _⟩) (fail)
        go_wp2_with fail
        clear a0 a1 a8 c0 c1 c8
        generalize (wr.alloc (.cells #[.int .i64 p.kind, .int .i64 p.width, .slice none 0 0, .slice none 0 0, .int .i64 0, .int .i64 0, .int .i64 0, .slice none 0 0, .int .i64 0] 39)).drew = w5 at *
        obtain ⟨hI5, hB5, c0, c1, c8⟩ := HN.out
        have HI5 := Lib.hid hI5
        have HB5 := Lib.hid hB5
        clear hI5 hB5
        refine (pick_any p.kind 4 _ (by decide) (by decide)).mono ?_
        rintro e w' ⟨rfl, rfl⟩
        have hpw : Below w.heap.size w w5 := HI5.out.env.bl
        rcases mod4 p.kind with hk4 | hk4 | hk4 | hk4
        all_goals rw [hk4]
        all_goals have Hk4 := Lib.hid hk4
        all_goals clear hk4
        · have hk4' := Hk4.out
          have HF := Lib.hid (rfield_any σ w w5 gr bs (.ok j) p.width HI5.out.rd HI5.out.env.f hzl)
          go_wp2_with fail
          refine HF.out.mono ?_
          rintro e w6 ⟨rfl, hG6⟩
          have hI6 := HI5.out.got hG6
          have hB6 := HB5.out.kept hG6.fr (by simpa using hrq.1.symm)
          have hfb := fun n i => field_back bs hI6.rd.bytes p.width n j i hj
          have hfd := fieldR_bd bs hI6.rd.bytes p.width (.ok j)
          generalize hr : fieldR bs p.width (.ok j) = r at *
          obtain ⟨n, sN⟩ := r
          have Hr := Lib.hid hr
          have Hfb := Lib.hid hfb
          clear hr hfb HF
          simp only at hI6 hfd ⊢
          have hnb : 0 ≤ n ∧ n ≤ 1099511627776 := by rcases top_cases p.width with ⟨_, t⟩ | ⟨_, t⟩ | ⟨_, t⟩ | ⟨_, t⟩ | ⟨_, _, _, _, t⟩ <;> omega
          have hg7 : w6.grownBy (w6.setCell ⟨wr.heap.size, 2, none⟩ (.slice (some ⟨w6.heap.size, 0, none⟩) 1 1)) (some wr.heap.size) := grown_at (World.grownBy.refl _ _) _ _
          have hI7 := hI6.far hB6 (part_no _) (fun e => hrq.1 e.symm) (fun e => hrq.2.1 e.symm) HS.out hrq.2.2 hg7
          have hB7 := hB6.set1 2 (.slice (some ⟨w6.heap.size, 0, none⟩) 1 1)
          have hs7 : (w6.setCell ⟨wr.heap.size, 2, none⟩ (.slice (some ⟨w6.heap.size, 0, none⟩) 1 1)).heap.size = w6.heap.size := by simp [World.setCell]
          have hq6 : wr.heap.size < w6.heap.size := hB6.lt
          have f2 := hB6.free 2
          have d2 := hB6.cell 2
          have hbA := below_new (w6.setCell ⟨wr.heap.size, 2, none⟩ (.slice (some ⟨w6.heap.size, 0, none⟩) 1 1)) (.cells #[.int .i64 n] 3)
          have hI8 := hI7.below hbA
          have hB8 := hB7.below hbA hB7.lt
          have hn8 : IntsAt ((w6.setCell ⟨wr.heap.size, 2, none⟩ (.slice (some ⟨w6.heap.size, 0, none⟩) 1 1)).alloc (.cells #[.int .i64 n] 3)) (some ⟨(w6.setCell ⟨wr.heap.size, 2, none⟩ (.slice (some ⟨w6.heap.size, 0, none⟩) 1 1)).heap.size, 0, none⟩) [n] := intsAt_lit _ [n] (by intro z hz; obtain rfl := List.mem_singleton.1 hz; omega)
          rw [hs7] at hn8
          have a2 := fun o => (World.cell?_alloc_lt w6 o ⟨wr.heap.size, 2, none⟩ hq6).trans d2
          have g2' := fun o => (World.frozen?_alloc_old w6 o ⟨wr.heap.size, 2, none⟩ (Nat.ne_of_lt hq6)).trans f2
          have HK := Lib.hid (And.intro hI8 (And.intro hB8 hn8))
          clear hI7 hB7 hI8 hB8 hn8 hbA hg7 hs7
          go_wp2_with fail
          obtain ⟨hI8, hB8, hn8⟩ := HK.out
          clear f2 d2 a2 g2' HK
          generalize (w6.setCell ⟨wr.heap.size, 2, none⟩ (.slice (some ⟨w6.heap.size, 0, none⟩) 1 1)).alloc (.cells #[.int .i64 n] 3) = w8 at *
          obtain ⟨pN, hpN⟩ : ∃ pN : PartV, pN = { blankV p.kind p.width with nA := some ⟨w6.heap.size, 0, none⟩, ns := [n], nc := 1 } := ⟨_, rfl⟩
          have hok8 : pN.ok w8 := by subst hpN; exact ⟨hn8, BytesAt.nil _ _, BytesAt.nil _ _, fun _ => rfl, fun _ => rfl, ⟨hok2.1, hok2.2.1, i64z, i64z, i64z, i64z⟩, ⟨by show 1 ≤ 140737488351232; decide, Nat.zero_le _, Nat.zero_le _⟩⟩
          have hPG : PartGot bs j sN pN := ⟨fun i e => by
            obtain ⟨g1, g2, g3, _⟩ := Hfb.out n i (by rw [e])
            refine ⟨g1, g2, ?_⟩
            subst hpN
            show (if p.kind % 4 = 0 then fieldsB p.width [n] else _) = _
            rw [if_pos hk4', g3], by subst hpN; show 1 ≤ 1000000; decide⟩
          have hB8 : BlockIs w8 wr.heap.size 39 pN.cells.toArray := by subst hpN; exact hB8
          clear hpN hn8 hI6 hB6 hk4' hfd
          have HPG := Lib.hid hPG
          have HP8 := Lib.hid (And.intro hI8 (And.intro hB8 hok8))
          clear hPG hI8 hB8 hok8
          refine (rerr_any σ w _ gr bs sN HP8.out.1.rd HP8.out.1.env).mono ?_
          rintro e w9 ⟨rfl, hb9⟩
          have hI9 := HP8.out.1.below hb9
          have hB9 := HP8.out.2.1.below hb9 HP8.out.2.1.lt
          have hok9 := HP8.out.2.2.below hb9
          cases sN with
          | bad pos long =>
            have hne : (errCode long != 0) = true := by cases long <;> decide
            unfold errPos errNo
            go_wp2_with fail
            refine (rleft_any σ w9 gr bs _ hI9.rd).mono ?_
            rintro e w10 ⟨rfl, hq10⟩
            have hq10 : Qu w9 w10 := hq10
            unfold leftR
            go_wp2_with fail
            go_ret
            exact ⟨rfl, hI9.env.bl.trans (hq10.below _)⟩
          | ok jN =>
            obtain ⟨g1, g2, g3⟩ := HPG.out.ok jN rfl
            have hpl := HPG.out.len
            have HG3 := Lib.hid g3
            obtain ⟨d0, d1, d2, d3, d4, d5, d6, d7, d8⟩ := part_cells hB9
            have HPut := Lib.hid (put_any w9 S w3.heap.size _ hI9.wr pN hok9 hpl)
            unfold PartV.cells at HPut
            clear g3 hB9 hok9
            unfold errPos errNo
            go_wp2_with fail
            clear d0 d1 d2 d3 d4 d5 d6 d7 d8
            refine HPut.out.mono ?_
            rintro e w10 ⟨rfl, hP10⟩
            have hI10 := hI9.put hP10
            rw [HG3.out] at hI10
            have hI10' : OneInv σ w gr w3.heap.size bs (.ok jN) (some (bs.take jN)) (grow S w9 w10) w10 := by
              rw [show bs.take jN = bs.take j ++ seg bs j jN by rw [← seg_take, ← seg_take, seg_app bs 0 j jN (Nat.zero_le _) g1]]
              exact hI10
            clear hI9 hI10
            go_wp2_with fail
            go_roundg (ps.length - (k + 1))
            case measure => rw [Hgk.out]; omega
            case rel => exact ⟨k + 1, jN, _, rfl, by omega, by go_num, g2, hI10'⟩
        · have hk4' := Hk4.out
          have HF := Lib.hid (rtext_any σ w w5 gr bs (.ok j) p.most HI5.out.rd HI5.out.env hzl)
          go_wp2_with fail
          refine HF.out.mono ?_
          rintro e w6 ⟨v, rfl, hown, hG6⟩
          have hI6 := HI5.out.got hG6
          have hB6 := HB5.out.kept hG6.fr (by simpa using hrq.1.symm)
          have hfb := fun zs i => text_back bs hI6.rd.bytes p.most zs j i hj
          have hmem := textR_mem bs hI6.rd.bytes p.most (.ok j)
          have hle := textR_le bs p.most (.ok j)
          generalize hr : textR bs p.most (.ok j) = r at *
          obtain ⟨zs, sN⟩ := r
          have Hfb := Lib.hid hfb
          clear hr hfb HF
          simp only at hI6 hmem hle hown
          obtain ⟨X, cap, rfl, hcap, _⟩ := own_slice hown
          have hXn := own_none hown
          have hg7 : w6.grownBy (w6.setCell ⟨wr.heap.size, 3, none⟩ (.slice X zs.length cap)) (some wr.heap.size) := grown_at (World.grownBy.refl _ _) _ _
          have hI8 := hI6.far hB6 (part_no _) (fun e => hrq.1 e.symm) (fun e => hrq.2.1 e.symm) HS.out hrq.2.2 hg7
          have hB8 := hB6.set1 3 (.slice X zs.length cap)
          have hq5 : wr.heap.size < w5.heap.size := HB5.out.lt
          have hown8 := hown.kept hg7 (.inr (by
            intro e
            have := (hown.lt _ e).1
            omega))
          have hn8 := own_reads hown8 hmem
          have f2 := hB6.free 3
          have d2 := hB6.cell 3
          have HK := Lib.hid (And.intro hI8 (And.intro hB8 hn8))
          clear hI8 hB8 hn8 hg7 hown hown8
          go_wp2_with fail
          obtain ⟨hI8, hB8, hn8⟩ := HK.out
          clear f2 d2 HK
          generalize w6.setCell ⟨wr.heap.size, 3, none⟩ (.slice X zs.length cap) = w8 at *
          obtain ⟨pN, hpN⟩ : ∃ pN : PartV, pN = { blankV p.kind p.width with tA := X, ts := zs, tc := cap } := ⟨_, rfl⟩
          have hok8 : pN.ok w8 := by subst hpN; exact ⟨IntsAt.nil _ _, hn8, BytesAt.nil _ _, hXn, fun _ => rfl, ⟨hok2.1, hok2.2.1, i64z, i64z, i64z, i64z⟩, ⟨Nat.zero_le _, by show zs.length ≤ 140737488351232; omega, Nat.zero_le _⟩⟩
          have hPG : PartGot bs j sN pN := ⟨fun i e => by
            obtain ⟨g1, g2, g3⟩ := Hfb.out zs i (by rw [e])
            refine ⟨g1, g2, ?_⟩
            subst hpN
            show (if p.kind % 4 = 0 then _ else if p.kind % 4 = 1 then textB zs else _) = _
            rw [if_neg (by omega), if_pos hk4', g3], by subst hpN; exact Nat.zero_le _⟩
          have hB8 : BlockIs w8 wr.heap.size 39 pN.cells.toArray := by subst hpN; exact hB8
          clear hpN hn8 hI6 hB6 hk4' hmem hle
          have HPG := Lib.hid hPG
          have HP8 := Lib.hid (And.intro hI8 (And.intro hB8 hok8))
          clear hPG hI8 hB8 hok8
          refine (rerr_any σ w _ gr bs sN HP8.out.1.rd HP8.out.1.env).mono ?_
          rintro e w9 ⟨rfl, hb9⟩
          have hI9 := HP8.out.1.below hb9
          have hB9 := HP8.out.2.1.below hb9 HP8.out.2.1.lt
          have hok9 := HP8.out.2.2.below hb9
          cases sN with
          | bad pos long =>
            have hne : (errCode long != 0) = true := by cases long <;> decide
            unfold errPos errNo
            go_wp2_with fail
            refine (rleft_any σ w9 gr bs _ hI9.rd).mono ?_
            rintro e w10 ⟨rfl, hq10⟩
            have hq10 : Qu w9 w10 := hq10
            unfold leftR
            go_wp2_with fail
            go_ret
            exact ⟨rfl, hI9.env.bl.trans (hq10.below _)⟩
          | ok jN =>
            obtain ⟨g1, g2, g3⟩ := HPG.out.ok jN rfl
            have hpl := HPG.out.len
            have HG3 := Lib.hid g3
            obtain ⟨d0, d1, d2, d3, d4, d5, d6, d7, d8⟩ := part_cells hB9
            have HPut := Lib.hid (put_any w9 S w3.heap.size _ hI9.wr pN hok9 hpl)
            unfold PartV.cells at HPut
            clear g3 hB9 hok9
            unfold errPos errNo
            go_wp2_with fail
            clear d0 d1 d2 d3 d4 d5 d6 d7 d8
            refine HPut.out.mono ?_
            rintro e w10 ⟨rfl, hP10⟩
            have hI10 := hI9.put hP10
            rw [HG3.out] at hI10
            have hI10' : OneInv σ w gr w3.heap.size bs (.ok jN) (some (bs.take jN)) (grow S w9 w10) w10 := by
              rw [show bs.take jN = bs.take j ++ seg bs j jN by rw [← seg_take, ← seg_take, seg_app bs 0 j jN (Nat.zero_le _) g1]]
              exact hI10
            clear hI9 hI10
            go_wp2_with fail
            go_roundg (ps.length - (k + 1))
            case measure => rw [Hgk.out]; omega
            case rel => exact ⟨k + 1, jN, _, rfl, by omega, by go_num, g2, hI10'⟩
        · have hk4' := Hk4.out
          have HF := Lib.hid (rrow_any σ w w5 gr bs (.ok j) p.most HI5.out.rd HI5.out.env hzl)
          go_wp2_with fail
          refine HF.out.mono ?_
          rintro e w6 ⟨v, rfl, hown, hG6⟩
          have hI6 := HI5.out.got hG6
          have hB6 := HB5.out.kept hG6.fr (by simpa using hrq.1.symm)
          have hfb := fun zs i => row_back bs hI6.rd.bytes p.most zs j i hj
          have hmem := rowR_bd bs hI6.rd.bytes p.most (.ok j)
          have hle := rowR_len bs hI6.rd.bytes p.most (.ok j)
          generalize hr : rowR bs p.most (.ok j) = r at *
          obtain ⟨zs, sN⟩ := r
          have Hfb := Lib.hid hfb
          clear hr hfb HF
          simp only at hI6 hmem hle hown
          obtain ⟨X, cap, rfl, hcap, _⟩ := own_slice hown
          have hg7 : w6.grownBy (w6.setCell ⟨wr.heap.size, 2, none⟩ (.slice X zs.length cap)) (some wr.heap.size) := grown_at (World.grownBy.refl _ _) _ _
          have hI8 := hI6.far hB6 (part_no _) (fun e => hrq.1 e.symm) (fun e => hrq.2.1 e.symm) HS.out hrq.2.2 hg7
          have hB8 := hB6.set1 2 (.slice X zs.length cap)
          have hq5 : wr.heap.size < w5.heap.size := HB5.out.lt
          have hown8 := hown.kept hg7 (.inr (by
            intro e
            have := (hown.lt _ e).1
            omega))
          have hn8 := own_ints hown8 (fun z hz => by have := hmem z hz; omega)
          have f2 := hB6.free 2
          have d2 := hB6.cell 2
          have HK := Lib.hid (And.intro hI8 (And.intro hB8 hn8))
          clear hI8 hB8 hn8 hg7 hown hown8
          go_wp2_with fail
          obtain ⟨hI8, hB8, hn8⟩ := HK.out
          clear f2 d2 HK
          generalize w6.setCell ⟨wr.heap.size, 2, none⟩ (.slice X zs.length cap) = w8 at *
          obtain ⟨pN, hpN⟩ : ∃ pN : PartV, pN = { blankV p.kind p.width with nA := X, ns := zs, nc := cap } := ⟨_, rfl⟩
          have hok8 : pN.ok w8 := by subst hpN; exact ⟨hn8, BytesAt.nil _ _, BytesAt.nil _ _, fun _ => rfl, fun _ => rfl, ⟨hok2.1, hok2.2.1, i64z, i64z, i64z, i64z⟩, ⟨by show zs.length ≤ 140737488351232; omega, Nat.zero_le _, Nat.zero_le _⟩⟩
          have hPG : PartGot bs j sN pN := ⟨fun i e => by
            obtain ⟨g1, g2, g3, _⟩ := Hfb.out zs i (by rw [e])
            refine ⟨g1, g2, ?_⟩
            subst hpN
            show (if p.kind % 4 = 0 then _ else if p.kind % 4 = 1 then _ else if p.kind % 4 = 2 then rowB zs else _) = _
            rw [if_neg (by omega), if_neg (by omega), if_pos hk4', g3], by subst hpN; show zs.length ≤ 1000000; omega⟩
          have hB8 : BlockIs w8 wr.heap.size 39 pN.cells.toArray := by subst hpN; exact hB8
          clear hpN hn8 hI6 hB6 hk4' hmem hle
          have HPG := Lib.hid hPG
          have HP8 := Lib.hid (And.intro hI8 (And.intro hB8 hok8))
          clear hPG hI8 hB8 hok8
          refine (rerr_any σ w _ gr bs sN HP8.out.1.rd HP8.out.1.env).mono ?_
          rintro e w9 ⟨rfl, hb9⟩
          have hI9 := HP8.out.1.below hb9
          have hB9 := HP8.out.2.1.below hb9 HP8.out.2.1.lt
          have hok9 := HP8.out.2.2.below hb9
          cases sN with
          | bad pos long =>
            have hne : (errCode long != 0) = true := by cases long <;> decide
            unfold errPos errNo
            go_wp2_with fail
            refine (rleft_any σ w9 gr bs _ hI9.rd).mono ?_
            rintro e w10 ⟨rfl, hq10⟩
            have hq10 : Qu w9 w10 := hq10
            unfold leftR
            go_wp2_with fail
            go_ret
            exact ⟨rfl, hI9.env.bl.trans (hq10.below _)⟩
          | ok jN =>
            obtain ⟨g1, g2, g3⟩ := HPG.out.ok jN rfl
            have hpl := HPG.out.len
            have HG3 := Lib.hid g3
            obtain ⟨d0, d1, d2, d3, d4, d5, d6, d7, d8⟩ := part_cells hB9
            have HPut := Lib.hid (put_any w9 S w3.heap.size _ hI9.wr pN hok9 hpl)
            unfold PartV.cells at HPut
            clear g3 hB9 hok9
            unfold errPos errNo
            go_wp2_with fail
            clear d0 d1 d2 d3 d4 d5 d6 d7 d8
            refine HPut.out.mono ?_
            rintro e w10 ⟨rfl, hP10⟩
            have hI10 := hI9.put hP10
            rw [HG3.out] at hI10
            have hI10' : OneInv σ w gr w3.heap.size bs (.ok jN) (some (bs.take jN)) (grow S w9 w10) w10 := by
              rw [show bs.take jN = bs.take j ++ seg bs j jN by rw [← seg_take, ← seg_take, seg_app bs 0 j jN (Nat.zero_le _) g1]]
              exact hI10
            clear hI9 hI10
            go_wp2_with fail
            go_roundg (ps.length - (k + 1))
            case measure => rw [Hgk.out]; omega
            case rel => exact ⟨k + 1, jN, _, rfl, by omega, by go_num, g2, hI10'⟩
        · have hk4' := Hk4.out
          have HF := Lib.hid (rentry_any σ w w5 gr bs (.ok j) HI5.out.rd HI5.out.env hzl)
          go_wp2_with fail
          refine HF.out.mono ?_
          rintro e w6 ⟨v, rfl, hown, hG6⟩
          have hI6 := HI5.out.got hG6
          have hB6 := HB5.out.kept hG6.fr (by simpa using hrq.1.symm)
          have hfb := fun E i => entry_back bs hI6.rd.bytes E j i hj
          have hmem := entryR_mem bs hI6.rd.bytes (.ok j)
          have hEb := entryR_bd bs (.ok j)
          generalize hr : entryR bs (.ok j) = r at *
          obtain ⟨E, sN⟩ := r
          have Hfb := Lib.hid hfb
          clear hr hfb HF
          simp only at hI6 hmem hEb hown ⊢
          obtain ⟨X, cap, rfl, hcap, _⟩ := own_slice hown
          have hXn := own_none hown
          have hg7 := set8_grown w6 wr.heap.size (.int .i64 E.index) (.int .i64 E.term) (.int .i64 E.kind) (.slice X E.body.length cap)
          have hI8 := hI6.far hB6 (part_no _) (fun e => hrq.1 e.symm) (fun e => hrq.2.1 e.symm) HS.out hrq.2.2 hg7
          have hB8 := (((hB6.set1 4 (.int .i64 E.index)).set1 5 (.int .i64 E.term)).set1 6 (.int .i64 E.kind)).set1 7 (.slice X E.body.length cap)
          have hq5 : wr.heap.size < w5.heap.size := HB5.out.lt
          have hown8 := hown.kept hg7 (.inr (by
            intro e
            have := (hown.lt _ e).1
            omega))
          have hn8 := own_reads hown8 hmem
          have f2 := fun i => hB6.free i
          have d4 : w6.cell? ⟨wr.heap.size, 4, none⟩ = some (.int .i64 0) := hB6.cell 4
          have d5 : w6.cell? ⟨wr.heap.size, 5, none⟩ = some (.int .i64 0) := hB6.cell 5
          have d6 : w6.cell? ⟨wr.heap.size, 6, none⟩ = some (.int .i64 0) := hB6.cell 6
          have d7 : w6.cell? ⟨wr.heap.size, 7, none⟩ = some (.slice none 0 0) := hB6.cell 7
          have HK := Lib.hid (And.intro hI8 (And.intro hB8 hn8))
          clear hI8 hB8 hn8 hg7 hown hown8
          go_wp2_with fail
          obtain ⟨hI8, hB8, hn8⟩ := HK.out
          clear f2 d4 d5 d6 d7 HK
          generalize (((w6.setCell ⟨wr.heap.size, 4, none⟩ (.int .i64 E.index)).setCell ⟨wr.heap.size, 5, none⟩ (.int .i64 E.term)).setCell ⟨wr.heap.size, 6, none⟩ (.int .i64 E.kind)).setCell ⟨wr.heap.size, 7, none⟩ (.slice X E.body.length cap) = w8 at *
          have e1 := i64e hEb.1 hEb.2.1
          have e2 := i64e hEb.2.2.1 hEb.2.2.2.1
          have e3 := i64e (z := E.kind) hEb.2.2.2.2.1 (by omega)
          obtain ⟨pN, hpN⟩ : ∃ pN : PartV, pN = { blankV p.kind p.width with ent := E, bA := X, bc := cap } := ⟨_, rfl⟩
          have hok8 : pN.ok w8 := by subst hpN; exact ⟨IntsAt.nil _ _, BytesAt.nil _ _, hn8, fun _ => rfl, hXn, ⟨hok2.1, hok2.2.1, i64z, e1, e2, e3⟩, ⟨Nat.zero_le _, Nat.zero_le _, by show E.body.length ≤ 140737488351232; omega⟩⟩
          have hPG : PartGot bs j sN pN := ⟨fun i e => by
            obtain ⟨g1, g2, g3, _⟩ := Hfb.out E i (by rw [e])
            refine ⟨g1, g2, ?_⟩
            subst hpN
            show (if p.kind % 4 = 0 then _ else if p.kind % 4 = 1 then _ else if p.kind % 4 = 2 then _ else entryB E) = _
            rw [if_neg (by omega), if_neg (by omega), if_neg (by omega), g3], by subst hpN; exact Nat.zero_le _⟩
          have hB8 : BlockIs w8 wr.heap.size 39 pN.cells.toArray := by subst hpN; exact hB8
          clear hpN hn8 hI6 hB6 hk4' hmem hEb
          have HPG := Lib.hid hPG
          have HP8 := Lib.hid (And.intro hI8 (And.intro hB8 hok8))
          clear hPG hI8 hB8 hok8
          refine (rerr_any σ w _ gr bs sN HP8.out.1.rd HP8.out.1.env).mono ?_
          rintro e w9 ⟨rfl, hb9⟩
          have hI9 := HP8.out.1.below hb9
          have hB9 := HP8.out.2.1.below hb9 HP8.out.2.1.lt
          have hok9 := HP8.out.2.2.below hb9
          cases sN with
          | bad pos long =>
            have hne : (errCode long != 0) = true := by cases long <;> decide
            unfold errPos errNo
            go_wp2_with fail
            refine (rleft_any σ w9 gr bs _ hI9.rd).mono ?_
            rintro e w10 ⟨rfl, hq10⟩
            have hq10 : Qu w9 w10 := hq10
            unfold leftR
            go_wp2_with fail
            go_ret
            exact ⟨rfl, hI9.env.bl.trans (hq10.below _)⟩
          | ok jN =>
            obtain ⟨g1, g2, g3⟩ := HPG.out.ok jN rfl
            have hpl := HPG.out.len
            have HG3 := Lib.hid g3
            obtain ⟨d0, d1, d2, d3, d4, d5, d6, d7, d8⟩ := part_cells hB9
            have HPut := Lib.hid (put_any w9 S w3.heap.size _ hI9.wr pN hok9 hpl)
            unfold PartV.cells at HPut
            clear g3 hB9 hok9
            unfold errPos errNo
            go_wp2_with fail
            clear d0 d1 d2 d3 d4 d5 d6 d7 d8
            refine HPut.out.mono ?_
            rintro e w10 ⟨rfl, hP10⟩
            have hI10 := hI9.put hP10
            rw [HG3.out] at hI10
            have hI10' : OneInv σ w gr w3.heap.size bs (.ok jN) (some (bs.take jN)) (grow S w9 w10) w10 := by
              rw [show bs.take jN = bs.take j ++ seg bs j jN by rw [← seg_take, ← seg_take, seg_app bs 0 j jN (Nat.zero_le _) g1]]
              exact hI10
            clear hI9 hI10
            go_wp2_with fail
            go_roundg (ps.length - (k + 1))
            case measure => rw [Hgk.out]; omega
            case rel => exact ⟨k + 1, jN, _, rfl, by omega, by go_num, g2, hI10'⟩
      · obtain rfl : k = ps.length := by omega
        clear hlt
        have hbx := hI.env.bl
        have hzx := hz.below hbx
        have HBy := Lib.hid (wbytes_some wr S w3.heap.size (bs.take j) hI.wr (by rw [List.length_take]; omega))
        have hlen : (bs.take j).length = j := by rw [List.length_take]; omega
        rw [hlen] at HBy
        have Hlen := Lib.hid hlen
        have hmem : ∀ z ∈ bs.take j, 0 ≤ z ∧ z < 256 := fun z hm => hz.1 z (List.mem_of_mem_take hm)
        have Hmem := Lib.hid hmem
        clear hlen hmem
        go_wp2_with fail
        refine HBy.out.mono ?_
        rintro e w8 ⟨v, rfl, hown, hb8⟩
        have hI8 := hI.below hb8
        have hz8 := hzx.below hb8
        obtain ⟨X, cap, rfl, hcap, _⟩ := own_slice hown
        have hr8 := own_reads hown Hmem.out
        have q1 : (0 : Int) ≤ (j : Int) := by omega
        have q2 : (j : Int) ≤ (cb : Int) := by omega
        have Hown := Lib.hid hown
        clear hown hI hzx hbx
        go_wp2_with fail
        refine (rleft_any σ w8 gr bs _ hI8.rd).mono ?_
        rintro e w9 ⟨rfl, hq9⟩
        have hq9 : Qu w8 w9 := hq9
        have hr9 := hr8.below (hq9.below _)
        have hz9 := hz8.below (hq9.below _)
        unfold leftR
        simp only
        have HS := sameBytes_any (bs.take j) (bs.take j) X B cap cb w9 hr9 (front_reads hz9) (by rw [Hlen.out]; omega)
        rw [Hlen.out, same_self] at HS
        have HS9 := Lib.hid HS
        clear HS
        go_wp2_with fail
        rw [show bs.length - (bs.length - j) = j by omega]
        refine HS9.out.mono ?_
        rintro e w10 ⟨rfl, hq10⟩
        have hq10 : Qu w9 w10 := hq10
        go_wp2_with fail
        go_ret
        exact ⟨rfl, (hI8.env.bl.trans (hq9.below _)).trans (hq10.below _)⟩
end Go.Proofs.YtoddcjpfldpnfaaDoor
