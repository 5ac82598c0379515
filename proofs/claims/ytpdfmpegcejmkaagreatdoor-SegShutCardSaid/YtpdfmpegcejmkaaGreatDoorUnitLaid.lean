/- seg: what a reader gets of a body: idents, and the rest. -/
/- A writer's bytes. -/
/- Fields, one behind the other, as bytes. -/
import Derived.Test.YtpdfmpegcejmkaaGreatDoorSegOpened
import Derived.Deep.RegionHeld3
import Derived.IntWalk
import Derived.Test.YtpdfmpegcejmkaaGreatDoorUnitReader
import Derived.Test.YtpdfmpegcejmkaaGreatDoorCodeField
import Derived.Test.YtpdfmpegcejmkaaGreatDoorUnitModel
namespace Go.Proofs.YtpdfmpegcejmkaaGreatDoor
open Go.RowKit
/-- Where what is left of a reader's bytes begins. -/
def restK (bs : List Int) : RSt → Nat
  | .ok j => j
  | .bad _ _ => bs.length
set_option maxRecDepth 100000 in
set_option maxHeartbeats 4000000 in
theorem gident_any (σ : Sen) (w0 w : World) (g : Nat) (bs : List Int) (s : RSt) (Y : Option Addr) (cy : Nat) (n : Int) (h : RdAt σ w g bs s) (hE : EnvF σ w0 g w) (hl : bs.length ≤ 239) (hgl : g < w.heap.size) :
    Calls Tryz.prog 82 #[.agg #[.pointer (some ⟨g, 0, none⟩), .slice Y bs.length cy], .int .i64 n] w fun e w' => e = .returned (.agg #[.int .i64 n, .int .i64 (fieldR bs 6 s).1, .int .i64 (fieldR bs 1 (fieldR bs 6 s).2).1]) ∧ Got σ w g bs (fieldR bs 1 (fieldR bs 6 s).2).2 w' := by
  obtain ⟨f1, e1⟩ : ∃ f, fieldR bs 6 s = f := ⟨_, rfl⟩
  rw [e1]
  obtain ⟨f2, e2⟩ : ∃ f, fieldR bs 1 f1.2 = f := ⟨_, rfl⟩
  rw [e2]
  have hb1 := below_new w (.cells #[.pointer (some ⟨g, 0, none⟩), .slice Y bs.length cy] 122)
  have X1 := BlockIs.made w 122 #[.pointer (some ⟨g, 0, none⟩), .slice Y bs.length cy]
  have hb2 := below_new (w.alloc (.cells #[.pointer (some ⟨g, 0, none⟩), .slice Y bs.length cy] 122)) (.cells #[.int .i64 0, .int .i64 0, .int .i64 0] 26)
  have X2 := BlockIs.made (w.alloc (.cells #[.pointer (some ⟨g, 0, none⟩), .slice Y bs.length cy] 122)) 26 #[.int .i64 0, .int .i64 0, .int .i64 0]
  have X1' := X1.below hb2 X1.lt
  rw [World.size_alloc] at X2
  obtain ⟨w2, hw2⟩ : ∃ w2, (w.alloc (.cells #[.pointer (some ⟨g, 0, none⟩), .slice Y bs.length cy] 122)).alloc (.cells #[.int .i64 0, .int .i64 0, .int .i64 0] 26) = w2 := ⟨_, rfl⟩
  rw [hw2] at X1' X2 hb2
  have hb := hb1.trans (hb2.mono hb1.size)
  have G2 := grown_below hb (some g)
  have HX := Lib.hid (And.intro X1' (And.intro X2 G2))
  have F1 := Lib.hid (rfield_any σ w0 w2.drew g bs s 6 ((h.below hb).below (Below.refl _ _).drew) ((hE.grown G2).grown (grown_below (Below.refl _ _).drew _)) (by omega))
  have F2 := Lib.hid (fun W (k : Got σ w2.drew g bs f1.2 W) => rfield_any σ w0 W g bs f1.2 1 k.rd (((hE.grown G2).grown (grown_below (Below.refl _ _).drew _)).grown k.fr) (by omega))
  rw [e1] at F1
  rw [e2] at F2
  have C1 := Lib.hid (fun W (k : Got σ w2.drew g bs f1.2 W) => ((X1'.below (Below.refl w2.heap.size w2).drew X1'.lt).kept k.fr (fun e => by have := Option.some.inj e; omega)).cell 0)
  have K1 := Lib.hid (fun W W' (k : Got σ w2.drew g bs f1.2 W) (k' : Got σ W g bs f2.2 W') => (show Got σ w2.drew g bs f2.2 W' from k.trans k'))
  have R1 := Lib.hid (fun W (k : Got σ w2.drew g bs f2.2 W) => ((X2.below (Below.refl w2.heap.size w2).drew X2.lt).kept k.fr (fun e => by have := Option.some.inj e; omega)).three)
  have R2 := Lib.hid (fun W (k : Got σ w2.drew g bs f2.2 W) => And.intro ((X1'.below (Below.refl w2.heap.size w2).drew X1'.lt).kept k.fr (fun e => by have := Option.some.inj e; omega)) ((X2.below (Below.refl w2.heap.size w2).drew X2.lt).kept k.fr (fun e => by have := Option.some.inj e; omega)))
  have D3 := Lib.hid (fun W (k : BlockIs W w.heap.size 122 #[.pointer (some ⟨g, 0, none⟩), .slice Y bs.length cy] ∧ BlockIs W (w.heap.size + 1) 26 #[.int .i64 0, .int .i64 0, .int .i64 0]) => (k.1.kept (k.2.put3 (.int .i64 n) (.int .i64 f1.1) (.int .i64 f2.1)).2 (fun e => by have := Option.some.inj e; omega)).cell 0)
  have c0 : w2.cell? ⟨w.heap.size, 0, none⟩ = some (.pointer (some ⟨g, 0, none⟩)) := X1'.cell 0
  have Hw2 := Lib.hid hw2
  have HL := Lib.hid hgl
  have HG := Lib.hid (show w.grownBy w2.drew (some g) from G2.trans (grown_below (Below.refl _ _).drew _))
  clear h hE hl hgl e1 e2 hb1 X1 hb2 X2 X1' hw2 hb G2
  go_enter Tryz.func82, Tryz.ntmps82
  go_wp2_with fail
  rw [Hw2.out]
  go_region_held3 (fun w' => w'.cell? ⟨w.heap.size, 0, none⟩ = some (.pointer (some ⟨g, 0, none⟩))) (first | exact c0 | exact d0 | exact d2 | exact d3) (first
    | (go_at_call 83; with_reducible refine F1.out.mono ?_; rintro e w3 ⟨rfl, k1⟩; have d0 := C1.out _ k1; have HF2 := F2.out _ k1)
    | (go_at_call 83; with_reducible refine HF2.mono ?_; rintro e w4 ⟨rfl, k2⟩; have k3 := K1.out _ _ k1 k2; obtain ⟨r0, r1, r2, f0, f1', f2'⟩ := R1.out _ k3; have d2 := (R2.out _ k3).1.cell 0; have d3 := D3.out _ (R2.out _ k3)))
  rename_i hHeld
  clear hHeld c0 d0 d2 d3 r0 r1 r2 f0 f1' f2'
  have hp := (R2.out _ k3).2.put3 (.int .i64 n) (.int .i64 f1.1) (.int .i64 f2.1)
  have hg := grown_set3 (HG.out.trans k3.fr) (show w.heap.size ≤ w.heap.size + 1 by omega) (.int .i64 n) (.int .i64 f1.1) (.int .i64 f2.1)
  have hr := k3.rd.newer hp.2 (fun b e => by have := Option.some.inj e; have := HL.out; omega)
  go_wp2_with fail
  obtain ⟨z0, z1, z2, _⟩ := hp.1.three
  exact bodyPost_ret (v := .agg #[.int .i64 n, .int .i64 f1.1, .int .i64 f2.1]) (by simp [results, Tryz.results82, go_sem, z0, z1, z2]) rfl ⟨rfl, ⟨hr, hg⟩⟩
theorem rest_left (bs : List Int) (s : RSt) (h : ∀ j, s = .ok j → j ≤ bs.length) : restK bs s ≤ bs.length ∧ (bs.length : Int) - leftR bs s = (restK bs s : Int) := by
  cases s with
  | ok j =>
    have := h j rfl
    refine ⟨this, ?_⟩
    simp only [leftR, restK]; omega
  | bad p l =>
    refine ⟨Nat.le_refl _, ?_⟩
    simp only [leftR, restK]; omega
set_option maxRecDepth 100000 in
set_option maxHeartbeats 4000000 in
theorem grest_any (σ : Sen) (w : World) (g : Nat) (bs : List Int) (s : RSt) (Y : Option Addr) (cy : Nat) (h : RdAt σ w g bs s) (hl : bs.length ≤ 239) :
    Calls Tryz.prog 95 #[.agg #[.pointer (some ⟨g, 0, none⟩), .slice Y bs.length cy]] w fun e w' => e = .returned (.slice (cutAt Y cy (restK bs s)) (bs.length - restK bs s) (cy - restK bs s)) ∧ restK bs s ≤ bs.length ∧ Below w.heap.size w w' := by
  have hb1 := below_new w (.cells #[.pointer (some ⟨g, 0, none⟩), .slice Y bs.length cy] 122)
  have X1 := BlockIs.made w 122 #[.pointer (some ⟨g, 0, none⟩), .slice Y bs.length cy]
  obtain ⟨hk1, hk2⟩ := rest_left bs s (fun j e => by
    subst e
    obtain ⟨x, cap, k, ev, hI⟩ := h
    obtain ⟨rfl, _⟩ := hI.err
    exact hI.len.2.2)
  have HF := Lib.hid (rleft_any σ (w.alloc (.cells #[.pointer (some ⟨g, 0, none⟩), .slice Y bs.length cy] 122)).drew g bs s ((h.below hb1).below (Below.refl _ _).drew))
  obtain ⟨L, hL⟩ : ∃ L, leftR bs s = L := ⟨_, rfl⟩
  obtain ⟨k, hk⟩ : ∃ k, restK bs s = k := ⟨_, rfl⟩
  rw [hL] at HF hk2
  rw [hk] at hk1 hk2 ⊢
  have r1 : ∀ w, (Instr.slice 27 (.slice Y bs.length cy) (some (.int .i64 ((bs.length : Int) - L))) none none).run Tryz.prog w = .ok (.slice (cutAt Y cy k) (bs.length - k) (cy - k)) w := fun w => by rw [hk2]; exact cut_run1 Y bs.length k cy w hk1
  have r2 : ∀ w, (Instr.slice 27 (.slice Y bs.length cy) (some (.int .i64 (IntKind.i64.wrap ((bs.length : Int) - L)))) none none).run Tryz.prog w = .ok (.slice (cutAt Y cy k) (bs.length - k) (cy - k)) w := fun w => by rw [hk2, IntWalk.i64_in _ (by omega)]; exact cut_run1 Y bs.length k cy w hk1
  have HB := Lib.hid hb1
  have HK := Lib.hid hk1
  obtain ⟨w1, hw1⟩ : ∃ w1, w.alloc (.cells #[.pointer (some ⟨g, 0, none⟩), .slice Y bs.length cy] 122) = w1 := ⟨_, rfl⟩
  rw [hw1] at X1 HF HB
  have Hw1 := Lib.hid hw1
  have c0 : w1.cell? ⟨w.heap.size, 0, none⟩ = some (.pointer (some ⟨g, 0, none⟩)) := X1.cell 0
  have c1 : w1.cell? ⟨w.heap.size, 1, none⟩ = some (.slice Y bs.length cy) := X1.cell 1
  clear h hb1 X1 hL hk hw1 hk1 hk2
  go_enter Tryz.func95, Tryz.ntmps95
  go_wp2_with fail
  rw [Hw1.out]
  go_region_held3 (fun w' => w'.cell? ⟨w.heap.size, 0, none⟩ = some (.pointer (some ⟨g, 0, none⟩)) ∧ w'.cell? ⟨w.heap.size, 1, none⟩ = some (.slice Y bs.length cy)) (exact ⟨c0, c1⟩) (first
    | (go_at_call 114; refine HF.out.mono ?_; rintro e w3 ⟨rfl, m, rfl⟩))
  go_wp2_with fail
  go_ret
  exact ⟨rfl, HK.out, drewN_below HB.out _⟩
end Go.Proofs.YtpdfmpegcejmkaaGreatDoor
namespace Go.Proofs.YtpdfmpegcejmkaaGreatDoor
open Go.RowKit
theorem infoRows : (Tryz.prog.info? 27).map (fun i => (i.zero, i.size, i.bytes)) = some (some (.slice none 0 0), 1, 24) := by kernel_rfl
theorem parts_own {w : World} {B n cap : Nat} {X : Option Addr} {qs : List Part} (h : w.ownsRow B 27 1 (.slice X n cap) n (qs.map Part.val)) (hq : ∀ q ∈ qs, q.ok w) : PartsAt w X qs := by
  refine ⟨hq, fun hne => ?_⟩
  have hl : qs.length = n := by have := h.1; simpa using this
  have hn : 0 < n := by rw [← hl]; exact List.length_pos_iff.2 hne
  obtain ⟨g, c, e, _⟩ := own_form h hn
  obtain ⟨rfl, rfl⟩ : X = some ⟨g, 0, none⟩ ∧ cap = c := by simpa using e
  refine ⟨g, 0, rfl, fun i p hp => ?_⟩
  have hi : i < qs.length := (List.getElem?_eq_some_iff.1 hp).1
  rw [Nat.zero_add, h.cellAt i (by omega), List.getElem?_map, hp]; rfl
theorem chain_len {w : World} {S : Nat → Prop} : ∀ {p : Option Addr} {l : List (List Int)}, Chain w S p l → l.length ≤ l.reverse.flatten.length
  | _, [], _ => Nat.zero_le _
  | _, zs :: l, ⟨_, _, _, _, _, _, _, hn, _, _, _, _, h⟩ => by
    have h1 := chain_len h
    have h2 : 0 < zs.length := List.length_pos_iff.2 hn
    simp only [List.length_cons, List.reverse_cons, List.flatten_append, List.length_append, List.flatten_cons, List.flatten_nil, List.length_nil]
    omega
theorem bytesOf_flat (qs : List Part) : bytesOf qs = (qs.map Part.zs).flatten := by unfold bytesOf; rw [List.flatMap_def]
set_option maxRecDepth 100000 in
theorem wbytes_nil (w : World) :
    Calls Tryz.prog 104 #[.pointer none] w fun e w' => e = .returned (.tuple #[.slice none 0 0, .bool false]) ∧ w = w' := by
  go_enter Tryz.func104, Tryz.ntmps104
  go_wp2_with fail
  refine (whole_nil w).mono ?_
  rintro e w' ⟨rfl, rfl⟩
  go_wp2_with fail
  go_ret2
  exact ⟨rfl, rfl⟩
set_option maxRecDepth 100000 in
theorem wbytes_no (w : World) (S : Nat → Prop) (g : Nat) (h : WrAt w S g none) :
    Calls Tryz.prog 104 #[.pointer (some ⟨g, 0, none⟩)] w fun e w' => e = .returned (.tuple #[.slice none 0 0, .bool false]) ∧ w = w' := by
  obtain ⟨p, hb⟩ := h.isBlock
  go_enter Tryz.func104, Tryz.ntmps104
  go_wp2_with fail
  refine (whole_is w g p true hb).mono ?_
  rintro e w' ⟨rfl, rfl⟩
  go_wp2_with fail
  go_ret2
  exact ⟨rfl, rfl⟩
set_option maxRecDepth 100000 in
set_option maxHeartbeats 4000000 in
theorem wbytes_some (w : World) (S : Nat → Prop) (g : Nat) (bs : List Int) (h : WrAt w S g (some bs)) (hl : bs.length ≤ 1000000) :
    Calls Tryz.prog 104 #[.pointer (some ⟨g, 0, none⟩)] w fun e w' => ∃ v, e = .returned (.tuple #[v, .bool true]) ∧ w'.ownsRow w.heap.size 5 1 v bs.length (u8s bs) ∧ Below w.heap.size w w' := by
  obtain ⟨i0, hi, hz0, hz1, hz2⟩ := info_parts infoRows
  obtain ⟨p, l, hb, hch, hbs⟩ := h.cells
  have hll := chain_len hch
  rw [← hbs] at hll
  have c0 : w.cell? ⟨g, 0, none⟩ = some (.pointer p) := hb.cell 0
  have Hbs := Lib.hid hbs
  have Hch := Lib.hid hch
  clear hbs hch h
  go_enter Tryz.func104, Tryz.ntmps104
  go_wp2_with fail
  refine (whole_is w g p false hb).mono ?_
  rintro e w' ⟨rfl, rfl⟩
  clear hb
  go_wp2_with fail
  go_loopg [4, 5] l.length (fun gg v q wx => ∃ (A : Option Addr) (todo : List (List Int)) (qs : List Part), gg = todo.length ∧ q = .pointer A ∧ Chain w S A todo ∧ wx.ownsRow w.heap.size 27 1 v qs.length (qs.map Part.val) ∧ Hid (qs.map Part.zs ++ todo = l) ∧ Hid (∀ q ∈ qs, q.ok w ∧ q.A ≠ none) ∧ Below w.heap.size w wx)
  case atStart => exact ⟨p, l, [], rfl, rfl, Hch.out, World.ownsRow_nil _ _ _ _, Lib.hid rfl, Lib.hid (fun q hq => by cases hq), Below.refl _ _⟩
  case round =>
    obtain ⟨A, todo, qs, hgk, rfl, hc, hown, hsum, hok, hb⟩ := hrel
    cases todo with
    | nil =>
      obtain rfl : A = none := hc
      have hql : qs.length ≤ 1000000 := by
        have := congrArg List.length hsum.out
        simp only [List.length_append, List.length_map, List.length_nil] at this
        omega
      have hbq : bytesOf qs.reverse = bs := by
        rw [bytesOf_flat, List.map_reverse, Hbs.out, ← hsum.out, List.append_nil]
      have htq : total qs.reverse = bs.length := by rw [← bytesOf_len, hbq]
      have Hbq := Lib.hid (And.intro hbq htq)
      have Hown := Lib.hid hown
      clear hbq htq hgk
      go_wp2_with fail
      refine (reverse_any wr w.heap.size qs.length u4 (qs.map Part.val) Hown.out (by omega) (fun x hx => by
        obtain ⟨q, _, rfl⟩ := List.mem_map.1 hx
        exact ⟨_, _, _, rfl⟩)).mono ?_
      rintro e w4 ⟨rfl, hown4, hgrow4⟩
      have hb4 : Below w.heap.size w w4 := hb.grown hgrow4 hb.size (fun k e => (Hown.out.lt k e).1)
      rw [← List.map_reverse] at hown4
      obtain ⟨X, cap, rfl, _⟩ := own_slice hown4
      have hparts := parts_own (qs := qs.reverse) hown4 (fun q hq => ((hok.out q (List.mem_reverse.1 hq)).1).below hb4)
      have HC := Lib.hid (concat_any w4 qs.reverse X cap hparts (by rw [List.length_reverse]; omega) (by rw [Hbq.out.2]; omega) (fun q hq => (hok.out q (List.mem_reverse.1 hq)).2))
      rw [List.length_reverse] at HC
      clear hparts hown4
      go_wp2_with fail
      refine HC.out.mono ?_
      rintro e w5 ⟨v, rfl, hown5, hb5⟩
      have hs4 := hb4.size
      have hown6 := own_same (m := bs.length) (ys := u8s bs) hown5 Hbq.out.2 (by rw [Hbq.out.1])
      have hown7 := own_mono hown6 hs4
      have hb6 := hb4.trans (hb5.mono hs4)
      clear hown5 hown6
      go_wp2_with fail
      go_ret2
      exact ⟨_, rfl, hown7, hb6⟩
    | cons zs rest =>
      obtain ⟨gp, ahead, x, cap, rfl, hS1, hS2, hn, hcap, hcm, hB, hz, hrest⟩ := hc
      have hqn : qs.length + 1 ≤ 1000000 := by
        have := congrArg List.length hsum.out
        simp only [List.length_append, List.length_map, List.length_cons] at this
        omega
      have hBx := hB.below hb hB.lt
      have d0 : wr.cell? ⟨gp, 0, none⟩ = some (.pointer ahead) := hBx.cell 0
      have d1 : wr.cell? ⟨gp, 1, none⟩ = some (.slice (some ⟨x, 0, none⟩) zs.length cap) := hBx.cell 1
      have Hz := Lib.hid hz
      have Hgk := Lib.hid hgk
      have Hn := Lib.hid hn
      have Hrest := Lib.hid hrest
      have hszb := hb.size
      have HB := Lib.hid hB
      clear hz hgk hn hrest hB hBx
      go_wp2_with (at_builtin; refine wpList_append_own _ rfl _ _ 28 rfl w.heap.size 27 i0 (.slice none 0 0) 1 24 Tryz.underlying28 hi hz0 hz1 hz2 rfl (by decide) _ _ _ rfl (hown.alloc _) ⟨wr.heap.size, 0, none⟩ 1 1 [.slice (some ⟨x, 0, none⟩) zs.length cap] rfl rfl (cell_one_new _ _ _) ?c3 ?c4 ?c5 ?c6 ?_)
      case c3 => intro u hu; rw [List.mem_singleton.1 hu]; rfl
      case c4 => unfold maxLen; omega
      case c5 => omega
      case c6 => simp; omega
      intro v3 w3 hown3 hgrow3 _
      have hb3 := (hb.alloc hszb (.cells #[.slice (some ⟨x, 0, none⟩) zs.length cap] 27)).grown hgrow3 (by simp; omega) (fun j e => (hown.lt j e).1)
      have d2 : w3.cell? ⟨gp, 0, none⟩ = some (.pointer ahead) := (HB.out.below hb3 HB.out.lt).cell 0
      clear d0 d1
      go_wp2_with fail
      go_roundg rest.length
      case measure => rw [Hgk.out]; simp
      case rel => exact ⟨ahead, rest, qs ++ [⟨some ⟨x, 0, none⟩, zs, cap⟩], rfl, rfl, Hrest.out, own_same hown3 (by simp) (by simp [Part.val]), Lib.hid (by rw [List.map_append, List.append_assoc]; exact hsum.out), Lib.hid (fun q hq => by
          rcases List.mem_append.1 hq with h | h
          · exact hok.out q h
          · obtain rfl := List.mem_singleton.1 h
            exact ⟨⟨Hz.out, hcap, hcm⟩, by simp⟩), hb3⟩
end Go.Proofs.YtpdfmpegcejmkaaGreatDoor
namespace Go.Proofs.YtpdfmpegcejmkaaGreatDoor
open Go.RowKit
/-- Fields in memory: how wide each is, its number. -/
def FieldsAt (w : World) (b off : Nat) (fs : List (Int × Int)) : Prop := ∀ k f, fs[k]? = some f → w.cell? ⟨b, off + k * 2, none⟩ = some (.int .i64 f.1) ∧ w.cell? ⟨b, off + k * 2 + 1, none⟩ = some (.int .i64 f.2)
theorem FieldsAt.below {w w' : World} {b off : Nat} {fs : List (Int × Int)} (h : FieldsAt w b off fs) (hb : Below w.heap.size w w') : FieldsAt w' b off fs := fun k f hk => ⟨cell_below (h k f hk).1 hb, cell_below (h k f hk).2 hb⟩
def fieldBytes (fs : List (Int × Int)) : List Int := fs.flatMap fun f => le f.1.toNat f.2
theorem fieldBytes_snoc (fs : List (Int × Int)) (k : Nat) (f : Int × Int) (h : fs[k]? = some f) : fieldBytes (fs.take (k + 1)) = fieldBytes (fs.take k) ++ le f.1.toNat f.2 := by
  unfold fieldBytes
  rw [List.take_add_one, h]; simp
set_option maxRecDepth 100000 in
set_option maxHeartbeats 2000000 in
theorem laid_any (w : World) (b off : Nat) (fs : List (Int × Int)) (c : Nat) (hA : FieldsAt w b off fs) (hok : ∀ f ∈ fs, 0 ≤ top f.1 ∧ 0 ≤ f.2 ∧ f.2 ≤ top f.1) (hl : fs.length ≤ 1000) (hlen : (fieldBytes fs).length ≤ 1000000) :
    Calls Tryz.prog 132 #[.slice (some ⟨b, off, none⟩) fs.length c] w fun e w' => ∃ v, e = .returned v ∧ w'.ownsRow w.heap.size 5 1 v (fieldBytes fs).length (u8s (fieldBytes fs)) ∧ Below w.heap.size w w' := by
  have hbn := below_new w (.cells #[.pointer none, .bool false] 114)
  have hB := BlockIs.made w 114 #[.pointer none, .bool false]
  have H0 := Lib.hid (And.intro hbn hB)
  have HA := Lib.hid hA
  have Hok := Lib.hid hok
  clear hbn hB hA hok
  go_enter Tryz.func132, Tryz.ntmps132
  go_wp2_with fail
  go_loopg [5, 10] fs.length (fun gk _ i wx => ∃ k : Nat, gk = fs.length - k ∧ k ≤ fs.length ∧ i = .int .i64 (k : Int) ∧ Hid (∃ S, WrAt wx S w.heap.size (some (fieldBytes (fs.take k))) ∧ Below w.heap.size w wx))
  case atStart => exact ⟨0, rfl, Nat.zero_le _, rfl, Lib.hid ⟨fun _ => False, ⟨fun _ h => h.elim, ⟨none, [], H0.out.2, rfl, rfl⟩⟩, H0.out.1⟩⟩
  case round =>
    obtain ⟨k, hgk, hk, rfl, hK⟩ := hrel
    have Hgk := Lib.hid hgk
    clear hgk
    obtain ⟨S, hW, hbe⟩ := hK.out
    have HW := Lib.hid (And.intro hW hbe)
    clear hK hW hbe
    by_cases hlt : k < fs.length
    · have hq : fs[k]? = some fs[k] := List.getElem?_eq_getElem hlt
      have hm : fs[k] ∈ fs := List.getElem_mem hlt
      obtain ⟨c0, c1⟩ := HA.out.below HW.out.2 k _ hq
      have Hs := Lib.hid (fieldBytes_snoc fs k _ hq)
      have Hf := Lib.hid (Hok.out _ hm)
      clear hq hm
      generalize fs[k] = f at *
      obtain ⟨wd, n⟩ := f
      simp only at c0 c1
      have hb1 := below_new wr (.cells #[.int .i64 wd, .int .i64 n] 188)
      have hb2 := hb1.alloc hb1.size (.cells #[.int .i64 n] 3)
      have hn : ∀ z ∈ [n], -9223372036854775808 ≤ z ∧ z ≤ 9223372036854775807 := fun z hz => by
        obtain rfl := List.mem_singleton.1 hz
        have h1 := Hf.out.2.1
        have h2 := Hf.out.2.2
        simp only at h1 h2
        rcases top_cases wd with ⟨_, t⟩ | ⟨_, t⟩ | ⟨_, t⟩ | ⟨_, t⟩ | ⟨_, _, _, _, t⟩ <;> omega
      have HF : Hid (Calls Tryz.prog 75 #[.pointer (some ⟨w.heap.size, 0, none⟩), .int .i64 wd, .slice (some ⟨wr.heap.size + 1, 0, none⟩) 1 1] ((wr.alloc (.cells #[.int .i64 wd, .int .i64 n] 188)).alloc (.cells #[.int .i64 n] 3)) fun e w' => e = .returned (.tuple #[]) ∧
          Put ((wr.alloc (.cells #[.int .i64 wd, .int .i64 n] 188)).alloc (.cells #[.int .i64 n] 3)) S w.heap.size (some (fieldBytes (fs.take k) ++ le wd.toNat n)) w') := by
        have h := field_any _ S w.heap.size _ (HW.out.1.below hb2) wd _ 1 [n] (intsAt_lit (wr.alloc (.cells #[.int .i64 wd, .int .i64 n] 188)) [n] hn) (by simp)
        rw [fieldsB_one wd n Hf.out.1 Hf.out.2.1 Hf.out.2.2] at h
        simp only [World.size_alloc] at h
        exact Lib.hid h
      have Hb2 := Lib.hid hb2
      clear hb1 hb2 hn
      go_wp2_with fail
      refine HF.out.mono ?_
      rintro e w3 ⟨rfl, hP⟩
      go_wp2_with fail
      go_roundg (fs.length - (k + 1))
      case measure => rw [Hgk.out]; omega
      case rel =>
        refine ⟨k + 1, rfl, by omega, by go_num, Lib.hid ⟨_, by rw [Hs.out]; exact hP.wr, ?_⟩⟩
        have hbe := HW.out.2.trans (Hb2.out.mono HW.out.2.size)
        exact below_grown hbe hP.fr hbe.size (Nat.le_refl _)
    · obtain rfl : k = fs.length := by omega
      rw [List.take_length] at HW
      have HB := Lib.hid (wbytes_some _ S w.heap.size _ HW.out.1 hlen)
      go_wp2_with fail
      refine HB.out.mono ?_
      rintro e w3 ⟨v, rfl, ho, hb3⟩
      have Ho := Lib.hid ho
      clear ho
      go_wp2_with fail
      go_ret
      exact ⟨v, rfl, own_mono Ho.out HW.out.2.size, HW.out.2.trans (hb3.mono HW.out.2.size)⟩
end Go.Proofs.YtpdfmpegcejmkaaGreatDoor
