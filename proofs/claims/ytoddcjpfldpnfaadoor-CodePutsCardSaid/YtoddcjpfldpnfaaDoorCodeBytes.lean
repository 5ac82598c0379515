/- A writer's bytes. -/
import Derived.Test.YtoddcjpfldpnfaaDoorCodeConcat
namespace Go.Proofs.YtoddcjpfldpnfaaDoor
open Go.RowKit
theorem infoRows : (Tryd.prog.info? 25).map (fun i => (i.zero, i.size, i.bytes)) = some (some (.slice none 0 0), 1, 24) := by kernel_rfl
theorem parts_own {w : World} {B n cap : Nat} {X : Option Addr} {qs : List Part} (h : w.ownsRow B 25 1 (.slice X n cap) n (qs.map Part.val)) (hq : ∀ q ∈ qs, q.ok w) : PartsAt w X qs := by
  refine ⟨hq, fun hne => ?_⟩
  have hl : qs.length = n := by have := h.1; simpa using this
  have hn : 0 < n := by rw [← hl]; exact List.length_pos_iff.2 hne
  obtain ⟨g, c, e, _⟩ := own_form h hn
  obtain ⟨rfl, rfl⟩ : X = some ⟨g, 0, none⟩ ∧ cap = c := by simpa using e
  refine ⟨g, 0, rfl, fun i p hp => ?_⟩
  have hi : i < qs.length := (List.getElem?_eq_some_iff.1 hp).1
  rw [Nat.zero_add, h.cellAt i (by omega), List.getElem?_map, hp]; rfl
theorem chain_len {w : World} {S : Nat → Prop} : ∀ {p : Option Addr} {l : List (List Int)}, Chain w S p l → l.length ≤ l.reverse.flatten.length
  | _, [], _ => Nat.zero_le _
  | _, zs :: l, ⟨_, _, _, _, _, _, _, hn, _, _, _, _, h⟩ => by
    have h1 := chain_len h
    have h2 : 0 < zs.length := List.length_pos_iff.2 hn
    simp only [List.length_cons, List.reverse_cons, List.flatten_append, List.length_append, List.flatten_cons, List.flatten_nil, List.length_nil]
    omega
theorem bytesOf_flat (qs : List Part) : bytesOf qs = (qs.map Part.zs).flatten := by unfold bytesOf; rw [List.flatMap_def]
set_option maxRecDepth 100000 in
theorem wbytes_nil (w : World) :
    Calls Tryd.prog 10 #[.pointer none] w fun e w' => e = .returned (.tuple #[.slice none 0 0, .bool false]) ∧ w = w' := by
  go_enter Tryd.func10, Tryd.ntmps10
  go_wp2_with fail
  refine (whole_nil w).mono ?_
  rintro e w' ⟨rfl, rfl⟩
  go_wp2_with fail
  go_ret2
  exact ⟨rfl, rfl⟩
set_option maxRecDepth 100000 in
theorem wbytes_no (w : World) (S : Nat → Prop) (g : Nat) (h : WrAt w S g none) :
    Calls Tryd.prog 10 #[.pointer (some ⟨g, 0, none⟩)] w fun e w' => e = .returned (.tuple #[.slice none 0 0, .bool false]) ∧ w = w' := by
  obtain ⟨p, hb⟩ := h.isBlock
  go_enter Tryd.func10, Tryd.ntmps10
  go_wp2_with fail
  refine (whole_is w g p true hb).mono ?_
  rintro e w' ⟨rfl, rfl⟩
  go_wp2_with fail
  go_ret2
  exact ⟨rfl, rfl⟩
set_option maxRecDepth 100000 in
set_option maxHeartbeats 4000000 in
theorem wbytes_some (w : World) (S : Nat → Prop) (g : Nat) (bs : List Int) (h : WrAt w S g (some bs)) (hl : bs.length ≤ 1000000) :
    Calls Tryd.prog 10 #[.pointer (some ⟨g, 0, none⟩)] w fun e w' => ∃ v, e = .returned (.tuple #[v, .bool true]) ∧ w'.ownsRow w.heap.size 5 1 v bs.length (u8s bs) ∧ Below w.heap.size w w' := by
  obtain ⟨i0, hi, hz0, hz1, hz2⟩ := info_parts infoRows
  obtain ⟨p, l, hb, hch, hbs⟩ := h.cells
  have hll := chain_len hch
  rw [← hbs] at hll
  have c0 : w.cell? ⟨g, 0, none⟩ = some (.pointer p) := hb.cell 0
  have Hbs := Lib.hid hbs
  have Hch := Lib.hid hch
  clear hbs hch h
  go_enter Tryd.func10, Tryd.ntmps10
  go_wp2_with fail
  refine (whole_is w g p false hb).mono ?_
  rintro e w' ⟨rfl, rfl⟩
  clear hb
  go_wp2_with fail
  go_loopg [4, 5] l.length (fun gg v q wx => ∃ (A : Option Addr) (todo : List (List Int)) (qs : List Part), gg = todo.length ∧ q = .pointer A ∧ Chain w S A todo ∧ wx.ownsRow w.heap.size 25 1 v qs.length (qs.map Part.val) ∧ Hid (qs.map Part.zs ++ todo = l) ∧ Hid (∀ q ∈ qs, q.ok w ∧ q.A ≠ none) ∧ Below w.heap.size w wx)
  case atStart => exact ⟨p, l, [], rfl, rfl, Hch.out, World.ownsRow_nil _ _ _ _, Lib.hid rfl, Lib.hid (fun q hq => by cases hq), Below.refl _ _⟩
  case round =>
    obtain ⟨A, todo, qs, hgk, rfl, hc, hown, hsum, hok, hb⟩ := hrel
    cases todo with
    | nil =>
      obtain rfl : A = none := hc
      have hql : qs.length ≤ 1000000 := by
        have := congrArg List.length hsum.out
        simp only [List.length_append, List.length_map, List.length_nil] at this
        omega
      have hbq : bytesOf qs.reverse = bs := by
        rw [bytesOf_flat, List.map_reverse, Hbs.out, ← hsum.out, List.append_nil]
      have htq : total qs.reverse = bs.length := by rw [← bytesOf_len, hbq]
      have Hbq := Lib.hid (And.intro hbq htq)
      have Hown := Lib.hid hown
      clear hbq htq hgk
      go_wp2_with fail
      refine (reverse_any wr w.heap.size qs.length u4 (qs.map Part.val) Hown.out (by omega) (fun x hx => by
        obtain ⟨q, _, rfl⟩ := List.mem_map.1 hx
        exact ⟨_, _, _, rfl⟩)).mono ?_
      rintro e w4 ⟨rfl, hown4, hgrow4⟩
      have hb4 : Below w.heap.size w w4 := hb.grown hgrow4 hb.size (fun k e => (Hown.out.lt k e).1)
      rw [← List.map_reverse] at hown4
      obtain ⟨X, cap, rfl, _⟩ := own_slice hown4
      have hparts := parts_own (qs := qs.reverse) hown4 (fun q hq => ((hok.out q (List.mem_reverse.1 hq)).1).below hb4)
      have HC := Lib.hid (concat_any w4 qs.reverse X cap hparts (by rw [List.length_reverse]; omega) (by rw [Hbq.out.2]; omega) (fun q hq => (hok.out q (List.mem_reverse.1 hq)).2))
      rw [List.length_reverse] at HC
      clear hparts hown4
      go_wp2_with fail
      refine HC.out.mono ?_
      rintro e w5 ⟨v, rfl, hown5, hb5⟩
      have hs4 := hb4.size
      have hown6 := own_same (m := bs.length) (ys := u8s bs) hown5 Hbq.out.2 (by rw [Hbq.out.1])
      have hown7 := own_mono hown6 hs4
      have hb6 := hb4.trans (hb5.mono hs4)
      clear hown5 hown6
      go_wp2_with fail
      go_ret2
      exact ⟨_, rfl, hown7, hb6⟩
    | cons zs rest =>
      obtain ⟨gp, ahead, x, cap, rfl, hS1, hS2, hn, hcap, hcm, hB, hz, hrest⟩ := hc
      have hqn : qs.length + 1 ≤ 1000000 := by
        have := congrArg List.length hsum.out
        simp only [List.length_append, List.length_map, List.length_cons] at this
        omega
      have hBx := hB.below hb hB.lt
      have d0 : wr.cell? ⟨gp, 0, none⟩ = some (.pointer ahead) := hBx.cell 0
      have d1 : wr.cell? ⟨gp, 1, none⟩ = some (.slice (some ⟨x, 0, none⟩) zs.length cap) := hBx.cell 1
      have Hz := Lib.hid hz
      have Hgk := Lib.hid hgk
      have Hn := Lib.hid hn
      have Hrest := Lib.hid hrest
      have hszb := hb.size
      have HB := Lib.hid hB
      clear hz hgk hn hrest hB hBx
      go_wp2_with (at_builtin; refine wpList_append_own _ rfl _ _ 67 rfl w.heap.size 25 i0 (.slice none 0 0) 1 24 Tryd.underlying67 hi hz0 hz1 hz2 rfl (by decide) _ _ _ rfl (hown.alloc _) ⟨wr.heap.size, 0, none⟩ 1 1 [.slice (some ⟨x, 0, none⟩) zs.length cap] rfl rfl (cell_one_new _ _ _) ?c3 ?c4 ?c5 ?c6 ?_)
      case c3 => intro u hu; rw [List.mem_singleton.1 hu]; rfl
      case c4 => unfold maxLen; omega
      case c5 => omega
      case c6 => simp; omega
      intro v3 w3 hown3 hgrow3 _
      have hb3 := (hb.alloc hszb (.cells #[.slice (some ⟨x, 0, none⟩) zs.length cap] 25)).grown hgrow3 (by simp; omega) (fun j e => (hown.lt j e).1)
      have d2 : w3.cell? ⟨gp, 0, none⟩ = some (.pointer ahead) := (HB.out.below hb3 HB.out.lt).cell 0
      clear d0 d1
      go_wp2_with fail
      go_roundg rest.length
      case measure => rw [Hgk.out]; simp
      case rel => exact ⟨ahead, rest, qs ++ [⟨some ⟨x, 0, none⟩, zs, cap⟩], rfl, rfl, Hrest.out, own_same hown3 (by simp) (by simp [Part.val]), Lib.hid (by rw [List.map_append, List.append_assoc]; exact hsum.out), Lib.hid (fun q hq => by
          rcases List.mem_append.1 hq with h | h
          · exact hok.out q h
          · obtain rfl := List.mem_singleton.1 h
            exact ⟨⟨Hz.out, hcap, hcm⟩, by simp⟩), hb3⟩
end Go.Proofs.YtoddcjpfldpnfaaDoor
