/- A writer's texts. -/
import Derived.Test.YtoddcjpfldpnfaaDoorCodeClone
namespace Go.Proofs.YtoddcjpfldpnfaaDoor
open Go.RowKit
/-- Bytes never lie in a writer's own block. -/
theorem BytesAt.farW {w w' : World} {g : Nat} {p : Option Addr} {b : Bool} {A : Option Addr} {zs : List Int} (hz : BytesAt w A zs) (hb : BlockIs w g 32 #[.pointer p, .bool b]) (hg : w.grownBy w' (some g)) : BytesAt w' A zs :=
  ⟨hz.1, fun hne => by
    obtain ⟨x, off, e, hc⟩ := hz.2 hne
    have hxg : x ≠ g := by
      rintro rfl
      have h1 := hc 0 (List.length_pos_iff.2 hne)
      rw [hb.cell] at h1
      match off + 0, h1 with
      | 0, h1 => simp at h1
      | 1, h1 => simp at h1
      | n + 2, h1 => simp at h1
    exact ⟨x, off, e, fun i hi => hg.cell (hc i hi) (by simpa using hxg)⟩⟩
set_option maxRecDepth 100000 in
set_option maxHeartbeats 1000000 in
theorem wtext_any (w : World) (S : Nat → Prop) (g : Nat) (s : Option (List Int)) (h : WrAt w S g s) (zs : List Int) (A : Option Addr) (c : Nat) (hz : BytesAt w A zs) (hl : zs.length ≤ 140737488351232) (hA : A = none → c = 0) :
    Calls Tryd.prog 22 #[.pointer (some ⟨g, 0, none⟩), .slice A zs.length c] w fun e w' => e = .returned (.tuple #[]) ∧ Put w S g (putO s (textB zs)) w' := by
  have hlt := h.lt
  have Hfoot := Lib.hid h.foot
  have hbn := below_new w (.cells #[.int .i64 (zs.length : Int)] 3)
  have HF := Lib.hid (field_any (w.alloc (.cells #[.int .i64 (zs.length : Int)] 3)) S g s (h.below hbn) 2 (some ⟨w.heap.size, 0, none⟩) 1 [(zs.length : Int)] (intsAt_lit w [(zs.length : Int)] (by simp; omega)) (by simp))
  have Hz := Lib.hid (hz.below hbn)
  obtain ⟨p, hb⟩ := (h.below hbn).isBlock
  have Hb := Lib.hid hb
  clear h hz hb
  go_enter Tryd.func22, Tryd.ntmps22
  go_wp2_with fail
  refine HF.out.mono ?_
  rintro e w2 ⟨rfl, hP⟩
  have hz2 := Hz.out.farW Hb.out hP.fr
  have hP0 : Put w S g (putO s (fieldsB 2 [(zs.length : Int)])) w2 := Put.after hbn hP Hfoot.out hlt
  clear hP Hz Hb HF
  obtain ⟨p2, hb2⟩ := hP0.wr.isBlock
  go_wp2_with fail
  refine (whole_is w2 g p2 _ hb2).mono ?_
  rintro e w' ⟨rfl, rfl⟩
  cases hs : putO s (fieldsB 2 [(zs.length : Int)]) with
  | none =>
    rw [hs] at hP0
    have hN : putO s (textB zs) = none := by rw [textB_put, ← putO_assoc, hs]; rfl
    have HN := Lib.hid hN
    clear hs hN hb2
    go_wp2_with fail
    go_end0
    exact ⟨rfl, by rw [HN.out]; exact hP0⟩
  | some bs =>
    rw [hs] at hP0
    have hN : putO s (textB zs) = some (bs ++ zs) := by rw [textB_put, ← putO_assoc, hs]; rfl
    have HN := Lib.hid hN
    have HC := Lib.hid (clone_any w2 zs A c hz2 hl hA)
    clear hs hN hb2
    go_wp2_with fail
    refine HC.out.mono ?_
    rintro e w3 ⟨v, rfl, hown, hb3⟩
    have hW3 := hP0.wr.below hb3
    have hg02 := hP0.fr.size
    have hb3s := hb3.size
    by_cases hn : zs = []
    · subst hn
      obtain ⟨X, cap, rfl, _⟩ := own_slice hown
      go_wp2_with fail
      refine (add_none w3 _ X cap _ rfl).mono ?_
      rintro e w' ⟨rfl, rfl⟩
      go_wp2_with fail
      go_end0
      exact ⟨rfl, by rw [HN.out, List.append_nil]; exact ⟨hW3.mono (fun k hk => hk.imp id fun h => ⟨h.1, by omega⟩) (grow_foot Hfoot.out hlt (by omega)), hP0.fr.trans (grown_below hb3 _)⟩⟩
    · have hpos : 0 < zs.length := List.length_pos_iff.2 hn
      obtain ⟨x, cap, rfl, hx1, hx2, hx3, hx4⟩ := own_form hown hpos
      have HA := Lib.hid (add_some w3 _ g bs zs x cap hW3 (own_bytes hown hz2.1) hn (by omega) hx2 hx3 hx4)
      have Hn := Lib.hid hn
      clear hn hown
      go_wp2_with fail
      refine HA.out.mono ?_
      rintro e w4 ⟨rfl, hP4⟩
      go_wp2_with fail
      go_end0
      have h34 := hP4.fr.size
      exact ⟨rfl, by
        rw [HN.out]
        exact ⟨hP4.wr.mono (by
          rintro k (((h | h) | rfl) | h)
          · exact .inl h
          · exact .inr ⟨h.1, by omega⟩
          · exact .inr ⟨by omega, by omega⟩
          · exact .inr ⟨by omega, h.2⟩) (grow_foot Hfoot.out hlt (by omega)), (hP0.fr.trans (grown_below hb3 _)).trans hP4.fr⟩⟩
end Go.Proofs.YtoddcjpfldpnfaaDoor
