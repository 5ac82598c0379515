/- A writer's own small calls: spoil, add. -/
import Derived.Test.YtoddcjpfldpnfaaDoorCodeBase
namespace Go.Proofs.YtoddcjpfldpnfaaDoor
open Go.RowKit
theorem spoil_any (w : World) (S : Nat → Prop) (g : Nat) (s : Option (List Int)) (h : WrAt w S g s) :
    Calls Tryd.prog 53 #[.pointer (some ⟨g, 0, none⟩)] w fun e w' => e = .returned (.tuple #[]) ∧ Put w S g none w' := by
  obtain ⟨p, hb⟩ := h.isBlock
  generalize s.isNone = b at hb
  have c0 : w.cell? ⟨g, 0, none⟩ = some (.pointer p) := hb.cell 0
  have c1 : w.cell? ⟨g, 1, none⟩ = some (.bool b) := hb.cell 1
  have f0 := hb.free 0
  have f1 := hb.free 1
  have hg : w.grownBy ((w.setCell ⟨g, 0, none⟩ (.pointer none)).setCell ⟨g, 1, none⟩ (.bool true)) (some g) := grown_at (grown_at (World.grownBy.refl _ _) _ _) _ _
  have hP : Put w S g none ((w.setCell ⟨g, 0, none⟩ (.pointer none)).setCell ⟨g, 1, none⟩ (.bool true)) := ⟨⟨grow_foot h.foot h.lt hg.size, ⟨none, (hb.set1 0 (.pointer none)).set1 1 (.bool true)⟩⟩, hg⟩
  clear hb h hg
  go_enter Tryd.func53, Tryd.ntmps53
  go_wp2
  go_end0
  exact ⟨rfl, hP⟩
theorem add_some (w : World) (S : Nat → Prop) (g : Nat) (bs zs : List Int) (x cap : Nat) (h : WrAt w S g (some bs)) (hz : BytesAt w (some ⟨x, 0, none⟩) zs) (hn : zs ≠ []) (hxg : x ≠ g) (hxl : x < w.heap.size)
    (hc : zs.length ≤ cap) (hm : cap ≤ 9223372036854775807) :
    Calls Tryd.prog 55 #[.pointer (some ⟨g, 0, none⟩), .slice (some ⟨x, 0, none⟩) zs.length cap] w fun e w' => e = .returned (.tuple #[]) ∧ Put w (fun k => S k ∨ k = x) g (some (bs ++ zs)) w' := by
  obtain ⟨p, l, hb, hch, hbs⟩ := h.cells
  have hfoot := Lib.hid h.foot
  have c0 : w.cell? ⟨g, 0, none⟩ = some (.pointer p) := hb.cell 0
  have f0 := hb.free 0
  have hA := fun o => (World.cell?_alloc_lt w o ⟨g, 0, none⟩ hb.lt).trans c0
  have fA := fun o => (World.frozen?_alloc_old w o ⟨g, 0, none⟩ (Nat.ne_of_lt hb.lt)).trans f0
  have hpos : 0 < zs.length := List.length_pos_iff.2 hn
  have Hb := Lib.hid hb
  have Hbs := Lib.hid hbs
  clear hb hbs h
  go_enter Tryd.func55, Tryd.ntmps55
  go_wp2
  go_end0
  generalize hW : w.alloc (.cells #[.pointer p, .slice (some ⟨x, 0, none⟩) zs.length cap] 71) = W
  have hsz : W.heap.size = w.heap.size + 1 := by rw [← hW]; simp
  have hlt := Hb.out.lt
  have g1 : w.grownBy W none := by rw [← hW]; exact World.grownBy_alloc _ _ _
  have g2 : W.grownBy (W.setCell ⟨g, 0, none⟩ (.pointer (some ⟨w.heap.size, 0, none⟩))) (some g) := grown_at (World.grownBy.refl _ _) _ _
  have b1 : BlockIs W w.heap.size 71 #[.pointer p, .slice (some ⟨x, 0, none⟩) zs.length cap] := by rw [← hW]; exact BlockIs.made _ _ _
  have hch2 : Chain (W.setCell ⟨g, 0, none⟩ (.pointer (some ⟨w.heap.size, 0, none⟩))) S p l := (hch.kept g1 (fun _ _ => by simp)).kept g2 (fun k hk e => (hfoot.out k hk).1 (by simpa using e))
  have hxz : BytesAt (W.setCell ⟨g, 0, none⟩ (.pointer (some ⟨w.heap.size, 0, none⟩))) (some ⟨x, 0, none⟩) zs := (hz.far g1 (fun _ _ => by simp)).far g2 (fun a e he => by cases e; exact hxg (by simpa using he))
  have hfr : w.grownBy (W.setCell ⟨g, 0, none⟩ (.pointer (some ⟨w.heap.size, 0, none⟩))) (some g) := (g1.but _).trans g2
  have hfoot2 : ∀ k, (S k ∨ k = x) → k ≠ g ∧ k < w.heap.size := by
    rintro k (hk | rfl)
    · exact hfoot.out k hk
    · exact ⟨hxg, hxl⟩
  refine ⟨rfl, ⟨⟨grow_foot hfoot2 hlt hfr.size, ⟨some ⟨w.heap.size, 0, none⟩, zs :: l, ((Hb.out.kept g1 (by simp)).set1 0 _), ⟨w.heap.size, p, x, cap, rfl, ?_, ?_, hn, hc, hm, ?_, hxz, ?_⟩, ?_⟩⟩, hfr⟩⟩
  · exact .inr ⟨Nat.le_refl _, by simp [World.setCell, hsz]⟩
  · exact .inl (.inr rfl)
  · exact b1.kept g2 (by simp; omega)
  · exact hch2.mono (fun k hk => .inl (.inl hk))
  · rw [Hbs.out]; simp
theorem add_none (w : World) (v : Value) (X : Option Addr) (cap : Nat) (q : Value) (hv : v = .slice X 0 cap) :
    Calls Tryd.prog 55 #[q, v] w fun e w' => e = .returned (.tuple #[]) ∧ w = w' := by
  subst hv
  go_enter Tryd.func55, Tryd.ntmps55
  go_wp2
  go_end0
  exact ⟨rfl, rfl⟩
end Go.Proofs.YtoddcjpfldpnfaaDoor
