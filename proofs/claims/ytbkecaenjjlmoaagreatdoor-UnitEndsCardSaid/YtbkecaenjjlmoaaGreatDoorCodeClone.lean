/- bytes.Clone. -/
import Derived.Test.YtbkecaenjjlmoaaGreatDoorCodeField
import Derived.Lib.SliceRun
namespace Go.Proofs.YtbkecaenjjlmoaaGreatDoor
open Go.RowKit
theorem own_mono {w : World} {B B' : Nat} {e : TypeId} {size n : Nat} {v : Value} {xs : List Value} (h : w.ownsRow B e size v n xs) (hB : B' ≤ B) : w.ownsRow B' e size v n xs :=
  ⟨h.1, h.2.imp id fun ⟨g, cap, cur, h1, h2, h3⟩ => ⟨g, cap, cur, h1, Nat.le_trans hB h2, h3⟩⟩
set_option maxRecDepth 100000 in
set_option maxHeartbeats 1000000 in
theorem clone_any (w : World) (zs : List Int) (A : Option Addr) (c : Nat) (hz : BytesAt w A zs) (hl : zs.length ≤ 140737488351232) (hA : A = none → c = 0) :
    Calls Tryz.prog 89 #[.slice A zs.length c] w fun e w' => ∃ v, e = .returned v ∧ w'.ownsRow w.heap.size 5 1 v zs.length (u8s zs) ∧ Below w.heap.size w w' := by
  obtain ⟨i0, hi, hz0, hz1, hz2⟩ := info_parts infoByte
  rcases A with _ | ad
  · obtain rfl : c = 0 := hA rfl
    have hnil : zs = [] := by
      apply Classical.byContradiction
      intro hne
      obtain ⟨b, off, e⟩ := hz.some_ hne
      cases e
    subst hnil
    have he := fun w => Lib.run_eql_slice_nil (P := Tryz.prog) w 22 5 none 0 0 0 0 Tryz.underlying22
    clear hA
    go_enter Tryz.func89, Tryz.ntmps89
    go_wp2_with fail
    go_ret
    exact ⟨_, rfl, World.ownsRow_nil _ _ _ _, Below.refl _ _⟩
  · have hsrc : ∀ (o : Obj), ∀ j u, (u8s zs)[j]? = some u → (w.alloc o).cell? (ad.add j) = some u := fun o j u hj => by
      have hne : zs ≠ [] := by intro e; subst e; simp [u8s] at hj
      obtain ⟨b, off, e, hc⟩ := hz.2 hne
      obtain rfl : ad = ⟨b, off, none⟩ := by simpa using e
      exact src_cells zs b off w o hc j u hj
    have Hsrc := Lib.hid hsrc
    clear hsrc
    have hown0 := Lib.hid (World.ownsRow_lit (base := w.heap.size) (e := 5) (size := 1) w #[] 0 (Nat.le_refl _) (Nat.zero_le _) (by simp))
    have he := fun w => Lib.run_eql_slice_nil (P := Tryz.prog) w 22 5 (some ad) zs.length c 0 0 Tryz.underlying22
    clear hA
    go_enter Tryz.func89, Tryz.ntmps89
    go_wp2_with (at_builtin; refine wpList_append_own _ rfl _ _ 22 rfl w.heap.size 5 i0 (.int .u8 0) 1 1 Tryz.underlying22 hi hz0 hz1 hz2 rfl (by decide) _ _ _ rfl hown0.out ad zs.length c (u8s zs) rfl ?c1 ?c2 ?c3 ?c4 ?c5 ?c6 ?_)
    case c1 => rw [u8s_len]
    case c2 => exact Hsrc.out _
    case c3 => exact u8s_one zs
    case c4 => unfold maxLen; omega
    case c5 => omega
    intro v' w1 hown1 hgrow1 _
    have hb : Below w.heap.size w w1 := (below_new w _).grown hgrow1 (by simp) (fun k e => (hown0.out.lt k e).1)
    have hown2 := own_same (m := zs.length) (ys := u8s zs) hown1 (by omega) (by simp)
    clear hown1
    go_wp2_with fail
    go_ret
    exact ⟨_, rfl, hown2, hb⟩
end Go.Proofs.YtbkecaenjjlmoaaGreatDoor
