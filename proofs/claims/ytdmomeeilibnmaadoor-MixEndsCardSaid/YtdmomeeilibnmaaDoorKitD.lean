/- The statements' own helpers: rows of rows of bytes lent out; are they, with their marks, as they were. -/
import Derived.Test.YtdmomeeilibnmaaDoorKitC
namespace Go.Proofs.YtdmomeeilibnmaaDoor
open Go.RowKit
theorem LentAt.of_block {w w' : World} {v : Value} {zs : List Int} (h : LentAt w v zs) (hk : ∀ g cap, v = .slice (some ⟨g, 0, none⟩) zs.length cap → g < w.heap.size → (∃ cs, w.heap[g]? = some (.cells cs 5 (0, 0))) → w'.heap[g]? = w.heap[g]?) : LentAt w' v zs := by
  obtain ⟨g, cap, cs, rfl, hc, hm, hg, ht, hr⟩ := h
  have hlt : g < w.heap.size := by
    rcases Nat.lt_or_ge g w.heap.size with h | h
    · exact h
    · rw [Array.getElem?_eq_none h] at hg; cases hg
  exact ⟨g, cap, cs, rfl, hc, hm, (hk g cap rfl hlt ⟨cs, hg⟩).trans hg, ht, hr⟩
theorem LentAt.below {w w' : World} {v : Value} {zs : List Int} (h : LentAt w v zs) (hb : Below w.heap.size w w') : LentAt w' v zs := h.of_block fun g _ _ hlt _ => hb.block g hlt
theorem LentAt.drewN {w : World} {v : Value} {zs : List Int} (h : LentAt w v zs) (n : Nat) : LentAt (w.drewN n) v zs := h
theorem LentAt.grown {w w' : World} {v s : Value} {zs : List Int} {B n size : Nat} {e : TypeId} {xs : List Value} (h : LentAt w v zs) (hown : w.ownsRow B e size s n xs) (hne : e ≠ 5) (hg : w.grownBy w' s.ownBlock) : LentAt w' v zs := by
  refine h.of_block fun g _ _ hlt ⟨cs, hcs⟩ => hg.block g hlt fun hs => ?_
  rcases hown.2 with ⟨rfl, _⟩ | ⟨g', cap, cur, rfl, _, hh, _⟩
  · simp [Value.ownBlock] at hs
  · have e1 : g = g' := by simpa [Value.ownBlock] using hs
    subst e1
    rw [hcs] at hh
    injection hh with hh
    injection hh with _ ht
    exact hne ht.symm
theorem LentAt.form {w : World} {v : Value} {zs : List Int} (h : LentAt w v zs) : ∃ q : Part, v = q.val ∧ q.zs = zs ∧ q.ok w := by
  obtain ⟨g, cap, cs, rfl, hc, hm, hg, ht, hr⟩ := h
  refine ⟨⟨some ⟨g, 0, none⟩, zs, cap⟩, rfl, rfl, ⟨hr, fun _ => ⟨g, 0, rfl, fun i hi => ?_⟩⟩, by show zs.length ≤ cap; omega, hm⟩
  have hi' : i < zs.length := hi
  have := lent_cell hg ht i (by rw [List.length_append]; omega)
  rw [front_at _ _ _ hi'] at this
  rw [Nat.zero_add]; exact this
theorem grown_of_below {w w' : World} (hb : Below w.heap.size w w') : w.grownBy w' none := ⟨hb.os, hb.tape, hb.output, hb.size, fun k hk _ => hb.block k hk⟩
/-- Rows of rows that were lent: of these parts' bytes. -/
def LentRowsAt (w : World) (v : Value) (ps : List Part) : Prop :=
  ∃ (B : Nat) (qs : List Part), w.ownsRow B 24 1 v ps.length (qs.map Part.val) ∧ qs.map Part.zs = ps.map Part.zs ∧ ∀ q ∈ qs, LentAt w q.val q.zs
theorem infoSlice : (Tryd.prog.info? 24).map (fun i => (i.zero, i.size, i.bytes)) = some (some (.slice none 0 0), 1, 24) := by kernel_rfl
theorem part_map_snoc (ps : List Part) (k : Nat) (p : Part) (h : ps[k]? = some p) : (ps.take (k + 1)).map Part.zs = (ps.take k).map Part.zs ++ [p.zs] := by
  rw [List.take_add_one, h]; simp
set_option maxRecDepth 100000 in
set_option maxHeartbeats 4000000 in
theorem lentRows_any (ps : List Part) (A : Option Addr) (c : Nat) (w : World) (hp : PartsAt w A ps) (hl : ps.length ≤ 100000) (hs : ∀ p ∈ ps, p.zs.length ≤ 140737488351232 ∧ (p.A = none → p.cap = 0)) :
    Calls Tryd.prog 8 #[.slice A ps.length c] w fun e w' => ∃ v, e = .returned v ∧ LentRowsAt w' v ps ∧ Below w.heap.size w w' := by
  obtain ⟨i0, hi, hz0, hz1, hz2⟩ := info_parts infoSlice
  go_enter Tryd.func8, Tryd.ntmps8
  go_wp2_with fail
  go_loopg [3, 4] ps.length (fun g v i wx => ∃ (k : Nat) (qs : List Part), g = ps.length - k ∧ k ≤ ps.length ∧ i = .int .i64 (k : Int) ∧ wx.ownsRow w.heap.size 24 1 v k (qs.map Part.val) ∧ Hid (qs.map Part.zs = (ps.take k).map Part.zs) ∧ Hid (∀ q ∈ qs, LentAt wx q.val q.zs) ∧ Below w.heap.size w wx)
  case atStart => exact ⟨0, [], rfl, by omega, rfl, World.ownsRow_nil _ _ _ _, Lib.hid rfl, Lib.hid (fun q hq => by cases hq), Below.refl _ _⟩
  case round =>
    obtain ⟨k, qs, hgk, hk, rfl, hown, hq, hla, hb⟩ := hrel
    have Hgk := Lib.hid hgk; clear hgk
    by_cases hlt : k < ps.length
    · have hpk : ps[k]? = some ps[k] := List.getElem?_eq_getElem hlt
      have hmem : ps[k] ∈ ps := List.getElem_mem hlt
      generalize ps[k] = p at hpk hmem
      have hps := hp.below hb
      obtain ⟨b, off, rfl, hc⟩ := hps.2 (by intro e; simp [e] at hlt)
      have c1 : wr.cell? ⟨b, off + k, none⟩ = some (.slice p.A p.zs.length p.cap) := hc k p hpk
      have hok := hps.1 p hmem
      have hsp := hs p hmem
      have Hpk := Lib.hid hpk
      clear hpk hc hs hps
      go_wp2_with fail
      refine (lentBytes_any p.zs p.A p.cap wr hok.1 hsp.1 hsp.2).mono ?_
      rintro e w1 ⟨v1, rfl, hl1, hb1⟩
      have hown1 := hown.kept (grown_of_below hb1) (by
        cases hv : Value.ownBlock u3 with
        | none => exact .inl rfl
        | some g => exact .inr (by simp))
      have hB1 := hb.trans (hb1.mono hb.size)
      have hsz := hB1.size
      have hl1' := hl1
      obtain ⟨g1, cap1, cs1, hv1, _, _, _, _, _⟩ := hl1'
      rw [hv1] at hl1 ⊢
      clear hv1
      go_wp2_with (at_builtin; refine wpList_append_own _ rfl _ _ 22 rfl w.heap.size 24 i0 (.slice none 0 0) 1 24 Tryd.underlying22 hi hz0 hz1 hz2 rfl (by decide) _ _ _ rfl (hown1.alloc _) ⟨w1.heap.size, 0, none⟩ 1 1 [.slice (some ⟨g1, 0, none⟩) p.zs.length cap1] rfl rfl (cell_one_new _ _ _) ?c3 ?c4 ?c5 ?c6 ?_)
      case c3 => intro u hu; rw [List.mem_singleton.1 hu]; rfl
      case c4 => unfold maxLen; omega
      case c5 => omega
      case c6 => simp; omega
      intro v2 w2 hown2 hgrow2 _
      go_wp2_with fail
      go_roundg (ps.length - (k + 1))
      case measure => rw [Hgk.out]; omega
      case rel =>
        exact ⟨k + 1, qs ++ [⟨some ⟨g1, 0, none⟩, p.zs, cap1⟩], rfl, by omega, by go_num, own_same hown2 rfl (by simp [Part.val]), Lib.hid (by rw [part_map_snoc ps k p Hpk.out, List.map_append, hq.out]; rfl),
          Lib.hid (fun q hqm => by
            rcases List.mem_append.1 hqm with h | h
            · exact ((hla.out q h).below (hb1.trans (below_new _ _ |>.mono hb1.size))).grown (hown1.alloc _) (by decide) hgrow2
            · obtain rfl : q = ⟨some ⟨g1, 0, none⟩, p.zs, cap1⟩ := List.mem_singleton.1 h
              exact (hl1.below (below_new _ _)).grown (hown1.alloc _) (by decide) hgrow2),
          (hB1.alloc hB1.size _).grown hgrow2 (by simp; omega) (fun j e => (hown1.lt j e).1)⟩
    · obtain rfl : k = ps.length := by omega
      go_wp2_with fail
      go_ret
      exact ⟨_, rfl, ⟨w.heap.size, qs, hown, by rw [hq.out, List.take_length], hla.out⟩, hb⟩
theorem own_slice {w : World} {B : Nat} {e : TypeId} {size n : Nat} {v : Value} {xs : List Value} (h : w.ownsRow B e size v n xs) : ∃ X cap, v = .slice X n cap ∧ n ≤ cap ∧ cap ≤ maxLen := by
  rcases h.2 with ⟨rfl, rfl⟩ | ⟨g, cap, cur, rfl, _, _, hc, hm, _⟩
  · exact ⟨none, 0, rfl, Nat.le_refl _, by decide⟩
  · exact ⟨some ⟨g, 0, none⟩, cap, rfl, hc, hm⟩
theorem zs_at {qs ps : List Part} (h : qs.map Part.zs = ps.map Part.zs) (k : Nat) (p : Part) (hp : ps[k]? = some p) : ∃ q, qs[k]? = some q ∧ q ∈ qs ∧ q.zs = p.zs := by
  have h1 : (qs.map Part.zs)[k]? = some p.zs := by rw [h, List.getElem?_map, hp]; rfl
  rw [List.getElem?_map] at h1
  cases hq : qs[k]? with
  | none => rw [hq] at h1; cases h1
  | some q =>
    rw [hq] at h1
    exact ⟨q, rfl, List.mem_of_getElem? hq, by simpa using h1⟩
/-- The k-th of the rows that were lent: its cell, and that it is lent. -/
theorem lent_row {w : World} {v : Value} {ps : List Part} (h : LentRowsAt w v ps) (k : Nat) (p : Part) (hp : ps[k]? = some p) :
    ∃ (g cap : Nat) (x : Nat × Nat), v = .slice (some ⟨g, 0, none⟩) ps.length cap ∧ w.cell? ⟨g, k, none⟩ = some (.slice (some ⟨x.1, 0, none⟩) p.zs.length x.2) ∧ LentAt w (.slice (some ⟨x.1, 0, none⟩) p.zs.length x.2) p.zs := by
  obtain ⟨B, qs, hown, hzs, hla⟩ := h
  obtain ⟨q, hq, hqm, hqz⟩ := zs_at hzs k p hp
  have hk : k < ps.length := (List.getElem?_eq_some_iff.1 hp).1
  obtain ⟨g, cap, rfl, _⟩ := own_form hown (by omega)
  have hl := hla q hqm
  have hl2 := hl
  obtain ⟨g1, cap1, cs1, hv1, _⟩ := hl2
  rw [hv1, hqz] at hl
  refine ⟨g, cap, (g1, cap1), rfl, ?_, hl⟩
  rw [hown.cellAt k (by omega), List.getElem?_map, hq, ← hqz]
  exact congrArg some hv1
theorem LentRowsAt.drewN {w : World} {v : Value} {ps : List Part} (h : LentRowsAt w v ps) (n : Nat) : LentRowsAt (w.drewN n) v ps := h
theorem PartsAt.drewN {w : World} {A : Option Addr} {ps : List Part} (h : PartsAt w A ps) (n : Nat) : PartsAt (w.drewN n) A ps := h
set_option maxRecDepth 100000 in
set_option maxHeartbeats 4000000 in
theorem keptRows_any (ps : List Part) (v : Value) (A : Option Addr) (c : Nat) (w : World) (hv : LentRowsAt w v ps) (hp : PartsAt w A ps) (hl : ps.length ≤ 100000) (hs : ∀ p ∈ ps, p.zs.length ≤ 140737488351232) :
    Calls Tryd.prog 16 #[v, .slice A ps.length c] w fun e w' => e = .returned (.bool true) ∧ ∃ n, w' = w.drewN n := by
  obtain ⟨X, cx, hvx⟩ : ∃ X cx, v = .slice X ps.length cx := by
    obtain ⟨B, qs, hown, _⟩ := hv
    obtain ⟨X, cap, e, _⟩ := own_slice hown
    exact ⟨X, cap, e⟩
  subst hvx
  have hne : ((ps.length : Int) != (ps.length : Int)) = false := by simp
  go_enter Tryd.func16, Tryd.ntmps16
  go_wp2_with fail
  go_loopg [5] ps.length (fun g i wx => (∃ nq, wx = w.drewN nq) ∧ ∃ k : Nat, g = ps.length - k ∧ k ≤ ps.length ∧ i = .int .i64 (k : Int))
  case atStart => exact ⟨⟨0, rfl⟩, 0, rfl, by omega, rfl⟩
  case round =>
    obtain ⟨⟨nq, rfl⟩, k, hgk, hk, rfl⟩ := hrel
    have Hgk := Lib.hid hgk; clear hgk
    by_cases hlt : k < ps.length
    · have hvW := hv.drewN nq
      have hpW := hp.drewN nq
      obtain ⟨W, hW⟩ : ∃ W, w.drewN nq = W := ⟨_, rfl⟩
      rw [hW] at hvW hpW ⊢
      have HW := Lib.hid hW
      clear hW
      have hpk : ps[k]? = some ps[k] := List.getElem?_eq_getElem hlt
      have hmem : ps[k] ∈ ps := List.getElem_mem hlt
      generalize ps[k] = p at hpk hmem
      obtain ⟨g, cap, x, hx, c1, hla⟩ := lent_row hvW k p hpk
      obtain ⟨rfl, rfl⟩ : X = some ⟨g, 0, none⟩ ∧ cx = cap := by simpa using hx
      obtain ⟨b, off, rfl, hc⟩ := hpW.2 (by intro e; simp [e] at hlt)
      have c2 : W.cell? ⟨b, off + k, none⟩ = some (.slice p.A p.zs.length p.cap) := hc k p hpk
      have hok := (hpW.1 p hmem).1
      have hsp := hs p hmem
      have Hpk := Lib.hid hpk
      clear hpk hc hx hv hp hvW hpW hs
      go_wp2_with fail
      go_quiet ((go_at_call 26; exact Calls.quiet_of (keptBytes_any p.zs _ _ _ _ (hla.drewN _) (hok.drewN _) hsp)))
      go_wp2_with fail
      go_roundg (ps.length - (k + 1))
      case measure => rw [Hgk.out]; omega
      case rel => exact ⟨⟨_, by rw [← HW.out]; exact World.drewN_drewN _ _ _⟩, k + 1, rfl, by omega, by go_num⟩
    · obtain rfl : k = ps.length := by omega
      go_wp2_with fail
      go_ret
      exact ⟨rfl, _, rfl⟩
end Go.Proofs.YtdmomeeilibnmaaDoor
