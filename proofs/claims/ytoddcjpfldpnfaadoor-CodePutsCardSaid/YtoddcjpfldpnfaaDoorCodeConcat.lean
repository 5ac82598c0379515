/- slices.Grow, slices.Concat at bytes. -/
import Derived.Test.YtoddcjpfldpnfaaDoorCodeReverse
namespace Go.Proofs.YtoddcjpfldpnfaaDoor
open Go.RowKit
theorem run_append_zeros (w : World) (ty : TypeId) (n : Nat) (h0 : 0 < n) (h1 : n ≤ 140737488355328) :
    ∃ cur : Array Value, cur.size = grownCap w n 0 5 ∧ (Builtin.append_ #[25, 3] ty #[.slice none 0 0, .int .i64 (n : Int)]).run Tryd.prog w =
      .ok (.slice (some ⟨w.heap.size, 0, none⟩) n (grownCap w n 0 5)) (w.drew.alloc (.cells cur 5)) := by
  obtain ⟨i0, hi, hz, hz1, hz2⟩ := info_parts infoByte
  have hn : n ≠ 0 := by omega
  have h63 : ¬ (9223372036854775807 < (n : Int)) := by omega
  have h48 : ¬ (281474976710656 < Builtin.nextslicecap n 0) := by rw [nextslicecap_zero h0]; omega
  have hneg : ¬ ((n : Int) < 0) := by omega
  have hbig : ¬ (281474976710656 < (n : Int)) := by omega
  have hw : IntKind.i64.wrap (n : Int) = n := IntWalk.i64_in _ (by omega)
  have hge := grownCap_ge w n 0 5
  refine ⟨Builtin.zeroCells #[.int .u8 0] n ++ Builtin.zeroCells #[.int .u8 0] (grownCap w n 0 5 - n), by simp [size_zeroCells]; omega, ?_⟩
  simp [Builtin.append_, run_underlying Tryd.underlying25, run_underlying Tryd.underlying3, sizeOf, typeInfo, zeroValue, hi, hz, hz1, hz2, Builtin.lenOf, Builtin.firstCells, hn, h63, h48, hneg, hbig, hw, asInt, asIntOf, Question.forced, newRow, grownCap]
  rfl
theorem wpList_append_run {P : Program} {w w' : World} {ops : Array Oper} {rest : List Oper} {o : Oper} {a : Act} {Q : Exit → Act → World → Prop} (hgd : o.guard = none) (s x : Operand) (t u : TypeId)
    (ho : o.op = .call { callee := .builtin .append, args := #[s, x], argTypes := #[t, u] }) (v v1 v2 : Value) (hs : a.eval s = v1) (hx : a.eval x = v2)
    (hr : (Builtin.append_ #[t, u] o.type #[v1, v2]).run P w = .ok v w') (h : wpList P ops Q rest (a.put o.dst v) w') : wpList P ops Q (o :: rest) a w := by
  refine wpList_plain hgd fun K hK => ?_
  unfold Oper.wp execOp
  simp only [ho, resolve, invoke, builtin, Sem.run_bind, Sem.run_pure, Result.andThen_ok, List.map_toArray, List.map_cons, List.map_nil, hs, hx, hr]
  exact hK _ _ h
set_option maxRecDepth 100000 in
theorem grow_any (w : World) (n : Nat) (h1 : n ≤ 140737488355328) :
    Calls Tryd.prog 62 #[.slice none 0 0, .int .i64 (n : Int)] w fun e w' => ∃ v, e = .returned v ∧ w'.ownsRow w.heap.size 5 1 v 0 [] ∧ Below w.heap.size w w' := by
  by_cases h0 : n = 0
  · subst h0
    go_enter Tryd.func62, Tryd.ntmps62
    go_wp2_with fail
    go_ret
    exact ⟨_, rfl, World.ownsRow_nil _ _ _ _, Below.refl _ _⟩
  · obtain ⟨cur, hcs, hrun⟩ := run_append_zeros w 25 n (by omega) h1
    have hge := grownCap_ge w n 0 5
    have hle := grownCap_le_maxLen w n 0 5 (by unfold maxLen; omega)
    have hown := World.ownsRow_made (base := w.heap.size) (e := 5) (size := 1) w.drew cur (grownCap w n 0 5) (by simp) hle (by omega)
    have hb : Below w.heap.size w (w.drew.alloc (.cells cur 5)) := ((Below.refl _ _).drew).alloc (by simp) _
    generalize hC : grownCap w n 0 5 = cap at *
    have HC := Lib.hid hC
    clear hC hcs
    have hpos : 0 < n := by omega
    unfold maxLen at hle
    have Hrun := Lib.hid hrun; clear hrun
    have q1 : (0 : Int) ≤ (cap : Int) := by omega
    go_enter Tryd.func62, Tryd.ntmps62
    go_wp2_with (at_builtin; refine wpList_append_run rfl _ _ 25 3 rfl _ _ _ rfl rfl Hrun.out ?_)
    go_ret
    exact ⟨_, rfl, hown, hb⟩
/-- Rows of bytes in memory, as their headers lie. -/
theorem parts_one {w : World} {X : Option Addr} {ps : List Part} (h : PartsAt w X ps) (k : Nat) (p : Part) (hp : ps[k]? = some p) : p.ok w ∧ p ∈ ps := ⟨h.1 p (List.mem_of_getElem? hp), List.mem_of_getElem? hp⟩
theorem bytesOf_snoc (ps : List Part) (k : Nat) (p : Part) (h : ps[k]? = some p) : bytesOf (ps.take (k + 1)) = bytesOf (ps.take k) ++ p.zs := by
  unfold bytesOf
  rw [List.take_add_one, h]; simp
theorem bytesOf_len (ps : List Part) : (bytesOf ps).length = total ps := by
  unfold bytesOf total
  induction ps with
  | nil => rfl
  | cons p ps ih => simp [ih]
theorem total_take (ps : List Part) (k : Nat) : total (ps.take k) ≤ total ps := by
  induction ps generalizing k with
  | nil => simp
  | cons p ps ih =>
    cases k with
    | zero => simp [total]
    | succ k => have := ih k; simp only [List.take_succ_cons, total, List.map_cons, List.sum_cons] at this ⊢; omega
set_option maxRecDepth 100000 in
set_option maxHeartbeats 4000000 in
theorem concat_any (w : World) (ps : List Part) (A : Option Addr) (c : Nat) (hp : PartsAt w A ps) (hl : ps.length ≤ 140737488355328) (ht : total ps ≤ 140737488355328) (hs : ∀ p ∈ ps, p.A ≠ none) :
    Calls Tryd.prog 39 #[.slice A ps.length c] w fun e w' => ∃ v, e = .returned v ∧ w'.ownsRow w.heap.size 5 1 v (total ps) (u8s (bytesOf ps)) ∧ Below w.heap.size w w' := by
  obtain ⟨i0, hi, hz0, hz1, hz2⟩ := info_parts infoByte
  have htk := fun k => total_take ps k
  have Htk := Lib.hid htk; clear htk
  go_enter Tryd.func39, Tryd.ntmps39
  go_wp2_with fail
  go_loopg [3, 11] ps.length (fun g n i wx => w = wx ∧ ∃ k m : Nat, g = ps.length - k ∧ k ≤ ps.length ∧ i = .int .i64 (k : Int) ∧ n = .int .i64 (m : Int) ∧ m ≤ 140737488355328 ∧ Hid (m = total (ps.take k)))
  case atStart => exact ⟨rfl, 0, 0, rfl, by omega, rfl, rfl, by omega, Lib.hid rfl⟩
  case round =>
    obtain ⟨rfl, k, m, hgk, hk, rfl, rfl, hmb, hmt⟩ := hrel
    have Hgk := Lib.hid hgk; clear hgk
    by_cases hlt : k < ps.length
    · have hpk : ps[k]? = some ps[k] := List.getElem?_eq_getElem hlt
      generalize ps[k] = p at hpk
      obtain ⟨bb, off, rfl, hc⟩ := hp.2 (by intro e; simp [e] at hlt)
      have c1 : w.cell? ⟨bb, off + k, none⟩ = some (.slice p.A p.zs.length p.cap) := hc k p hpk
      have hsum : m + p.zs.length ≤ 140737488355328 := by
        have h1 := Htk.out (k + 1)
        rw [total_snoc ps k p hpk] at h1
        have := hmt.out; omega
      have Hpk := Lib.hid hpk
      clear hpk hc
      have hneg : ¬ ((m : Int) + (p.zs.length : Int) < 0) := by omega
      go_wp2_with fail
      go_roundg (ps.length - (k + 1))
      case measure => rw [Hgk.out]; omega
      case rel => exact ⟨rfl, k + 1, m + p.zs.length, rfl, by omega, by go_num, by go_num, hsum, Lib.hid (by rw [total_snoc ps k p Hpk.out, hmt.out])⟩
    · obtain rfl : k = ps.length := by omega
      rw [List.take_length] at hmt
      go_wp2_with fail
      refine (grow_any w m hmb).mono ?_
      rintro e w1 ⟨v, rfl, hown, hb⟩
      have Hp := Lib.hid hp
      clear hp
      obtain ⟨X, cap, rfl, _⟩ := own_slice hown
      go_wp2_with fail
      go_loopg [6, 27] ps.length (fun g v i wx => ∃ k : Nat, g = ps.length - k ∧ k ≤ ps.length ∧ i = .int .i64 (k : Int) ∧ wx.ownsRow w.heap.size 5 1 v (total (ps.take k)) (u8s (bytesOf (ps.take k))) ∧ Below w.heap.size w wx)
      case atStart => exact ⟨0, rfl, by omega, rfl, by simpa [total, bytesOf, u8s] using hown, hb⟩
      case round =>
        obtain ⟨k, hgk, hk2, rfl, hown2, hb2⟩ := hrel
        have Hgk2 := Lib.hid hgk; clear hgk
        by_cases hlt : k < ps.length
        · have hpk : ps[k]? = some ps[k] := List.getElem?_eq_getElem hlt
          generalize ps[k] = p at hpk
          have hp2 := Hp.out.below hb2
          obtain ⟨bb, off, rfl, hc⟩ := hp2.2 (by intro e; simp [e] at hlt)
          have c1 : wr.cell? ⟨bb, off + k, none⟩ = some (.slice p.A p.zs.length p.cap) := hc k p hpk
          obtain ⟨hok, hmem⟩ := parts_one hp2 k p hpk
          have hsn := hs p hmem
          have hsum : total (ps.take k) + p.zs.length ≤ 140737488355328 := by
            have h1 := Htk.out (k + 1)
            rw [total_snoc ps k p hpk] at h1
            omega
          obtain ⟨pA, pz, pc⟩ := p
          simp only at c1 hok hsn hsum
          cases pA with
          | none => exact absurd rfl hsn
          | some ad =>
            have hsrc : ∀ j u, (u8s pz)[j]? = some u → wr.cell? (ad.add j) = some u := fun j u hj => by
              have hne : pz ≠ [] := by intro e; subst e; simp [u8s] at hj
              obtain ⟨b, o, e, hc'⟩ := hok.1.2 hne
              obtain rfl : ad = ⟨b, o, none⟩ := by simpa using e
              have h1 := src_cells pz b o wr (.cells #[] 0) hc' j u hj
              rwa [World.cell?_alloc_lt _ _ _ (by
                have h2 := World.block_lt_of_cell? _ _ (hc' 0 (List.length_pos_iff.2 hne))
                unfold Addr.add; split <;> simpa using h2)] at h1
            have Hsrc := Lib.hid hsrc
            have Hpk := Lib.hid hpk
            have hszb := hb2.size
            clear hsrc hpk hc hp2 hok hmem hsn
            go_wp2_with (at_builtin; refine wpList_append_own _ rfl _ _ 25 rfl w.heap.size 5 i0 (.int .u8 0) 1 1 Tryd.underlying25 hi hz0 hz1 hz2 rfl (by decide) _ _ _ rfl hown2 ad pz.length pc (u8s pz) rfl ?c1 ?c2 ?c3 ?c4 ?c5 ?c6 ?_)
            case c1 => rw [u8s_len, Nat.mul_one]
            case c2 => exact Hsrc.out
            case c3 => exact u8s_one pz
            case c4 => unfold maxLen; omega
            case c5 => omega
            case c6 => omega
            intro v' w2 hown3 hgrow3 _
            have hb3 := hb2.grown hgrow3 hszb (fun j e => (hown2.lt j e).1)
            go_wp2_with fail
            go_roundg (ps.length - (k + 1))
            case measure => rw [Hgk2.out]; omega
            case rel => exact ⟨k + 1, rfl, by omega, by go_num, own_same hown3 (by rw [total_snoc ps k _ Hpk.out]) (by rw [bytesOf_snoc ps k _ Hpk.out, u8s_app]), hb3⟩
        · obtain rfl : k = ps.length := by omega
          rw [List.take_length] at hown2
          go_wp2_with fail
          go_ret
          exact ⟨_, rfl, hown2, hb2⟩
end Go.Proofs.YtoddcjpfldpnfaaDoor
