/- slices.Reverse at rows of bytes. -/
/- slices.Grow, slices.Concat at bytes. -/
/- A block's reader: begun; the sum; the fields behind it. -/
import Derived.Test.YtpdfmpegcejmkaaGreatDoorReadNum
import Derived.RegionTactic
import Derived.ChangeAlike
import Derived.Test.YtpdfmpegcejmkaaGreatDoorMixShift
import Derived.Test.YtpdfmpegcejmkaaGreatDoorUnitSum
import Derived.Test.YtpdfmpegcejmkaaGreatDoorUnitErr
import Derived.IntWalk
namespace Go.Proofs.YtpdfmpegcejmkaaGreatDoor
open Go.RowKit
theorem setCell_drew' (w : World) (a : Addr) (u : Value) : w.drew.setCell a u = (w.setCell a u).drew := rfl
theorem get_some {α : Type} (xs : List α) (k : Nat) (h : k < xs.length) : ∃ x, xs[k]? = some x := ⟨xs[k], List.getElem?_eq_getElem h⟩
set_option maxRecDepth 100000 in
set_option maxHeartbeats 1000000 in
theorem reverse_some (w : World) (B g n cap : Nat) (xs : List Value) (h : w.ownsRow B 27 1 (.slice (some ⟨g, 0, none⟩) n cap) n xs) (hn : n ≤ 9223372036854775807) (hx : ∀ x ∈ xs, ∃ A m c, x = .slice A m c) :
    Calls Tryz.prog 141 #[.slice (some ⟨g, 0, none⟩) n cap] w fun e w' => e = .returned (.tuple #[]) ∧ w'.ownsRow B 27 1 (.slice (some ⟨g, 0, none⟩) n cap) n xs.reverse ∧ w.grownBy w' (some g) := by
  have hlen : xs.length = n := by have := h.1; omega
  have Hlen := Lib.hid hlen; clear hlen
  have H := Lib.hid h; clear h
  go_enter Tryz.func141, Tryz.ntmps141
  go_wp2_with fail
  go_loopg [2, 3] n (fun gg i j wx => ∃ (k : Nat) (ys : List Value), gg = n - k ∧ 2 * k ≤ n + 1 ∧ i = .int .i64 (k : Int) ∧ j = .int .i64 ((n : Int) - 1 - (k : Int)) ∧ wx.ownsRow B 27 1 (.slice (some ⟨g, 0, none⟩) n cap) n ys ∧ w.grownBy wx (some g) ∧ Hid (∀ i, i < n → ys[i]? = if i < k ∨ n ≤ i + k then xs[n - 1 - i]? else xs[i]?))
  case atStart => exact ⟨0, xs, rfl, by omega, rfl, by go_num, H.out, World.grownBy.refl _ _, Lib.hid (fun i hi => by rw [if_neg (by omega)])⟩
  case round =>
    obtain ⟨k, ys, hgk, hk, rfl, rfl, hown, hgr, hys⟩ := hrel
    have Hgk := Lib.hid hgk; clear hgk
    by_cases hlt : (k : Int) < (n : Int) - 1 - (k : Int)
    · have hkx : ys[k]? = xs[k]? := by rw [hys.out k (by omega), if_neg (by omega)]
      have hjx : ys[n - 1 - k]? = xs[n - 1 - k]? := by rw [hys.out (n - 1 - k) (by omega), if_neg (by omega)]
      obtain ⟨x1, hk1⟩ := get_some xs k (by have := Hlen.out; omega)
      obtain ⟨x2, hj1⟩ := get_some xs (n - 1 - k) (by have := Hlen.out; omega)
      obtain ⟨A1, m1, q1, e1⟩ := hx _ (List.mem_of_getElem? hk1)
      obtain ⟨A2, m2, q2, e2⟩ := hx _ (List.mem_of_getElem? hj1)
      have c1 : wr.cell? ⟨g, k, none⟩ = some (.slice A1 m1 q1) := by rw [hown.cellAt k (by omega), hkx, hk1, e1]
      have c2 : wr.cell? ⟨g, n - 1 - k, none⟩ = some (.slice A2 m2 q2) := by rw [hown.cellAt (n - 1 - k) (by omega), hjx, hj1, e2]
      have hf : ∀ i, wr.frozen? ⟨g, i, none⟩ = false := fun i => hown.frozenAt i
      have hne : n - 1 - k ≠ k := by omega
      subst e1 e2
      have HE := Lib.hid (And.intro hk1 hj1)
      clear hkx hjx hk1 hj1
      have hm : (n : Int) - 1 - (k : Int) = ((n - 1 - k : Nat) : Int) := by omega
      have hmn : n - 1 - k < n := by omega
      have hkm : k < n - 1 - k := by omega
      have hkn : k < n := by omega
      rw [hm]
      have Hm := Lib.hid (And.intro hm (show n - 1 - k + 1 + k = n by omega)); clear hm hlt
      generalize n - 1 - k = m at *
      have i0 : (0 : Int) ≤ (k : Int) := by omega
      have i1 : (k : Int) < (n : Int) := by omega
      have i2 : (0 : Int) ≤ (m : Int) := by omega
      have i3 : (m : Int) < (n : Int) := by omega
      have i4 : (k : Int) < (m : Int) := by omega
      go_wp2_with fail
      go_region
      go_wp2_with fail
      go_roundg (n - (k + 1))
      case measure => rw [Hgk.out]; omega
      case rel =>
        have s1 := hown.stored k (.slice A2 m2 q2)
        have s2 := s1.1.stored m (.slice A1 m1 q1)
        have hl1 : ys.length = n := by have := hown.1; omega
        have hmm := Hm.out
        exact ⟨k + 1, (ys.set k (.slice A2 m2 q2)).set m (.slice A1 m1 q1), rfl, by omega, by go_num, by congr 1; omega, s2.1.drew, grown_drewN ((hgr.trans s1.2).trans s2.2) 1, Lib.hid (fun i hi => by
          rw [List.getElem?_set, List.getElem?_set]
          by_cases h1 : m = i
          · subst h1
            rw [if_pos rfl, if_pos (by simpa [hl1] using hi), if_pos (.inr (by omega)), show n - 1 - m = k by omega]
            exact HE.out.1.symm
          · rw [if_neg h1]
            by_cases h2 : k = i
            · subst h2
              rw [if_pos rfl, if_pos (by omega), if_pos (.inl (by omega)), show n - 1 - k = m by omega]
              exact HE.out.2.symm
            · rw [if_neg h2, hys.out i hi]
              by_cases h3 : i < k ∨ n ≤ i + k
              · rw [if_pos h3, if_pos (by omega)]
              · rw [if_neg h3, if_neg (by omega)])⟩
    · have hfin : ys = xs.reverse := by
        have hl1 : ys.length = n := by have := hown.1; omega
        apply List.ext_getElem?
        intro i
        by_cases hi : i < n
        · rw [hys.out i hi, List.getElem?_reverse (by rw [Hlen.out]; exact hi), Hlen.out]
          by_cases h3 : i < k ∨ n ≤ i + k
          · rw [if_pos h3]
          · rw [if_neg h3, show n - 1 - i = i by omega]
        · rw [List.getElem?_eq_none (by omega), List.getElem?_eq_none (by rw [List.length_reverse, Hlen.out]; omega)]
      subst hfin
      have hge : decide ((k : Int) < (n : Int) - 1 - (k : Int)) = false := decide_eq_false hlt
      go_wp2_with fail
      go_end0
      exact ⟨rfl, hown, hgr⟩
set_option maxRecDepth 100000 in
theorem reverse_none (w : World) :
    Calls Tryz.prog 141 #[.slice none 0 0] w fun e w' => e = .returned (.tuple #[]) ∧ w = w' := by
  go_enter Tryz.func141, Tryz.ntmps141
  go_wp2_with fail
  refine wp_loop_rounds 1 ?_
  rw [rounds_succ]
  go_wp2_with fail
  go_end0
  exact ⟨rfl, rfl⟩
theorem reverse_any (w : World) (B n : Nat) (v : Value) (xs : List Value) (h : w.ownsRow B 27 1 v n xs) (hn : n ≤ 9223372036854775807) (hx : ∀ x ∈ xs, ∃ A m c, x = .slice A m c) :
    Calls Tryz.prog 141 #[v] w fun e w' => e = .returned (.tuple #[]) ∧ w'.ownsRow B 27 1 v n xs.reverse ∧ w.grownBy w' v.ownBlock := by
  rcases h.2 with ⟨rfl, rfl⟩ | ⟨g, cap, cur, rfl, _⟩
  · have hx0 : xs = [] := List.eq_nil_of_length_eq_zero (by simpa using h.1)
    subst hx0
    exact (reverse_none w).mono fun e w' ⟨he, hw⟩ => ⟨he, hw ▸ h, hw ▸ World.grownBy.refl _ _⟩
  · exact reverse_some w B g n cap xs h hn hx
end Go.Proofs.YtpdfmpegcejmkaaGreatDoor
namespace Go.Proofs.YtpdfmpegcejmkaaGreatDoor
open Go.RowKit
theorem run_append_zeros (w : World) (ty : TypeId) (n : Nat) (h0 : 0 < n) (h1 : n ≤ 140737488355328) :
    ∃ cur : Array Value, cur.size = grownCap w n 0 5 ∧ (Builtin.append_ #[27, 3] ty #[.slice none 0 0, .int .i64 (n : Int)]).run Tryz.prog w =
      .ok (.slice (some ⟨w.heap.size, 0, none⟩) n (grownCap w n 0 5)) (w.drew.alloc (.cells cur 5)) := by
  obtain ⟨i0, hi, hz, hz1, hz2⟩ := info_parts infoByte
  have hn : n ≠ 0 := by omega
  have h63 : ¬ (9223372036854775807 < (n : Int)) := by omega
  have h48 : ¬ (281474976710656 < Builtin.nextslicecap n 0) := by rw [nextslicecap_zero h0]; omega
  have hneg : ¬ ((n : Int) < 0) := by omega
  have hbig : ¬ (281474976710656 < (n : Int)) := by omega
  have hw : IntKind.i64.wrap (n : Int) = n := IntWalk.i64_in _ (by omega)
  have hge := grownCap_ge w n 0 5
  refine ⟨Builtin.zeroCells #[.int .u8 0] n ++ Builtin.zeroCells #[.int .u8 0] (grownCap w n 0 5 - n), by simp [size_zeroCells]; omega, ?_⟩
  simp [Builtin.append_, run_underlying Tryz.underlying27, run_underlying Tryz.underlying3, sizeOf, typeInfo, zeroValue, hi, hz, hz1, hz2, Builtin.lenOf, Builtin.firstCells, hn, h63, h48, hneg, hbig, hw, asInt, asIntOf, Question.forced, newRow, grownCap]
  rfl
theorem wpList_append_run {P : Program} {w w' : World} {ops : Array Oper} {rest : List Oper} {o : Oper} {a : Act} {Q : Exit → Act → World → Prop} (hgd : o.guard = none) (s x : Operand) (t u : TypeId)
    (ho : o.op = .call { callee := .builtin .append, args := #[s, x], argTypes := #[t, u] }) (v v1 v2 : Value) (hs : a.eval s = v1) (hx : a.eval x = v2)
    (hr : (Builtin.append_ #[t, u] o.type #[v1, v2]).run P w = .ok v w') (h : wpList P ops Q rest (a.put o.dst v) w') : wpList P ops Q (o :: rest) a w := by
  refine wpList_plain hgd fun K hK => ?_
  unfold Oper.wp execOp
  simp only [ho, resolve, invoke, builtin, Sem.run_bind, Sem.run_pure, Result.andThen_ok, List.map_toArray, List.map_cons, List.map_nil, hs, hx, hr]
  exact hK _ _ h
set_option maxRecDepth 100000 in
theorem grow_any (w : World) (n : Nat) (h1 : n ≤ 140737488355328) :
    Calls Tryz.prog 163 #[.slice none 0 0, .int .i64 (n : Int)] w fun e w' => ∃ v, e = .returned v ∧ w'.ownsRow w.heap.size 5 1 v 0 [] ∧ Below w.heap.size w w' := by
  by_cases h0 : n = 0
  · subst h0
    go_enter Tryz.func163, Tryz.ntmps163
    go_wp2_with fail
    go_ret
    exact ⟨_, rfl, World.ownsRow_nil _ _ _ _, Below.refl _ _⟩
  · obtain ⟨cur, hcs, hrun⟩ := run_append_zeros w 27 n (by omega) h1
    have hge := grownCap_ge w n 0 5
    have hle := grownCap_le_maxLen w n 0 5 (by unfold maxLen; omega)
    have hown := World.ownsRow_made (base := w.heap.size) (e := 5) (size := 1) w.drew cur (grownCap w n 0 5) (by simp) hle (by omega)
    have hb : Below w.heap.size w (w.drew.alloc (.cells cur 5)) := ((Below.refl _ _).drew).alloc (by simp) _
    generalize hC : grownCap w n 0 5 = cap at *
    have HC := Lib.hid hC
    clear hC hcs
    have hpos : 0 < n := by omega
    unfold maxLen at hle
    have Hrun := Lib.hid hrun; clear hrun
    have q1 : (0 : Int) ≤ (cap : Int) := by omega
    go_enter Tryz.func163, Tryz.ntmps163
    go_wp2_with (at_builtin; refine wpList_append_run rfl _ _ 27 3 rfl _ _ _ rfl rfl Hrun.out ?_)
    go_ret
    exact ⟨_, rfl, hown, hb⟩
/-- Rows of bytes in memory, as their headers lie. -/
theorem parts_one {w : World} {X : Option Addr} {ps : List Part} (h : PartsAt w X ps) (k : Nat) (p : Part) (hp : ps[k]? = some p) : p.ok w ∧ p ∈ ps := ⟨h.1 p (List.mem_of_getElem? hp), List.mem_of_getElem? hp⟩
theorem bytesOf_snoc (ps : List Part) (k : Nat) (p : Part) (h : ps[k]? = some p) : bytesOf (ps.take (k + 1)) = bytesOf (ps.take k) ++ p.zs := by
  unfold bytesOf
  rw [List.take_add_one, h]; simp
theorem bytesOf_len (ps : List Part) : (bytesOf ps).length = total ps := by
  unfold bytesOf total
  induction ps with
  | nil => rfl
  | cons p ps ih => simp [ih]
theorem total_take (ps : List Part) (k : Nat) : total (ps.take k) ≤ total ps := by
  induction ps generalizing k with
  | nil => simp
  | cons p ps ih =>
    cases k with
    | zero => simp [total]
    | succ k => have := ih k; simp only [List.take_succ_cons, total, List.map_cons, List.sum_cons] at this ⊢; omega
set_option maxRecDepth 100000 in
set_option maxHeartbeats 4000000 in
theorem concat_any (w : World) (ps : List Part) (A : Option Addr) (c : Nat) (hp : PartsAt w A ps) (hl : ps.length ≤ 140737488355328) (ht : total ps ≤ 140737488355328) (hs : ∀ p ∈ ps, p.A ≠ none) :
    Calls Tryz.prog 142 #[.slice A ps.length c] w fun e w' => ∃ v, e = .returned v ∧ w'.ownsRow w.heap.size 5 1 v (total ps) (u8s (bytesOf ps)) ∧ Below w.heap.size w w' := by
  obtain ⟨i0, hi, hz0, hz1, hz2⟩ := info_parts infoByte
  have htk := fun k => total_take ps k
  have Htk := Lib.hid htk; clear htk
  go_enter Tryz.func142, Tryz.ntmps142
  go_wp2_with fail
  go_loopg [3, 11] ps.length (fun g n i wx => w = wx ∧ ∃ k m : Nat, g = ps.length - k ∧ k ≤ ps.length ∧ i = .int .i64 (k : Int) ∧ n = .int .i64 (m : Int) ∧ m ≤ 140737488355328 ∧ Hid (m = total (ps.take k)))
  case atStart => exact ⟨rfl, 0, 0, rfl, by omega, rfl, rfl, by omega, Lib.hid rfl⟩
  case round =>
    obtain ⟨rfl, k, m, hgk, hk, rfl, rfl, hmb, hmt⟩ := hrel
    have Hgk := Lib.hid hgk; clear hgk
    by_cases hlt : k < ps.length
    · have hpk : ps[k]? = some ps[k] := List.getElem?_eq_getElem hlt
      generalize ps[k] = p at hpk
      obtain ⟨bb, off, rfl, hc⟩ := hp.2 (by intro e; simp [e] at hlt)
      have c1 : w.cell? ⟨bb, off + k, none⟩ = some (.slice p.A p.zs.length p.cap) := hc k p hpk
      have hsum : m + p.zs.length ≤ 140737488355328 := by
        have h1 := Htk.out (k + 1)
        rw [total_snoc ps k p hpk] at h1
        have := hmt.out; omega
      have Hpk := Lib.hid hpk
      clear hpk hc
      have hneg : ¬ ((m : Int) + (p.zs.length : Int) < 0) := by omega
      go_wp2_with fail
      go_roundg (ps.length - (k + 1))
      case measure => rw [Hgk.out]; omega
      case rel => exact ⟨rfl, k + 1, m + p.zs.length, rfl, by omega, by go_num, by go_num, hsum, Lib.hid (by rw [total_snoc ps k p Hpk.out, hmt.out])⟩
    · obtain rfl : k = ps.length := by omega
      rw [List.take_length] at hmt
      go_wp2_with fail
      refine (grow_any w m hmb).mono ?_
      rintro e w1 ⟨v, rfl, hown, hb⟩
      have Hp := Lib.hid hp
      clear hp
      obtain ⟨X, cap, rfl, _⟩ := own_slice hown
      go_wp2_with fail
      go_loopg [6, 27] ps.length (fun g v i wx => ∃ k : Nat, g = ps.length - k ∧ k ≤ ps.length ∧ i = .int .i64 (k : Int) ∧ wx.ownsRow w.heap.size 5 1 v (total (ps.take k)) (u8s (bytesOf (ps.take k))) ∧ Below w.heap.size w wx)
      case atStart => exact ⟨0, rfl, by omega, rfl, by simpa [total, bytesOf, u8s] using hown, hb⟩
      case round =>
        obtain ⟨k, hgk, hk2, rfl, hown2, hb2⟩ := hrel
        have Hgk2 := Lib.hid hgk; clear hgk
        by_cases hlt : k < ps.length
        · have hpk : ps[k]? = some ps[k] := List.getElem?_eq_getElem hlt
          generalize ps[k] = p at hpk
          have hp2 := Hp.out.below hb2
          obtain ⟨bb, off, rfl, hc⟩ := hp2.2 (by intro e; simp [e] at hlt)
          have c1 : wr.cell? ⟨bb, off + k, none⟩ = some (.slice p.A p.zs.length p.cap) := hc k p hpk
          obtain ⟨hok, hmem⟩ := parts_one hp2 k p hpk
          have hsn := hs p hmem
          have hsum : total (ps.take k) + p.zs.length ≤ 140737488355328 := by
            have h1 := Htk.out (k + 1)
            rw [total_snoc ps k p hpk] at h1
            omega
          obtain ⟨pA, pz, pc⟩ := p
          simp only at c1 hok hsn hsum
          cases pA with
          | none => exact absurd rfl hsn
          | some ad =>
            have hsrc : ∀ j u, (u8s pz)[j]? = some u → wr.cell? (ad.add j) = some u := fun j u hj => by
              have hne : pz ≠ [] := by intro e; subst e; simp [u8s] at hj
              obtain ⟨b, o, e, hc'⟩ := hok.1.2 hne
              obtain rfl : ad = ⟨b, o, none⟩ := by simpa using e
              have h1 := src_cells pz b o wr (.cells #[] 0) hc' j u hj
              rwa [World.cell?_alloc_lt _ _ _ (by
                have h2 := World.block_lt_of_cell? _ _ (hc' 0 (List.length_pos_iff.2 hne))
                unfold Addr.add; split <;> simpa using h2)] at h1
            have Hsrc := Lib.hid hsrc
            have Hpk := Lib.hid hpk
            have hszb := hb2.size
            clear hsrc hpk hc hp2 hok hmem hsn
            go_wp2_with (at_builtin; refine wpList_append_own _ rfl _ _ 27 rfl w.heap.size 5 i0 (.int .u8 0) 1 1 Tryz.underlying27 hi hz0 hz1 hz2 rfl (by decide) _ _ _ rfl hown2 ad pz.length pc (u8s pz) rfl ?c1 ?c2 ?c3 ?c4 ?c5 ?c6 ?_)
            case c1 => rw [u8s_len, Nat.mul_one]
            case c2 => exact Hsrc.out
            case c3 => exact u8s_one pz
            case c4 => unfold maxLen; omega
            case c5 => omega
            case c6 => omega
            intro v' w2 hown3 hgrow3 _
            have hb3 := hb2.grown hgrow3 hszb (fun j e => (hown2.lt j e).1)
            go_wp2_with fail
            go_roundg (ps.length - (k + 1))
            case measure => rw [Hgk2.out]; omega
            case rel => exact ⟨k + 1, rfl, by omega, by go_num, own_same hown3 (by rw [total_snoc ps k _ Hpk.out]) (by rw [bytesOf_snoc ps k _ Hpk.out, u8s_app]), hb3⟩
        · obtain rfl : k = ps.length := by omega
          rw [List.take_length] at hown2
          go_wp2_with fail
          go_ret
          exact ⟨_, rfl, hown2, hb2⟩
end Go.Proofs.YtpdfmpegcejmkaaGreatDoor
namespace Go.Proofs.YtpdfmpegcejmkaaGreatDoor
open Go.RowKit
/-- What the reader goes through: the sum, and what stands ahead of the body. -/
def hdB (b : List Int) : List Int := (b.drop 28).take 4 ++ b.take 8
theorem hdB_len {b : List Int} (hl : b.length = 256) : (hdB b).length = 12 := by unfold hdB; rw [List.length_append, List.length_take, List.length_drop, List.length_take, hl]; rfl
theorem hdB_bd {b : List Int} (hb : ∀ z ∈ b, 0 ≤ z ∧ z < 256) : ∀ z ∈ hdB b, 0 ≤ z ∧ z < 256 := by
  intro z hz
  unfold hdB at hz
  rcases List.mem_append.1 hz with h | h
  · exact hb z (List.mem_of_mem_drop (List.mem_of_mem_take h))
  · exact hb z (List.mem_of_mem_take h)
theorem concatHd (w : World) (b0 off : Nat) (b : List Int) (c : Nat) (hb : BytesAt w (some ⟨b0, off, none⟩) b) (hl : b.length = 256) (hc : 256 ≤ c) (hm : c ≤ 9223372036854775807) :
    Calls Tryz.prog 142 #[.slice (some ⟨w.heap.size, 0, none⟩) 2 2] (w.alloc (.cells #[.slice (some ⟨b0, off + 28, none⟩) 4 (c - 28), .slice (some ⟨b0, off, none⟩) 8 c] 27)) fun e w' => ∃ X k, e = .returned (.slice X 12 k) ∧ BytesAt w' X (hdB b) ∧ (X = none → k = 0) ∧ Below w.heap.size w w' := by
  have hbn := below_new w (.cells #[.slice (some ⟨b0, off + 28, none⟩) 4 (c - 28), .slice (some ⟨b0, off, none⟩) 8 c] 27)
  obtain ⟨r0, r1⟩ := row2_cells w (.slice (some ⟨b0, off + 28, none⟩) 4 (c - 28)) (.slice (some ⟨b0, off, none⟩) 8 c) 27
  have l4 : ((b.drop 28).take 4).length = 4 := by rw [List.length_take, List.length_drop, hl]; rfl
  have l8 : (b.take 8).length = 8 := by rw [List.length_take, hl]; rfl
  have hB := hb.below hbn
  have hcut := cut_reads (k := 28) hB (show b.length ≤ c by omega)
  rw [cut_some (show 28 < c by omega)] at hcut
  have hp : PartsAt (w.alloc (.cells #[.slice (some ⟨b0, off + 28, none⟩) 4 (c - 28), .slice (some ⟨b0, off, none⟩) 8 c] 27)) (some ⟨w.heap.size, 0, none⟩) [⟨some ⟨b0, off + 28, none⟩, (b.drop 28).take 4, c - 28⟩, ⟨some ⟨b0, off, none⟩, b.take 8, c⟩] := by
    refine ⟨fun x hx => ?_, fun _ => ⟨w.heap.size, 0, rfl, fun i x hx => ?_⟩⟩
    · simp only [List.mem_cons, List.not_mem_nil, or_false] at hx
      rcases hx with rfl | rfl
      · exact ⟨front_reads hcut, by show ((b.drop 28).take 4).length ≤ c - 28; omega, by show c - 28 ≤ _; omega⟩
      · exact ⟨front_reads hB, by show (b.take 8).length ≤ c; omega, hm⟩
    · match i, hx with
      | 0, hx =>
        obtain rfl : (⟨some ⟨b0, off + 28, none⟩, (b.drop 28).take 4, c - 28⟩ : Part) = x := by simpa using hx
        show _ = some (Value.slice (some ⟨b0, off + 28, none⟩) ((b.drop 28).take 4).length (c - 28))
        rw [l4]; exact r0
      | 1, hx =>
        obtain rfl : (⟨some ⟨b0, off, none⟩, b.take 8, c⟩ : Part) = x := by simpa using hx
        show _ = some (Value.slice (some ⟨b0, off, none⟩) (b.take 8).length c)
        rw [l8]; exact r1
      | i + 2, hx => simp at hx
  have ht : total [(⟨some ⟨b0, off + 28, none⟩, (b.drop 28).take 4, c - 28⟩ : Part), ⟨some ⟨b0, off, none⟩, b.take 8, c⟩] = 12 := by unfold total; simp [l4, l8]
  have hby : bytesOf [(⟨some ⟨b0, off + 28, none⟩, (b.drop 28).take 4, c - 28⟩ : Part), ⟨some ⟨b0, off, none⟩, b.take 8, c⟩] = hdB b := by unfold bytesOf hdB; simp
  refine (concat_any _ _ _ 2 hp (by simp) (by rw [ht]; decide) (by
    intro p hp
    simp only [List.mem_cons, List.not_mem_nil, or_false] at hp
    rcases hp with rfl | rfl <;> simp)).mono ?_
  rintro e w' ⟨v, rfl, ho, hb'⟩
  rw [ht, hby] at ho
  obtain ⟨X, k, rfl, hk, _⟩ := own_slice ho
  obtain ⟨g, cap, e, _⟩ := own_form ho (by decide)
  obtain ⟨rfl, rfl⟩ : X = some ⟨g, 0, none⟩ ∧ k = cap := by simpa using e
  exact ⟨_, _, rfl, own_reads ho (hdB_bd hb.1), (by intro e; cases e), hbn.trans (hb'.mono hbn.size)⟩
/-- Read: the reader's own bytes are new, too. -/
theorem cread_own (σ : Sen) (w : World) (bs : List Int) (A : Option Addr) (c : Nat) (hz : BytesAt w A bs) (hl : bs.length ≤ 140737488351232) (hA : A = none → c = 0) :
    Calls Tryz.prog 106 #[.slice A bs.length c] w fun e w' => ∃ g, e = .returned (.pointer (some ⟨g, 0, none⟩)) ∧ w.heap.size ≤ g ∧ (∃ x cap k ev, RdIs σ w' g bs (.ok 0) x cap k ev ∧ ∀ a, x = some a → w.heap.size ≤ a.block) ∧ Below w.heap.size w w' := by
  go_enter Tryz.func106, Tryz.ntmps106
  go_wp2_with fail
  refine (clone_any w bs A c hz hl hA).mono ?_
  rintro e w1 ⟨v, rfl, hown, hb⟩
  obtain ⟨X, cap, rfl, h1, h2⟩ := own_slice hown
  have Hown := Lib.hid hown
  clear hown
  go_wp2_with fail
  go_ret
  have hrd := own_reads Hown.out hz.1
  have hbn := below_new w1 (.cells #[.slice X bs.length cap, .int .i64 0, .bool true, .nilIface] 165)
  have hlo : ∀ a, X = some a → w.heap.size ≤ a.block ∧ a.block < w1.heap.size := fun a e => Hown.out.lt a.block (by rw [e]; rfl)
  exact ⟨w1.heap.size, rfl, hb.size, ⟨X, cap, 0, .nilIface, ⟨BlockIs.made _ _ _, hrd.below hbn, fun a e => (hlo a e).2, ⟨h1, h2, Nat.zero_le _⟩, rfl, rfl⟩, fun a e => (hlo a e).1⟩, hb.trans (hbn.mono hb.size)⟩
theorem opener_cells {w : World} {g : Nat} {x y : Value} (h : BlockIs w g 273 #[x, y]) : w.cell? ⟨g, 0, none⟩ = some x ∧ w.cell? ⟨g, 1, none⟩ = some y ∧ w.frozen? ⟨g, 0, none⟩ = false ∧ w.frozen? ⟨g, 1, none⟩ = false := ⟨h.cell 0, h.cell 1, h.free 0, h.free 1⟩
set_option maxRecDepth 100000 in
set_option maxHeartbeats 4000000 in
theorem newOpener_any (σ : Sen) (w : World) (b0 off : Nat) (b : List Int) (c : Nat) (hb : BytesAt w (some ⟨b0, off, none⟩) b) (hl : b.length = 256) (hc : 256 ≤ c) (hm : c ≤ 9223372036854775807) :
    Calls Tryz.prog 165 #[.slice (some ⟨b0, off, none⟩) 256 c] w fun e w' => ∃ g, e = .returned (.agg #[.pointer (some ⟨g, 0, none⟩), .slice (some ⟨b0, off, none⟩) 256 c]) ∧ w.heap.size ≤ g ∧ RdAt σ w' g (hdB b) (.ok 0) ∧ Below w.heap.size w w' := by
  have hbn := below_new w (.cells #[.pointer none, .slice none 0 0] 273)
  have hB := BlockIs.made w 273 #[.pointer none, .slice none 0 0]
  have h1 : ∀ w', (Instr.slice 27 (.slice (some ⟨b0, off, none⟩) 256 c) (some (.int .i64 28)) (some (.int .i64 32)) none).run Tryz.prog w' = .ok (.slice (some ⟨b0, off + 28, none⟩) 4 (c - 28)) w' := fun w' => by
    have := cut_mid (some ⟨b0, off, none⟩) 256 28 32 c w' (by decide) (by omega)
    rw [cut_some (show 28 < c by omega)] at this
    exact this
  have h2 : ∀ w', (Instr.slice 27 (.slice (some ⟨b0, off, none⟩) 256 c) none (some (.int .i64 8)) none).run Tryz.prog w' = .ok (.slice (some ⟨b0, off, none⟩) 8 c) w' := fun w' => cut_low (some ⟨b0, off, none⟩) 256 8 c w' (by decide) hc
  have H0 := Lib.hid (And.intro hbn hB)
  obtain ⟨w1, hw1⟩ : ∃ w1, w.alloc (.cells #[.pointer none, .slice none 0 0] 273) = w1 := ⟨_, rfl⟩
  have hB1 := hb.below hbn
  rw [hw1] at H0 hB1
  have HC : Hid (Calls Tryz.prog 142 #[.slice (some ⟨w1.heap.size, 0, none⟩) 2 2] (w1.alloc (.cells #[.slice (some ⟨b0, off + 28, none⟩) 4 (c - 28), .slice (some ⟨b0, off, none⟩) 8 c] 27)).drew fun e w' => ∃ X k, e = .returned (.slice X 12 k) ∧ BytesAt w' X (hdB b) ∧ (X = none → k = 0) ∧ Below w1.heap.size w1.drew w') := Lib.hid (concatHd w1.drew b0 off b c hB1 hl hc hm)
  have Hhl := Lib.hid (hdB_len hl)
  have Hw1 := Lib.hid hw1
  clear hb hbn hB hB1 hw1 hl
  go_enter Tryz.func165, Tryz.ntmps165
  go_wp2_with fail
  rw [Hw1.out]
  have HRd := Lib.hid (fun (w' : World) (X : Option Addr) (k : Nat) (h : BytesAt w' X (hdB b)) (hx : X = none → k = 0) => cread_own σ w' (hdB b) X k h (by rw [Hhl.out]; decide) hx)
  rw [Hhl.out] at HRd
  go_region_held3 (fun _ => True) (trivial) (first
    | (go_at_call 142; refine HC.out.mono ?_; rintro e w2 ⟨X, k, rfl, hx, hxn, hb2⟩; have H2 := Lib.hid (And.intro hx (And.intro hxn (H0.out.1.trans ((undrew hb2).mono H0.out.1.size)))); have B2 := Lib.hid (H0.out.2.below (undrew hb2) H0.out.2.lt); clear hx hxn hb2)
    | (go_at_call 106; refine (HRd.out _ X k H2.out.1 H2.out.2.1).mono ?_; rintro e w3 ⟨g, rfl, hg3, ⟨x3, cap3, k3, ev3, hr3, hlo3⟩, hb3⟩; have HL3 := Lib.hid hlo3; clear hlo3; have PL3 := Lib.hid B2.out.lt; have H3 := Lib.hid (And.intro hr3 (And.intro (H2.out.2.2.trans (hb3.mono H2.out.2.2.size)) (Nat.le_trans H2.out.2.2.size hg3))); have B3 := Lib.hid (B2.out.below hb3 B2.out.lt); obtain ⟨y0, y1, y2, y3⟩ := opener_cells B3.out; have G3 := Lib.hid (Nat.lt_of_lt_of_le B2.out.lt hg3); clear hr3 hb3 hg3)
    | fail)
  all_goals
    have BZ := Lib.hid ((B3.out.set1 0 (.pointer (some ⟨g, 0, none⟩))).set1 1 (.slice (some ⟨b0, off, none⟩) 256 c))
    have GZ := Lib.hid (grown_at (grown_at (World.grownBy.refl w3 (some w.heap.size)) 0 (.pointer (some ⟨g, 0, none⟩))) 1 (.slice (some ⟨b0, off, none⟩) 256 c))
    clear y0 y1 y2 y3
    generalize (w3.setCell ⟨w.heap.size, 0, none⟩ (.pointer (some ⟨g, 0, none⟩))).setCell ⟨w.heap.size, 1, none⟩ (.slice (some ⟨b0, off, none⟩) 256 c) = wz at *
    obtain ⟨z0, z1, _, _⟩ := opener_cells BZ.out
    go_wp2_with fail
    have hbz : Below w.heap.size w wz := below_grown H3.out.2.1 GZ.out H3.out.2.1.size (Nat.le_refl _)
    exact bodyPost_ret (v := .agg #[.pointer (some ⟨g, 0, none⟩), .slice (some ⟨b0, off, none⟩) 256 c]) (by simp [results, Tryz.results165, go_sem, z0, z1]) rfl ⟨g, rfl, H3.out.2.2, ⟨x3, cap3, k3, ev3, H3.out.1.kept GZ.out (fun e => by have := Option.some.inj e; have := G3.out; omega) (fun a ha e => by have := Option.some.inj e; have := HL3.out a ha; have := PL3.out; omega)⟩, hbz⟩
end Go.Proofs.YtpdfmpegcejmkaaGreatDoor
