/- The sum of a block: the package's. -/
/- slices.Reverse at rows of bytes. -/
/- slices.Grow, slices.Concat at bytes. -/
import Derived.Test.YtpdfmpegcejmkaaGreatDoorMixSum
import Derived.Test.YtpdfmpegcejmkaaGreatDoorUnitModel
import Derived.Test.YtpdfmpegcejmkaaGreatDoorReadNum
import Derived.RegionTactic
import Derived.ChangeAlike
namespace Go.Proofs.YtpdfmpegcejmkaaGreatDoor
open Go.RowKit
theorem cut_low (X : Option Addr) (n k cap : Nat) (w : World) (h1 : k ≤ n) (h2 : n ≤ cap) : (Instr.slice 27 (.slice X n cap) none (some (.int .i64 (k : Int))) none).run Tryz.prog w = .ok (.slice X k cap) w := by
  have hs : (sizeOf (Tryz.prog.elem 27)).run Tryz.prog w = .ok 1 w := by kernel_rfl
  rw [run_slice_h w 27 X n cap (by kernel_rfl) .i64 k (by omega) (by omega), hs]
  have ha : Option.map (fun x : Addr => x.add 0) X = X := by cases X <;> simp [Addr.add]
  simp [Result.andThen, sliced, ha]
/-- The two parts of a block that are summed up. -/
theorem block_parts {w : World} {A : Option Addr} {b : List Int} {c g : Nat} (hb : BytesAt w A b) (hl : b.length = 256) (hc : 256 ≤ c) (hm : c ≤ 9223372036854775807)
    (h0 : w.cell? ⟨g, 0, none⟩ = some (.slice (cutAt A c 36) 220 (c - 36))) (h1 : w.cell? ⟨g, 1, none⟩ = some (.slice A 28 c)) : PartsAt w (some ⟨g, 0, none⟩) [⟨cutAt A c 36, b.drop 36, c - 36⟩, ⟨A, b.take 28, c⟩] := by
  have l36 : (b.drop 36).length = 220 := by rw [List.length_drop, hl]
  have l28 : (b.take 28).length = 28 := by rw [List.length_take, hl]; rfl
  refine ⟨fun x hx => ?_, fun _ => ⟨g, 0, rfl, fun i x hx => ?_⟩⟩
  · simp only [List.mem_cons, List.not_mem_nil, or_false] at hx
    rcases hx with rfl | rfl
    · exact ⟨cut_reads hb (by omega), by show (b.drop 36).length ≤ c - 36; omega, by show c - 36 ≤ _; omega⟩
    · exact ⟨front_reads hb, by show (b.take 28).length ≤ c; omega, hm⟩
  · match i, hx with
    | 0, hx =>
      obtain rfl : (⟨cutAt A c 36, b.drop 36, c - 36⟩ : Part) = x := by simpa using hx
      show _ = some (Value.slice (cutAt A c 36) (b.drop 36).length (c - 36))
      rw [l36]; exact h0
    | 1, hx =>
      obtain rfl : (⟨A, b.take 28, c⟩ : Part) = x := by simpa using hx
      show _ = some (Value.slice A (b.take 28).length c)
      rw [l28]; exact h1
    | i + 2, hx => simp at hx
theorem block_row (A : Option Addr) (b : List Int) (c : Nat) : bytesOf [⟨cutAt A c 36, b.drop 36, c - 36⟩, ⟨A, b.take 28, c⟩] = unitRow b := by unfold bytesOf unitRow; simp
theorem usumRow (w : World) (A : Option Addr) (b : List Int) (c : Nat) (hb : BytesAt w A b) (hl : b.length = 256) (hc : 256 ≤ c) (hm : c ≤ 9223372036854775807) :
    Calls Tryz.prog 115 #[.slice (some ⟨w.heap.size, 0, none⟩) 2 2] (w.alloc (.cells #[.slice (cutAt A c 36) 220 (c - 36), .slice A 28 c] 27)) fun e w' => e = .returned (.int .u32 ((Mx.sum (unitRow b)).toNat : Int)) ∧ Below w.heap.size w w' := by
  have hbn := below_new w (.cells #[.slice (cutAt A c 36) 220 (c - 36), .slice A 28 c] 27)
  obtain ⟨r0, r1⟩ := row2_cells w (.slice (cutAt A c 36) 220 (c - 36)) (.slice A 28 c) 27
  have HS := sum_any _ _ 2 _ (block_parts (hb.below hbn) hl hc hm r0 r1) (by simp)
  rw [block_row] at HS
  refine HS.mono ?_
  rintro e w' ⟨rfl, hb2⟩
  exact ⟨rfl, hbn.trans (hb2.mono hbn.size)⟩
set_option maxRecDepth 100000 in
set_option maxHeartbeats 1000000 in
theorem usum_any (w : World) (A : Option Addr) (b : List Int) (c : Nat) (hb : BytesAt w A b) (hl : b.length = 256) (hc : 256 ≤ c) (hm : c ≤ 9223372036854775807) :
    Calls Tryz.prog 134 #[.slice A 256 c] w fun e w' => e = .returned (.int .u32 ((Mx.sum (unitRow b)).toNat : Int)) ∧ Below w.heap.size w w' := by
  have h1 : ∀ w, (Instr.slice 27 (.slice A 256 c) (some (.int .i64 36)) none none).run Tryz.prog w = .ok (.slice (cutAt A c 36) 220 (c - 36)) w := fun w => cut_run1 A 256 36 c w (by decide)
  have h2 : ∀ w, (Instr.slice 27 (.slice A 256 c) none (some (.int .i64 28)) none).run Tryz.prog w = .ok (.slice A 28 c) w := fun w => cut_low A 256 28 c w (by decide) hc
  have HS : Hid (Calls Tryz.prog 115 #[.slice (some ⟨w.heap.size, 0, none⟩) 2 2] (w.alloc (.cells #[.slice (cutAt A c 36) 220 (c - 36), .slice A 28 c] 27)).drew fun e w' => e = .returned (.int .u32 ((Mx.sum (unitRow b)).toNat : Int)) ∧ Below w.heap.size w.drew w') := Lib.hid (usumRow w.drew A b c hb hl hc hm)
  clear hb hl
  go_enter Tryz.func134, Tryz.ntmps134
  go_wp2_with fail
  go_region_with ((go_at_call 115; refine HS.out.mono ?_; rintro e w1 ⟨rfl, hb1⟩; have hb2 : Below w.heap.size w w1 := undrew hb1))
  all_goals
    go_wp2_with fail
    go_ret
    exact ⟨rfl, hb2⟩
end Go.Proofs.YtpdfmpegcejmkaaGreatDoor
namespace Go.Proofs.YtpdfmpegcejmkaaGreatDoor
open Go.RowKit
theorem setCell_drew' (w : World) (a : Addr) (u : Value) : w.drew.setCell a u = (w.setCell a u).drew := rfl
theorem get_some {α : Type} (xs : List α) (k : Nat) (h : k < xs.length) : ∃ x, xs[k]? = some x := ⟨xs[k], List.getElem?_eq_getElem h⟩
set_option maxRecDepth 100000 in
set_option maxHeartbeats 1000000 in
theorem reverse_some (w : World) (B g n cap : Nat) (xs : List Value) (h : w.ownsRow B 27 1 (.slice (some ⟨g, 0, none⟩) n cap) n xs) (hn : n ≤ 9223372036854775807) (hx : ∀ x ∈ xs, ∃ A m c, x = .slice A m c) :
    Calls Tryz.prog 141 #[.slice (some ⟨g, 0, none⟩) n cap] w fun e w' => e = .returned (.tuple #[]) ∧ w'.ownsRow B 27 1 (.slice (some ⟨g, 0, none⟩) n cap) n xs.reverse ∧ w.grownBy w' (some g) := by
  have hlen : xs.length = n := by have := h.1; omega
  have Hlen := Lib.hid hlen; clear hlen
  have H := Lib.hid h; clear h
  go_enter Tryz.func141, Tryz.ntmps141
  go_wp2_with fail
  go_loopg [2, 3] n (fun gg i j wx => ∃ (k : Nat) (ys : List Value), gg = n - k ∧ 2 * k ≤ n + 1 ∧ i = .int .i64 (k : Int) ∧ j = .int .i64 ((n : Int) - 1 - (k : Int)) ∧ wx.ownsRow B 27 1 (.slice (some ⟨g, 0, none⟩) n cap) n ys ∧ w.grownBy wx (some g) ∧ Hid (∀ i, i < n → ys[i]? = if i < k ∨ n ≤ i + k then xs[n - 1 - i]? else xs[i]?))
  case atStart => exact ⟨0, xs, rfl, by omega, rfl, by go_num, H.out, World.grownBy.refl _ _, Lib.hid (fun i hi => by rw [if_neg (by omega)])⟩
  case round =>
    obtain ⟨k, ys, hgk, hk, rfl, rfl, hown, hgr, hys⟩ := hrel
    have Hgk := Lib.hid hgk; clear hgk
    by_cases hlt : (k : Int) < (n : Int) - 1 - (k : Int)
    · have hkx : ys[k]? = xs[k]? := by rw [hys.out k (by omega), if_neg (by omega)]
      have hjx : ys[n - 1 - k]? = xs[n - 1 - k]? := by rw [hys.out (n - 1 - k) (by omega), if_neg (by omega)]
      obtain ⟨x1, hk1⟩ := get_some xs k (by have := Hlen.out; omega)
      obtain ⟨x2, hj1⟩ := get_some xs (n - 1 - k) (by have := Hlen.out; omega)
      obtain ⟨A1, m1, q1, e1⟩ := hx _ (List.mem_of_getElem? hk1)
      obtain ⟨A2, m2, q2, e2⟩ := hx _ (List.mem_of_getElem? hj1)
      have c1 : wr.cell? ⟨g, k, none⟩ = some (.slice A1 m1 q1) := by rw [hown.cellAt k (by omega), hkx, hk1, e1]
      have c2 : wr.cell? ⟨g, n - 1 - k, none⟩ = some (.slice A2 m2 q2) := by rw [hown.cellAt (n - 1 - k) (by omega), hjx, hj1, e2]
      have hf : ∀ i, wr.frozen? ⟨g, i, none⟩ = false := fun i => hown.frozenAt i
      have hne : n - 1 - k ≠ k := by omega
      subst e1 e2
      have HE := Lib.hid (And.intro hk1 hj1)
      clear hkx hjx hk1 hj1
      have hm : (n : Int) - 1 - (k : Int) = ((n - 1 - k : Nat) : Int) := by omega
      have hmn : n - 1 - k < n := by omega
      have hkm : k < n - 1 - k := by omega
      have hkn : k < n := by omega
      rw [hm]
      have Hm := Lib.hid (And.intro hm (show n - 1 - k + 1 + k = n by omega)); clear hm hlt
      generalize n - 1 - k = m at *
      have i0 : (0 : Int) ≤ (k : Int) := by omega
      have i1 : (k : Int) < (n : Int) := by omega
      have i2 : (0 : Int) ≤ (m : Int) := by omega
      have i3 : (m : Int) < (n : Int) := by omega
      have i4 : (k : Int) < (m : Int) := by omega
      go_wp2_with fail
      go_region
      go_wp2_with fail
      go_roundg (n - (k + 1))
      case measure => rw [Hgk.out]; omega
      case rel =>
        have s1 := hown.stored k (.slice A2 m2 q2)
        have s2 := s1.1.stored m (.slice A1 m1 q1)
        have hl1 : ys.length = n := by have := hown.1; omega
        have hmm := Hm.out
        exact ⟨k + 1, (ys.set k (.slice A2 m2 q2)).set m (.slice A1 m1 q1), rfl, by omega, by go_num, by congr 1; omega, s2.1.drew, grown_drewN ((hgr.trans s1.2).trans s2.2) 1, Lib.hid (fun i hi => by
          rw [List.getElem?_set, List.getElem?_set]
          by_cases h1 : m = i
          · subst h1
            rw [if_pos rfl, if_pos (by simpa [hl1] using hi), if_pos (.inr (by omega)), show n - 1 - m = k by omega]
            exact HE.out.1.symm
          · rw [if_neg h1]
            by_cases h2 : k = i
            · subst h2
              rw [if_pos rfl, if_pos (by omega), if_pos (.inl (by omega)), show n - 1 - k = m by omega]
              exact HE.out.2.symm
            · rw [if_neg h2, hys.out i hi]
              by_cases h3 : i < k ∨ n ≤ i + k
              · rw [if_pos h3, if_pos (by omega)]
              · rw [if_neg h3, if_neg (by omega)])⟩
    · have hfin : ys = xs.reverse := by
        have hl1 : ys.length = n := by have := hown.1; omega
        apply List.ext_getElem?
        intro i
        by_cases hi : i < n
        · rw [hys.out i hi, List.getElem?_reverse (by rw [Hlen.out]; exact hi), Hlen.out]
          by_cases h3 : i < k ∨ n ≤ i + k
          · rw [if_pos h3]
          · rw [if_neg h3, show n - 1 - i = i by omega]
        · rw [List.getElem?_eq_none (by omega), List.getElem?_eq_none (by rw [List.length_reverse, Hlen.out]; omega)]
      subst hfin
      have hge : decide ((k : Int) < (n : Int) - 1 - (k : Int)) = false := decide_eq_false hlt
      go_wp2_with fail
      go_end0
      exact ⟨rfl, hown, hgr⟩
set_option maxRecDepth 100000 in
theorem reverse_none (w : World) :
    Calls Tryz.prog 141 #[.slice none 0 0] w fun e w' => e = .returned (.tuple #[]) ∧ w = w' := by
  go_enter Tryz.func141, Tryz.ntmps141
  go_wp2_with fail
  refine wp_loop_rounds 1 ?_
  rw [rounds_succ]
  go_wp2_with fail
  go_end0
  exact ⟨rfl, rfl⟩
theorem reverse_any (w : World) (B n : Nat) (v : Value) (xs : List Value) (h : w.ownsRow B 27 1 v n xs) (hn : n ≤ 9223372036854775807) (hx : ∀ x ∈ xs, ∃ A m c, x = .slice A m c) :
    Calls Tryz.prog 141 #[v] w fun e w' => e = .returned (.tuple #[]) ∧ w'.ownsRow B 27 1 v n xs.reverse ∧ w.grownBy w' v.ownBlock := by
  rcases h.2 with ⟨rfl, rfl⟩ | ⟨g, cap, cur, rfl, _⟩
  · have hx0 : xs = [] := List.eq_nil_of_length_eq_zero (by simpa using h.1)
    subst hx0
    exact (reverse_none w).mono fun e w' ⟨he, hw⟩ => ⟨he, hw ▸ h, hw ▸ World.grownBy.refl _ _⟩
  · exact reverse_some w B g n cap xs h hn hx
end Go.Proofs.YtpdfmpegcejmkaaGreatDoor
namespace Go.Proofs.YtpdfmpegcejmkaaGreatDoor
open Go.RowKit
theorem run_append_zeros (w : World) (ty : TypeId) (n : Nat) (h0 : 0 < n) (h1 : n ≤ 140737488355328) :
    ∃ cur : Array Value, cur.size = grownCap w n 0 5 ∧ (Builtin.append_ #[27, 3] ty #[.slice none 0 0, .int .i64 (n : Int)]).run Tryz.prog w =
      .ok (.slice (some ⟨w.heap.size, 0, none⟩) n (grownCap w n 0 5)) (w.drew.alloc (.cells cur 5)) := by
  obtain ⟨i0, hi, hz, hz1, hz2⟩ := info_parts infoByte
  have hn : n ≠ 0 := by omega
  have h63 : ¬ (9223372036854775807 < (n : Int)) := by omega
  have h48 : ¬ (281474976710656 < Builtin.nextslicecap n 0) := by rw [nextslicecap_zero h0]; omega
  have hneg : ¬ ((n : Int) < 0) := by omega
  have hbig : ¬ (281474976710656 < (n : Int)) := by omega
  have hw : IntKind.i64.wrap (n : Int) = n := IntWalk.i64_in _ (by omega)
  have hge := grownCap_ge w n 0 5
  refine ⟨Builtin.zeroCells #[.int .u8 0] n ++ Builtin.zeroCells #[.int .u8 0] (grownCap w n 0 5 - n), by simp [size_zeroCells]; omega, ?_⟩
  simp [Builtin.append_, run_underlying Tryz.underlying27, run_underlying Tryz.underlying3, sizeOf, typeInfo, zeroValue, hi, hz, hz1, hz2, Builtin.lenOf, Builtin.firstCells, hn, h63, h48, hneg, hbig, hw, asInt, asIntOf, Question.forced, newRow, grownCap]
  rfl
theorem wpList_append_run {P : Program} {w w' : World} {ops : Array Oper} {rest : List Oper} {o : Oper} {a : Act} {Q : Exit → Act → World → Prop} (hgd : o.guard = none) (s x : Operand) (t u : TypeId)
    (ho : o.op = .call { callee := .builtin .append, args := #[s, x], argTypes := #[t, u] }) (v v1 v2 : Value) (hs : a.eval s = v1) (hx : a.eval x = v2)
    (hr : (Builtin.append_ #[t, u] o.type #[v1, v2]).run P w = .ok v w') (h : wpList P ops Q rest (a.put o.dst v) w') : wpList P ops Q (o :: rest) a w := by
  refine wpList_plain hgd fun K hK => ?_
  unfold Oper.wp execOp
  simp only [ho, resolve, invoke, builtin, Sem.run_bind, Sem.run_pure, Result.andThen_ok, List.map_toArray, List.map_cons, List.map_nil, hs, hx, hr]
  exact hK _ _ h
set_option maxRecDepth 100000 in
theorem grow_any (w : World) (n : Nat) (h1 : n ≤ 140737488355328) :
    Calls Tryz.prog 163 #[.slice none 0 0, .int .i64 (n : Int)] w fun e w' => ∃ v, e = .returned v ∧ w'.ownsRow w.heap.size 5 1 v 0 [] ∧ Below w.heap.size w w' := by
  by_cases h0 : n = 0
  · subst h0
    go_enter Tryz.func163, Tryz.ntmps163
    go_wp2_with fail
    go_ret
    exact ⟨_, rfl, World.ownsRow_nil _ _ _ _, Below.refl _ _⟩
  · obtain ⟨cur, hcs, hrun⟩ := run_append_zeros w 27 n (by omega) h1
    have hge := grownCap_ge w n 0 5
    have hle := grownCap_le_maxLen w n 0 5 (by unfold maxLen; omega)
    have hown := World.ownsRow_made (base := w.heap.size) (e := 5) (size := 1) w.drew cur (grownCap w n 0 5) (by simp) hle (by omega)
    have hb : Below w.heap.size w (w.drew.alloc (.cells cur 5)) := ((Below.refl _ _).drew).alloc (by simp) _
    generalize hC : grownCap w n 0 5 = cap at *
    have HC := Lib.hid hC
    clear hC hcs
    have hpos : 0 < n := by omega
    unfold maxLen at hle
    have Hrun := Lib.hid hrun; clear hrun
    have q1 : (0 : Int) ≤ (cap : Int) := by omega
    go_enter Tryz.func163, Tryz.ntmps163
    go_wp2_with (at_builtin; refine wpList_append_run rfl _ _ 27 3 rfl _ _ _ rfl rfl Hrun.out ?_)
    go_ret
    exact ⟨_, rfl, hown, hb⟩
/-- Rows of bytes in memory, as their headers lie. -/
theorem parts_one {w : World} {X : Option Addr} {ps : List Part} (h : PartsAt w X ps) (k : Nat) (p : Part) (hp : ps[k]? = some p) : p.ok w ∧ p ∈ ps := ⟨h.1 p (List.mem_of_getElem? hp), List.mem_of_getElem? hp⟩
theorem bytesOf_snoc (ps : List Part) (k : Nat) (p : Part) (h : ps[k]? = some p) : bytesOf (ps.take (k + 1)) = bytesOf (ps.take k) ++ p.zs := by
  unfold bytesOf
  rw [List.take_add_one, h]; simp
theorem bytesOf_len (ps : List Part) : (bytesOf ps).length = total ps := by
  unfold bytesOf total
  induction ps with
  | nil => rfl
  | cons p ps ih => simp [ih]
theorem total_take (ps : List Part) (k : Nat) : total (ps.take k) ≤ total ps := by
  induction ps generalizing k with
  | nil => simp
  | cons p ps ih =>
    cases k with
    | zero => simp [total]
    | succ k => have := ih k; simp only [List.take_succ_cons, total, List.map_cons, List.sum_cons] at this ⊢; omega
set_option maxRecDepth 100000 in
set_option maxHeartbeats 4000000 in
theorem concat_any (w : World) (ps : List Part) (A : Option Addr) (c : Nat) (hp : PartsAt w A ps) (hl : ps.length ≤ 140737488355328) (ht : total ps ≤ 140737488355328) (hs : ∀ p ∈ ps, p.A ≠ none) :
    Calls Tryz.prog 142 #[.slice A ps.length c] w fun e w' => ∃ v, e = .returned v ∧ w'.ownsRow w.heap.size 5 1 v (total ps) (u8s (bytesOf ps)) ∧ Below w.heap.size w w' := by
  obtain ⟨i0, hi, hz0, hz1, hz2⟩ := info_parts infoByte
  have htk := fun k => total_take ps k
  have Htk := Lib.hid htk; clear htk
  go_enter Tryz.func142, Tryz.ntmps142
  go_wp2_with fail
  go_loopg [3, 11] ps.length (fun g n i wx => w = wx ∧ ∃ k m : Nat, g = ps.length - k ∧ k ≤ ps.length ∧ i = .int .i64 (k : Int) ∧ n = .int .i64 (m : Int) ∧ m ≤ 140737488355328 ∧ Hid (m = total (ps.take k)))
  case atStart => exact ⟨rfl, 0, 0, rfl, by omega, rfl, rfl, by omega, Lib.hid rfl⟩
  case round =>
    obtain ⟨rfl, k, m, hgk, hk, rfl, rfl, hmb, hmt⟩ := hrel
    have Hgk := Lib.hid hgk; clear hgk
    by_cases hlt : k < ps.length
    · have hpk : ps[k]? = some ps[k] := List.getElem?_eq_getElem hlt
      generalize ps[k] = p at hpk
      obtain ⟨bb, off, rfl, hc⟩ := hp.2 (by intro e; simp [e] at hlt)
      have c1 : w.cell? ⟨bb, off + k, none⟩ = some (.slice p.A p.zs.length p.cap) := hc k p hpk
      have hsum : m + p.zs.length ≤ 140737488355328 := by
        have h1 := Htk.out (k + 1)
        rw [total_snoc ps k p hpk] at h1
        have := hmt.out; omega
      have Hpk := Lib.hid hpk
      clear hpk hc
      have hneg : ¬ ((m : Int) + (p.zs.length : Int) < 0) := by omega
      go_wp2_with fail
      go_roundg (ps.length - (k + 1))
      case measure => rw [Hgk.out]; omega
      case rel => exact ⟨rfl, k + 1, m + p.zs.length, rfl, by omega, by go_num, by go_num, hsum, Lib.hid (by rw [total_snoc ps k p Hpk.out, hmt.out])⟩
    · obtain rfl : k = ps.length := by omega
      rw [List.take_length] at hmt
      go_wp2_with fail
      refine (grow_any w m hmb).mono ?_
      rintro e w1 ⟨v, rfl, hown, hb⟩
      have Hp := Lib.hid hp
      clear hp
      obtain ⟨X, cap, rfl, _⟩ := own_slice hown
      go_wp2_with fail
      go_loopg [6, 27] ps.length (fun g v i wx => ∃ k : Nat, g = ps.length - k ∧ k ≤ ps.length ∧ i = .int .i64 (k : Int) ∧ wx.ownsRow w.heap.size 5 1 v (total (ps.take k)) (u8s (bytesOf (ps.take k))) ∧ Below w.heap.size w wx)
      case atStart => exact ⟨0, rfl, by omega, rfl, by simpa [total, bytesOf, u8s] using hown, hb⟩
      case round =>
        obtain ⟨k, hgk, hk2, rfl, hown2, hb2⟩ := hrel
        have Hgk2 := Lib.hid hgk; clear hgk
        by_cases hlt : k < ps.length
        · have hpk : ps[k]? = some ps[k] := List.getElem?_eq_getElem hlt
          generalize ps[k] = p at hpk
          have hp2 := Hp.out.below hb2
          obtain ⟨bb, off, rfl, hc⟩ := hp2.2 (by intro e; simp [e] at hlt)
          have c1 : wr.cell? ⟨bb, off + k, none⟩ = some (.slice p.A p.zs.length p.cap) := hc k p hpk
          obtain ⟨hok, hmem⟩ := parts_one hp2 k p hpk
          have hsn := hs p hmem
          have hsum : total (ps.take k) + p.zs.length ≤ 140737488355328 := by
            have h1 := Htk.out (k + 1)
            rw [total_snoc ps k p hpk] at h1
            omega
          obtain ⟨pA, pz, pc⟩ := p
          simp only at c1 hok hsn hsum
          cases pA with
          | none => exact absurd rfl hsn
          | some ad =>
            have hsrc : ∀ j u, (u8s pz)[j]? = some u → wr.cell? (ad.add j) = some u := fun j u hj => by
              have hne : pz ≠ [] := by intro e; subst e; simp [u8s] at hj
              obtain ⟨b, o, e, hc'⟩ := hok.1.2 hne
              obtain rfl : ad = ⟨b, o, none⟩ := by simpa using e
              have h1 := src_cells pz b o wr (.cells #[] 0) hc' j u hj
              rwa [World.cell?_alloc_lt _ _ _ (by
                have h2 := World.block_lt_of_cell? _ _ (hc' 0 (List.length_pos_iff.2 hne))
                unfold Addr.add; split <;> simpa using h2)] at h1
            have Hsrc := Lib.hid hsrc
            have Hpk := Lib.hid hpk
            have hszb := hb2.size
            clear hsrc hpk hc hp2 hok hmem hsn
            go_wp2_with (at_builtin; refine wpList_append_own _ rfl _ _ 27 rfl w.heap.size 5 i0 (.int .u8 0) 1 1 Tryz.underlying27 hi hz0 hz1 hz2 rfl (by decide) _ _ _ rfl hown2 ad pz.length pc (u8s pz) rfl ?c1 ?c2 ?c3 ?c4 ?c5 ?c6 ?_)
            case c1 => rw [u8s_len, Nat.mul_one]
            case c2 => exact Hsrc.out
            case c3 => exact u8s_one pz
            case c4 => unfold maxLen; omega
            case c5 => omega
            case c6 => omega
            intro v' w2 hown3 hgrow3 _
            have hb3 := hb2.grown hgrow3 hszb (fun j e => (hown2.lt j e).1)
            go_wp2_with fail
            go_roundg (ps.length - (k + 1))
            case measure => rw [Hgk2.out]; omega
            case rel => exact ⟨k + 1, rfl, by omega, by go_num, own_same hown3 (by rw [total_snoc ps k _ Hpk.out]) (by rw [bytesOf_snoc ps k _ Hpk.out, u8s_app]), hb3⟩
        · obtain rfl : k = ps.length := by omega
          rw [List.take_length] at hown2
          go_wp2_with fail
          go_ret
          exact ⟨_, rfl, hown2, hb2⟩
end Go.Proofs.YtpdfmpegcejmkaaGreatDoor
