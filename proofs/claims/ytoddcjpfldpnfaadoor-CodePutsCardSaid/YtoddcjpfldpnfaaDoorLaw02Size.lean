/- Law 02: how much parts weigh. -/
import Derived.Test.YtoddcjpfldpnfaaDoorLaw02Base
namespace Go.Proofs.YtoddcjpfldpnfaaDoor
open Go.RowKit
set_option maxRecDepth 100000 in
set_option maxHeartbeats 2000000 in
theorem size_any (w : World) (A : Option Addr) (ps : List PartV) (c : Nat) (h : PVAt w A ps) (hl : ps.length ≤ 140737488351232) :
    Calls Tryd.prog 6 #[.slice A ps.length c] w fun e w' => ∃ m : Nat, e = .returned (.int .i64 (m : Int)) ∧ m ≤ 1000000000000000 ∧ (m ≤ 3000 → m = tot ps) ∧ ∃ n, w' = w.drewN n := by
  go_enter Tryd.func6, Tryd.ntmps6
  go_wp2_with fail
  go_loopg [3, 4] ps.length (fun g n i wx => (∃ nq, wx = w.drewN nq) ∧ ∃ k m : Nat, g = ps.length - k ∧ k ≤ ps.length ∧ i = .int .i64 (k : Int) ∧ n = .int .i64 (m : Int) ∧ m ≤ 140737488351232 * 3 + 140737488351232 + 3000 ∧ Hid (m + k = ps.length + tot (ps.take k)))
  case atStart => exact ⟨⟨0, rfl⟩, 0, ps.length, rfl, by omega, rfl, rfl, by omega, Lib.hid rfl⟩
  case round =>
    obtain ⟨⟨nq, rfl⟩, k, m, hgk, hk, rfl, rfl, hmb, hmt⟩ := hrel
    have Hgk := Lib.hid hgk; clear hgk
    by_cases hgo : k < ps.length ∧ m ≤ 3000
    · obtain ⟨hlt, hm2⟩ := hgo
      have hpk : ps[k]? = some ps[k] := List.getElem?_eq_getElem hlt
      generalize ps[k] = p at hpk
      obtain ⟨bb, off, rfl, hc⟩ := h.2 (by intro e; simp [e] at hlt)
      have c2 : w.cell? ⟨bb, off + k * 9 + 2, none⟩ = some (.slice p.nA p.ns.length p.nc) := hc k p hpk 2 _ rfl
      have c3 : w.cell? ⟨bb, off + k * 9 + 3, none⟩ = some (.slice p.tA p.ts.length p.tc) := hc k p hpk 3 _ rfl
      have c7 : w.cell? ⟨bb, off + k * 9 + 7, none⟩ = some (.slice p.bA p.ent.body.length p.bc) := hc k p hpk 7 _ rfl
      have hpl := (h.1 p (List.mem_of_getElem? hpk)).len
      have Hpk := Lib.hid hpk
      obtain ⟨l1, l2, l3⟩ := hpl
      clear hpk hc
      go_wp2_with fail
      go_quiet (fail)
      go_wp2_with fail
      go_roundg (ps.length - (k + 1))
      case measure => rw [Hgk.out]; omega
      case rel => exact ⟨⟨_, rfl⟩, k + 1, m + p.ns.length + p.ts.length + p.ent.body.length, rfl, by omega, by go_num, by go_num, by omega, Lib.hid (by rw [tot_snoc ps k p Hpk.out]; have := hmt.out; omega)⟩
    · by_cases hbig : m > 3000
      · have hb1 : decide ((m : Int) ≤ 3000) = false := decide_eq_false (by omega)
        clear hgo
        by_cases hlt : k < ps.length
        all_goals
          go_wp2_with fail
          go_ret
          exact ⟨m, rfl, by omega, fun h => by omega, _, rfl⟩
      · obtain rfl : k = ps.length := by omega
        clear hgo
        rw [List.take_length] at hmt
        have hmt' := hmt.out
        have hm3 : m ≤ 3000 := by omega
        have Hmm := Lib.hid (show m = tot ps by omega)
        clear hmt'
        go_wp2_with fail
        go_ret
        exact ⟨m, rfl, by omega, fun _ => Hmm.out, _, rfl⟩
end Go.Proofs.YtoddcjpfldpnfaaDoor
