/- What the rows of laws share: rows of rows of bytes opened; small facts of the program. -/
import Derived.Test.YtgjdoiblgbdebaaDoorKitBase
import Derived.Test.YtgjdoiblgbdebaaDoorLawKit
namespace Go.Proofs.YtgjdoiblgbdebaaDoor
open Go.ChangeShapes Go.WideShapes Go.RowKit Go.Deep
theorem open_rows {H : Type} {enc : TypeId × Value → H} {P : Program} {W : World} {base : Nat} {t e1 e : TypeId} {v : Value} {d : DataW H} {pl : List MemPlace}
    (ht : P.underlying t = some (.slice e1)) (he1 : P.underlying e1 = some (.slice e)) (he : P.underlying e = some (.int .u8)) (hc1 : P.cellsOf e1 = 1) (hc : P.cellsOf e = 1) (hby1 : P.bytesOf e1 = 24) (hby : P.bytesOf e = 1)
    (hv : Value.okWide P W .any base t v) (h : DataW.Trod enc P W 0 (fun _ => true) true t v d pl) (hw : ∀ n ∈ d.weights P t, n ≤ reachBytes) :
    ∃ (A : Option Addr) (ps : List Part) (cap : Nat), v = .slice A ps.length cap ∧ PartsAt W A ps ∧ ps.length ≤ 140737488351232 ∧ ∀ p ∈ ps, p.zs.length ≤ 140737488351232 ∧ (p.A = none → p.cap = 0) := by
  obtain ⟨a0, len, cap, rfl⟩ := okWide_slice ht hv
  obtain ⟨fuel, hf⟩ := h
  rcases open_slice ht hf with ⟨hcs, hx⟩ | ⟨a, len, cap, m, n, D, Pl, hcs, _, hl, hm, hmm, hx, hi⟩
  · simp [Value.cells] at hcs
    obtain ⟨rfl, rfl, rfl⟩ := hcs
    exact ⟨none, [], 0, rfl, ⟨(fun p hp => by cases hp), (fun h => absurd rfl h)⟩, Nat.zero_le _, (fun p hp => by cases hp)⟩
  · simp [Value.cells] at hcs
    obtain ⟨rfl, rfl, rfl⟩ := hcs
    simp only [Prod.mk.injEq] at hx
    simp only [if_true] at hmm
    have hwlen : (len + (m - len)) * 24 ≤ reachBytes := by
      refine hw _ ?_
      rw [hx.1]
      simp only [DataW.weights, ht, hby1, List.length_map, List.length_range]
      exact List.mem_cons_self
    have each : ∀ i, i < len → ∃ p : Part, W.cell? (a.add i) = some p.val ∧ p.ok W ∧ p.zs.length ≤ 140737488351232 ∧ (p.A = none → p.cap = 0) := by
      intro i hil
      obtain ⟨cs', hcl, htr⟩ := hi i (by omega)
      rw [hc1, Nat.mul_one] at hcl
      obtain ⟨_, hlen1, hcell⟩ := World.cells?_some hcl
      obtain ⟨A, zs, c, rfl, k1, k2, k3, k4, k5⟩ := open_bytes_raw he1 he hc hby htr (fun n hn => hw n (by
        rw [hx.1]
        simp only [DataW.weights, ht]
        refine List.mem_cons.2 (.inr (List.mem_append.2 (.inl (weights_elem ?_ n hn))))
        exact List.mem_map.2 ⟨i, List.mem_range.2 hil, rfl⟩))
      have h0 := hcell 0 (by decide)
      refine ⟨⟨A, zs, c⟩, ?_, ⟨⟨k1, k2⟩, k3, Nat.le_trans k4 (by decide)⟩, Nat.le_trans k3 k4, k5⟩
      have hadd : (a.add i).add 0 = a.add i := by unfold Addr.add; simp
      rw [hadd] at h0
      simpa [Part.val] using h0
    have hchoice : ∃ f : Nat → Part, ∀ i, i < len → W.cell? (a.add i) = some (f i).val ∧ (f i).ok W ∧ (f i).zs.length ≤ 140737488351232 ∧ ((f i).A = none → (f i).cap = 0) :=
      ⟨fun i => if h : i < len then Classical.choose (each i h) else ⟨none, [], 0⟩, fun i h => by
        simp only [h, dif_pos]
        exact Classical.choose_spec (each i h)⟩
    obtain ⟨f, hfn⟩ := hchoice
    have hpl : ((List.range len).map f).length = len := by simp
    refine ⟨some a, (List.range len).map f, cap, by rw [hpl], ⟨fun p hp => ?_, fun hne => ?_⟩, by rw [hpl]; simp only [reachBytes] at hwlen; omega, fun p hp => ?_⟩
    · obtain ⟨i, hil, rfl⟩ := List.mem_map.1 hp
      exact (hfn i (List.mem_range.1 hil)).2.1
    · have hpos : 0 < len := by
        rcases Nat.eq_zero_or_pos len with h0 | h0
        · subst h0; exact absurd rfl hne
        · exact h0
      obtain ⟨b, off, spot⟩ := a
      have hspot : spot = none := by simpa [Addr.add] using World.cell?_spot (hfn 0 hpos).1
      subst hspot
      refine ⟨b, off, rfl, fun i p hp => ?_⟩
      rw [List.getElem?_map] at hp
      by_cases hil : i < len
      · rw [List.getElem?_range hil] at hp
        obtain rfl : f i = p := by simpa using hp
        have := (hfn i hil).1
        have hadd : (⟨b, off, none⟩ : Addr).add i = ⟨b, off + i, none⟩ := by unfold Addr.add; split <;> simp_all
        rw [hadd] at this
        exact this
      · rw [List.getElem?_eq_none (by simpa using hil)] at hp; cases hp
    · obtain ⟨i, hil, rfl⟩ := List.mem_map.1 hp
      exact (hfn i (List.mem_range.1 hil)).2.2
theorem own : ownKnob Tryd.prog.godebug = none := by kernel_rfl
theorem laidOut : laidOutB Tryd.prog = true := by kernel_rfl
theorem cellsStr : Tryd.prog.cellsOf 9 = 1 := by kernel_rfl
theorem cellsByte : Tryd.prog.cellsOf 5 = 1 := by kernel_rfl
theorem bytesByte : Tryd.prog.bytesOf 5 = 1 := by kernel_rfl
theorem open_u32 (n : Int) (h0 : 0 ≤ n) (h1 : n ≤ 4294967295) : ∃ t : BitVec 32, n = (t.toNat : Int) := by
  obtain ⟨m, rfl⟩ := Int.eq_ofNat_of_zero_le h0
  refine ⟨BitVec.ofNat 32 m, ?_⟩
  rw [BitVec.toNat_ofNat, Nat.mod_eq_of_lt (by omega)]
end Go.Proofs.YtgjdoiblgbdebaaDoor
