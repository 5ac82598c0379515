/- Law 04: a disk on which a unit's block is stored. -/
import Derived.Test.YtmmebaphhgggfaaGreatDoorLaw04Base
import Derived.Test.YtmmebaphhgggfaaGreatDoorDevCalm
import Derived.Test.YtmmebaphhgggfaaGreatDoorUnitBurst
namespace Go.Proofs.YtmmebaphhgggfaaGreatDoor
open Go.RowKit
/-- A law's disk of one block, and the bytes of a block that were handed out. -/
structure DiskU (w0 w : World) (T : Nat → Prop) (h : Nat) (D : DM) (b : List Int) (hurt : Bool) (n g : Nat) (z : List Int) : Prop where
  own : OwnT w0 w T h D
  one : One D b hurt
  few : D.Few n
  bytes : BytesAt w (some ⟨g, 0, none⟩) z
  off : ¬ T g
  lt : g < w.heap.size
section
variable {w0 w w2 : World} {T : Nat → Prop} {h n g : Nat} {D : DM} {b z : List Int} {hurt : Bool}
theorem DiskU.step {D2 : DM} {b2 : List Int} {hurt2 : Bool} {n2 : Nat} (k : DiskU w0 w T h D b hurt n g z) (ho : OwnT w0 w2 (grow T w w2) h D2) (hc : Chg T w w2) (h1 : One D2 b2 hurt2) (hf : D2.Few n2) : DiskU w0 w2 (grow T w w2) h D2 b2 hurt2 n2 g z :=
  ⟨ho, h1, hf, k.bytes.hold (fun a e => by cases e; exact hc.block _ k.lt k.off), (by
    rintro (h | h)
    · exact k.off h
    · have := k.lt; omega), Nat.lt_of_lt_of_le k.lt hc.size⟩
theorem DiskU.on (k : DiskU w0 w T h D b hurt n g z) (hb : Below w.heap.size w w2) : DiskU w0 w2 T h D b hurt n g z := ⟨k.own.on hb, k.one, k.few, k.bytes.below hb, k.off, Nat.lt_of_lt_of_le k.lt hb.size⟩
theorem DiskU.few6 (k : DiskU w0 w T h D b hurt n g z) (hn : n ≤ 1000) : D.Few 1000000 := ⟨by have := k.few.tu; omega, by have := k.few.cr; omega, by have := k.few.ws; omega⟩
end
set_option maxRecDepth 100000 in
set_option maxHeartbeats 8000000 in
theorem written_any (δ : SenD) (w : World) (hD : GlD δ w) (u : UnitV) (A : Option Addr) (c : Nat) (hu : u.right) (hb : BytesAt w A u.body) (hc : u.body.length ≤ c) (hm : c ≤ 9223372036854775807) :
    Calls Tryz.prog 26 #[u.val A c] w fun e w' => ∃ h g cap T D, e = .returned (.tuple #[.pointer (some ⟨h, 0, none⟩), .slice (some ⟨g, 0, none⟩) 256 cap, .bool true]) ∧ DiskU w w' T h D (sealB u) false 2 g (sealB u) ∧ 256 ≤ cap ∧ cap ≤ 9223372036854775807 := by
  have hbn := below_new w (.cells #[.int .i64 u.kind, .int .i64 u.num, .slice A u.body.length c] 25)
  have hS := useal_any (w.alloc (.cells #[.int .i64 u.kind, .int .i64 u.num, .slice A u.body.length c] 25)) u A c (hb.below hbn) hc hm
  rw [show sealR u = (sealB u, 0) by unfold sealR; rw [if_pos hu]] at hS
  simp only at hS
  rw [seal_len hu.2.2] at hS
  have HS := Lib.hid hS
  have Hbn := Lib.hid hbn
  have Hok := Lib.hid (seal_ok hu hb.1)
  have HD := Lib.hid hD
  unfold UnitV.val at *
  generalize sealB u = bs at *
  clear hS hbn hb hu hD
  go_enter Tryz.func26, Tryz.ntmps26
  go_wp2_with fail
  refine HS.out.mono ?_
  rintro e w2 ⟨v, rfl, ho, hb2⟩
  obtain ⟨g, cap, rfl, hcap, hcm, hg, hgl, hz⟩ := own_at ho (by decide) Hok.out.2
  have B2 := Lib.hid (Hbn.out.trans (hb2.mono Hbn.out.size))
  have HZ := Lib.hid (And.intro hz hgl)
  have HC := Lib.hid (And.intro hcap hcm)
  clear ho hb2 hz hg hgl hcap hcm HS
  have HNw := Lib.hid (OwnT.new B2.out 1 (by decide) (by decide))
  obtain ⟨D0, hD0⟩ : ∃ D, DM.new 1 = D := ⟨_, rfl⟩
  have H0 : Hid (One D0 (List.replicate 256 0) false ∧ D0.Few 0) := Lib.hid (by rw [← hD0]; exact ⟨One.new, Few.new⟩)
  rw [hD0] at HNw
  clear hD0
  go_wp2_with fail
  refine HNw.out.mono ?_
  rintro e w3 ⟨h, rfl, k3, hb3⟩
  have K3 : Hid (DiskU w w3 (fun k => w2.heap.size ≤ k ∧ k < w3.heap.size) h D0 (List.replicate 256 0) false 0 g bs) := Lib.hid ⟨k3, H0.out.1, H0.out.2, HZ.out.1.below hb3, fun hh => by have := HZ.out.2; omega, Nat.lt_of_lt_of_le HZ.out.2 hb3.size⟩
  clear k3 hb3 HNw
  have HR := Lib.hid (One.sync K3.out.one ⟨List.length_replicate, fun z hz => by rw [List.eq_of_mem_replicate hz]; decide⟩ Hok.out K3.out.few)
  have hWr := OwnT.write HD.out K3.out.own (K3.out.few6 (by decide)) 0 (some ⟨g, 0, none⟩) bs cap K3.out.bytes (fun _ a e => by cases e; exact K3.out.off) (by rw [Hok.out.1]; decide)
  rw [Hok.out.1, HR.out.1] at hWr
  have HWr := Lib.hid hWr
  clear hWr
  go_wp2_with fail
  refine HWr.out.mono ?_
  rintro e w4 ⟨rfl, k4, c4⟩
  have O4 := Lib.hid (And.intro k4 c4)
  have HSy := Lib.hid (OwnT.sync HD.out k4 ⟨by have := HR.out.2.1.tu; omega, by have := HR.out.2.1.cr; omega, by have := HR.out.2.1.ws; omega⟩)
  rw [HR.out.2.2.1] at HSy
  clear k4 c4 HWr
  go_wp2_with fail
  refine HSy.out.mono ?_
  rintro e w5 ⟨rfl, k5, c5⟩
  have O5 := Lib.hid (And.intro k5 c5)
  clear k5 c5 HSy
  go_wp2_with fail
  have hfin : DiskU w w5 (grow (grow (fun k => w2.heap.size ≤ k ∧ k < w3.heap.size) w3 w4) w4 w5) h (D0.write 0 bs).2.sync.2 bs false 2 g bs := by
    have hg4 : BytesAt w4 (some ⟨g, 0, none⟩) bs := K3.out.bytes.hold (fun a e => by cases e; exact O4.out.2.block _ K3.out.lt K3.out.off)
    have hl4 : g < w4.heap.size := Nat.lt_of_lt_of_le K3.out.lt O4.out.2.size
    have ho4 : ¬ grow (fun k => w2.heap.size ≤ k ∧ k < w3.heap.size) w3 w4 g := by
      rintro (hh | hh)
      · exact K3.out.off hh
      · have := K3.out.lt; omega
    exact ⟨O5.out.1, HR.out.2.2.2.1, HR.out.2.2.2.2, hg4.hold (fun a e => by cases e; exact O5.out.2.block _ hl4 ho4), (by
      rintro (hh | hh)
      · exact ho4 hh
      · omega), Nat.lt_of_lt_of_le hl4 O5.out.2.size⟩
  exact bodyPost_ret (v := .tuple #[.pointer (some ⟨h, 0, none⟩), .slice (some ⟨g, 0, none⟩) 256 cap, .bool true]) (by simp [results, Tryz.results26, go_sem]) rfl ⟨h, g, cap, _, _, rfl, hfin, HC.out.1, HC.out.2⟩
end Go.Proofs.YtmmebaphhgggfaaGreatDoor
