/- The sum of any parts. -/
import Derived.Test.YtdmomeeilibnmaaDoorMixPart
import Derived.Test.YtdmomeeilibnmaaDoorMixNew
namespace Go.Proofs.YtdmomeeilibnmaaDoor
open Go.RowKit
structure Part where
  A : Option Addr
  zs : List Int
  cap : Nat
def Part.val (p : Part) : Value := .slice p.A p.zs.length p.cap
def Part.ok (w : World) (p : Part) : Prop := BytesAt w p.A p.zs ∧ p.zs.length ≤ p.cap ∧ p.cap ≤ 9223372036854775807
def PartsAt (w : World) (A : Option Addr) (ps : List Part) : Prop :=
  (∀ p ∈ ps, p.ok w) ∧ (ps ≠ [] → ∃ b off, A = some ⟨b, off, none⟩ ∧ ∀ i p, ps[i]? = some p → w.cell? ⟨b, off + i, none⟩ = some p.val)
def bytesOf (ps : List Part) : List Int := ps.flatMap (·.zs)
theorem BytesAt.below {w w' : World} {A : Option Addr} {zs : List Int} (h : BytesAt w A zs) (hb : Below w.heap.size w w') : BytesAt w' A zs :=
  ⟨h.1, fun hne => by
    obtain ⟨b, off, e, hc⟩ := h.2 hne
    exact ⟨b, off, e, fun i hi => (hb.cell (p := ⟨b, off + i, none⟩) (World.block_lt_of_cell? _ _ (hc i hi))).trans (hc i hi)⟩⟩
theorem Part.ok.below {w w' : World} {p : Part} (h : p.ok w) (hb : Below w.heap.size w w') : p.ok w' := ⟨h.1.below hb, h.2⟩
theorem PartsAt.below {w w' : World} {A : Option Addr} {ps : List Part} (h : PartsAt w A ps) (hb : Below w.heap.size w w') : PartsAt w' A ps :=
  ⟨fun p hp => (h.1 p hp).below hb, fun hne => by
    obtain ⟨b, off, e, hc⟩ := h.2 hne
    exact ⟨b, off, e, fun i p hp => (hb.cell (p := ⟨b, off + i, none⟩) (World.block_lt_of_cell? _ _ (hc i p hp))).trans (hc i p hp)⟩⟩
theorem crc_parts (c : BitVec 32) (ps : List Part) (k : Nat) (p : Part) (h : ps[k]? = some p) : Mx.crc c (bytesOf (ps.take (k + 1))) = Mx.crc (Mx.crc c (bytesOf (ps.take k))) p.zs := by
  rw [List.take_add_one, h]
  unfold bytesOf
  rw [List.flatMap_append, Mx.crc_append]
  simp
theorem tabAt_row (w : World) (g : Nat) (hg : w.heap[g]? = some (.cells (tcells fun i => Mx.tab (i / 16) (i % 16)) 47 (0, 0))) : TabAt w g := by
  intro r n hr hn
  rw [cell_of_row _ _ _ _ _ _ hg, tcells_get _ _ (by omega), show (16 * r + n) / 16 = r by omega, show (16 * r + n) % 16 = n by omega]
theorem compl (x : BitVec 32) : bits .xor .u32 IntKind.u32.max (x.toNat : Int) = ((~~~ x).toNat : Int) := by
  rw [bits_xor, u32_toInt, Mx.not_eq_xor, BitVec.xor_comm]; rfl
set_option maxRecDepth 100000 in
set_option maxHeartbeats 1000000 in
theorem sum_any (ps : List Part) (A : Option Addr) (cap : Nat) (w : World) (hp : PartsAt w A ps) (hn : ps.length ≤ 9223372036854775807) :
    Calls Tryd.prog 12 #[.slice A ps.length cap] w fun e w' => e = .returned (.int .u32 ((Mx.sum (bytesOf ps)).toNat : Int)) ∧ Below w.heap.size w w' := by
  have hz := zeroTab
  have hinfo : (Tryd.prog.info? 47).map (·.size) = some 128 := by kernel_rfl
  go_enter Tryd.func12, Tryd.ntmps12
  go_wp2_with fail
  refine (newTable_any _).mono ?_
  rintro e w1 ⟨rfl, hb1⟩
  have hb2 := hb1.alloc hb1.size (.cells (tcells fun _ => 0#32) 47)
  have hg := heap_alloc_new w1 (.cells (tcells fun _ => 0#32) 47)
  go_wp2_with (refine wpList_store_row rfl 47 _ _ rfl w1.heap.size (tcells fun i => Mx.tab (i / 16) (i % 16)) rfl rfl 47 (tcells fun _ => 0#32) hg (by rw [tcells_size]; exact hinfo) (by rw [tcells_size, tcells_size]) (tcells_one _) ?_)
  have hb3 := Below.setRow hb2 hb1.size (tcells fun i => Mx.tab (i / 16) (i % 16))
  have ht := tabAt_row _ _ (setRow_heap _ _ _ (tcells fun i => Mx.tab (i / 16) (i % 16)) _ _ hg)
  have hps := hp.below hb3
  generalize hw2 : (w1.alloc (.cells (tcells fun _ => 0#32) 47)).setRow w1.heap.size (tcells fun i => Mx.tab (i / 16) (i % 16)) = w2 at hb3 ht hps ⊢
  generalize hgt : w1.heap.size = tb at ht ⊢
  clear hw2 hgt hg hb2 hb1 hinfo hz
  go_loopg [4, 6, 10] ps.length (fun g s _ i wx => (∃ nq, wx = w2.drewN nq) ∧ ∃ (k : Nat), g = ps.length - k ∧ k ≤ ps.length ∧ i = .int .i64 (k : Int) ∧ s = .int .u32 ((Mx.crc 0xFFFFFFFF#32 (bytesOf (ps.take k))).toNat : Int))
  case atStart => exact ⟨⟨0, rfl⟩, 0, rfl, by omega, rfl, rfl⟩
  case round =>
    obtain ⟨⟨nq, rfl⟩, k, hgk, hk, rfl, rfl⟩ := hrel
    have Hg := Lib.hid hgk; clear hgk
    by_cases hlt : k < ps.length
    · have hq : ps[k]? = some ps[k] := List.getElem?_eq_getElem hlt
      generalize hpk : ps[k] = p at hq
      have hm : p ∈ ps := by rw [← hpk]; exact List.getElem_mem hlt
      obtain ⟨b, off, rfl, hc⟩ := hps.2 (by intro e; simp [e] at hlt)
      have c1 : w2.cell? ⟨b, off + k, none⟩ = some (.slice p.A p.zs.length p.cap) := hc k p hq
      have hok := hps.1 p hm
      have hcrc := crc_parts 0xFFFFFFFF#32 ps k p hq
      have Hc := Lib.hid hcrc
      clear hcrc hpk hc hq
      go_wp2_with fail
      refine (addPart_any _ p.zs p.A tb p.cap (w2.drewN nq) hok.1 ht hok.2.1 hok.2.2).mono ?_
      rintro e w' ⟨rfl, n2, rfl⟩
      go_wp2_with fail
      go_roundg (ps.length - (k + 1))
      case measure => rw [Hg.out]; omega
      case rel => exact ⟨⟨_, rfl⟩, k + 1, rfl, by omega, by go_num, by rw [Hc.out]⟩
    · obtain rfl : k = ps.length := by omega
      go_wp2_with fail
      go_ret
      exact ⟨ret_int (compl _), Below.drewN hb3 _⟩
end Go.Proofs.YtdmomeeilibnmaaDoor
