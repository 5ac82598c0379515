/- Law 04: a block written anew, torn; what is stored; what is hurt. -/
import Derived.Test.YtmmebaphhgggfaaGreatDoorLaw04Disk
namespace Go.Proofs.YtmmebaphhgggfaaGreatDoor
open Go.RowKit
def TearA (w0 w : World) (h : Nat) (b : List Int) (n g : Nat) (z : List Int) : Prop := ∃ T D hurt, OwnT w0 w T h (D.write 0 z).2 ∧ One D b hurt ∧ D.Few n ∧ BytesAt w (some ⟨g, 0, none⟩) z ∧ ¬ T g ∧ g < w.heap.size
def TearB (w0 w : World) (h : Nat) (b : List Int) (n g : Nat) (z : List Int) : Prop := ∃ T D hurt, OwnT w0 w T h (D.write 0 z).2.crash.2 ∧ One D b hurt ∧ D.Few n ∧ BytesAt w (some ⟨g, 0, none⟩) z ∧ ¬ T g ∧ g < w.heap.size
def DiskE (w0 w : World) (h : Nat) (b : List Int) (n g : Nat) (z : List Int) : Prop := ∃ T D hurt, DiskU w0 w T h D b hurt n g z
theorem off_grow {T : Nat → Prop} {w w2 : World} {g : Nat} (h : ¬ T g) (hl : g < w.heap.size) : ¬ grow T w w2 g := by
  rintro (hh | hh)
  · exact h hh
  · omega
theorem few_up {D : DM} {n : Nat} (h : D.Few n) (hn : n ≤ 1000) : D.Few 1000000 := ⟨by have := h.tu; omega, by have := h.cr; omega, by have := h.ws; omega⟩
section
variable {δ : SenD} {w0 w : World} {h n g cap : Nat} {b z : List Int}
theorem DiskE.below (k : DiskE w0 w h b n g z) : Below w0.heap.size w0 w := by
  obtain ⟨T, D, hurt, k⟩ := k; exact k.own.below
theorem DiskE.on {w2 : World} (k : DiskE w0 w h b n g z) (hb : Below w.heap.size w w2) : DiskE w0 w2 h b n g z := by
  obtain ⟨T, D, hurt, k⟩ := k; exact ⟨T, D, hurt, k.on hb⟩
theorem tearA (hD : GlD δ w0) (k : DiskE w0 w h b n g z) (hz : BlkOk z) (hn : n ≤ 900) :
    Calls Tryz.prog 31 #[.pointer (some ⟨h, 0, none⟩), .int .i64 0, .slice (some ⟨g, 0, none⟩) 256 cap] w fun e w2 => e = .returned (.int .i64 0) ∧ TearA w0 w2 h b n g z := by
  obtain ⟨T, D, hurt, k⟩ := k
  have hW := OwnT.write hD k.own (few_up k.few (by omega)) 0 (some ⟨g, 0, none⟩) z cap k.bytes (fun _ a e => by cases e; exact k.off) (by rw [hz.1]; decide)
  rw [hz.1, (One.torn k.one hz k.few 0).1] at hW
  refine hW.mono ?_
  rintro e w2 ⟨rfl, h2, hc⟩
  exact ⟨rfl, _, D, hurt, h2, k.one, k.few, k.bytes.hold (fun a e => by cases e; exact hc.block _ k.lt k.off), off_grow k.off k.lt, Nat.lt_of_lt_of_le k.lt hc.size⟩
theorem tearB (hD : GlD δ w0) (k : TearA w0 w h b n g z) (hz : BlkOk z) (hn : n ≤ 900) :
    Calls Tryz.prog 32 #[.pointer (some ⟨h, 0, none⟩)] w fun e w2 => e = .returned (.int .i64 0) ∧ TearB w0 w2 h b n g z := by
  obtain ⟨T, D, hurt, k1, k2, k3, k4, k5, k6⟩ := k
  have ht := One.torn k2 hz k3 0
  have hW := OwnT.crash hD k1 (few_up ht.2.1 (by omega))
  rw [ht.2.2.1] at hW
  refine hW.mono ?_
  rintro e w2 ⟨rfl, h2, hc⟩
  exact ⟨rfl, _, D, hurt, h2, k2, k3, k4.hold (fun a e => by cases e; exact hc.block _ k6 k5), off_grow k5 k6, Nat.lt_of_lt_of_le k6 hc.size⟩
theorem tearC (k : TearB w0 w h b n g z) (hz : BlkOk z) (hn : n ≤ 900) (s : Int) :
    Calls Tryz.prog 33 #[.pointer (some ⟨h, 0, none⟩), .int .i64 0, .int .i64 0, .int .i64 s] w fun e w2 => e = .returned (.int .i64 0) ∧ DiskE w0 w2 h (tornB z b (s % 9).toNat) (n + 2) g z := by
  obtain ⟨T, D, hurt, k1, k2, k3, k4, k5, k6⟩ := k
  have ht := One.torn k2 hz k3 s
  have hW := OwnT.wake k1 (few_up ht.2.2.2.1 (by omega)) 0 0 s
  rw [ht.2.2.2.2.1] at hW
  refine hW.mono ?_
  rintro e w2 ⟨rfl, h2, hc⟩
  obtain ⟨hurt', h1⟩ := ht.2.2.2.2.2
  exact ⟨rfl, _, _, hurt', h2, h1, One.few_wake ht.2.2.2.1 0 0 s, k4.hold (fun a e => by cases e; exact hc.block _ k6 k5), off_grow k5 k6, Nat.lt_of_lt_of_le k6 hc.size⟩
theorem DiskE.stored (k : DiskE w0 w h b n g z) (hl : b.length = 256) :
    Calls Tryz.prog 29 #[.pointer (some ⟨h, 0, none⟩), .int .i64 0] w fun e w2 => ∃ A, e = .returned (.slice A 256 256) ∧ BytesAt w2 A b ∧ Below w.heap.size w w2 ∧ DiskE w0 w2 h b n g z := by
  obtain ⟨T, D, hurt, k⟩ := k
  have hS := OwnT.stored k.own 0
  rw [k.one.stored] at hS
  refine hS.mono ?_
  rintro e w2 ⟨v, rfl, ⟨A, rfl, hz, _⟩, hb, ho⟩
  rw [hl]
  exact ⟨A, rfl, hz, hb, T, D, hurt, k.on hb⟩
theorem DM.Few.rot {D : DM} {n : Nat} (hf : D.Few n) (m bit : Int) (mask : Nat) : (D.rot m bit mask).2.Few n := by
  unfold DM.rot
  split
  · unfold DM.hurt
    split
    · exact ⟨hf.tu, hf.cr, hf.ws⟩
    · split
      · exact ⟨hf.tu, hf.cr, hf.ws⟩
      · exact ⟨hf.tu, hf.cr, hf.ws⟩
  · exact ⟨hf.tu, hf.cr, hf.ws⟩
theorem DM.Few.wipe {D : DM} {n : Nat} (hf : D.Few n) (m : Int) : (D.wipe m).2.Few n := by
  unfold DM.wipe
  split
  · unfold DM.hurt
    split
    · exact ⟨hf.tu, hf.cr, hf.ws⟩
    · split
      · exact ⟨hf.tu, hf.cr, hf.ws⟩
      · exact ⟨hf.tu, hf.cr, hf.ws⟩
  · exact ⟨hf.tu, hf.cr, hf.ws⟩
theorem rot_disk {T : Nat → Prop} {D : DM} (hD : GlD δ w0) (hS : GlS δ w0) (k : DiskU w0 w T h D b false n g z) (bit : Int) (hbit : 0 ≤ bit ∧ bit < 2048) (mask : Nat) (hm : mask < 4294967296) :
    Calls Tryz.prog 27 #[.pointer (some ⟨h, 0, none⟩), .int .i64 0, .int .i64 bit, .int .u32 (mask : Int)] w fun e w2 => ∃ r : Int, e = .returned (.int .i64 r) ∧ (r = 0 ↔ flipK b bit.toNat mask (min 32 (2048 - bit.toNat)) ≠ b) ∧ DiskE w0 w2 h (flipK b bit.toNat mask (min 32 (2048 - bit.toNat))) n g z := by
  refine (OwnT.rot hD hS k.own 0 bit mask hm).mono ?_
  rintro e w2 ⟨rfl, h2, hc⟩
  obtain ⟨h3, hurt', h4⟩ := One.rot k.one bit hbit mask
  exact ⟨_, rfl, h3, _, _, hurt', k.step h2 hc h4 (k.few.rot 0 bit mask)⟩
theorem wipe_disk {T : Nat → Prop} {D : DM} (hD : GlD δ w0) (hS : GlS δ w0) (k : DiskU w0 w T h D b false n g z) (hne : b ≠ List.replicate 256 0) :
    Calls Tryz.prog 30 #[.pointer (some ⟨h, 0, none⟩), .int .i64 0] w fun e w2 => e = .returned (.int .i64 0) ∧ DiskE w0 w2 h (List.replicate 256 0) n g z := by
  have hW := OwnT.wipe hD hS k.own 0
  obtain ⟨h3, h4⟩ := One.wipe k.one hne
  rw [h3] at hW
  refine hW.mono ?_
  rintro e w2 ⟨rfl, h2, hc⟩
  exact ⟨rfl, _, _, true, k.step h2 hc h4 (k.few.wipe 0)⟩
end
end Go.Proofs.YtmmebaphhgggfaaGreatDoor
