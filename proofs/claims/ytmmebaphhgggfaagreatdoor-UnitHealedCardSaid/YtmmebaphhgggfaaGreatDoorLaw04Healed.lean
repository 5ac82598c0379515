/- UnitHealed: the law's walk. -/
import Derived.Test.YtmmebaphhgggfaaGreatDoorLaw04Tear
import Derived.Test.YtmmebaphhgggfaaGreatDoorKitPick
namespace Go.Proofs.YtmmebaphhgggfaaGreatDoor
open Go.RowKit
/-- A block of three numbers that is none of the disk's. -/
structure Three (w : World) (T : Nat → Prop) (p : Nat) (a b c : Int) : Prop where
  blk : BlockIs w p 3 #[.int .i64 a, .int .i64 b, .int .i64 c]
  off : ¬ T p
theorem three_off {T : Nat → Prop} {w w2 : World} {g : Nat} (h : ¬ T g) (hl : g < w.heap.size) : ¬ grow T w w2 g := by
  rintro (hh | hh)
  · exact h hh
  · omega
theorem Three.step {w w2 : World} {T : Nat → Prop} {p : Nat} {a b c : Int} (k : Three w T p a b c) (hc : Chg T w w2) : Three w2 (grow T w w2) p a b c :=
  ⟨(hc.block p k.blk.lt k.off).trans k.blk, three_off k.off k.blk.lt⟩
theorem Three.on {w w2 : World} {T : Nat → Prop} {p : Nat} {a b c : Int} (k : Three w T p a b c) (hb : Below w.heap.size w w2) : Three w2 T p a b c := ⟨k.blk.below hb k.blk.lt, k.off⟩
theorem three_cell {w : World} {p : Nat} {a b : Int} (h : BlockIs w p 3 #[.int .i64 a, .int .i64 b, .int .i64 8]) (k : Nat) (hk : k < 3) : ∃ s, w.cell? ⟨p, k, none⟩ = some (.int .i64 s) ∧ (k = 2 → s = 8) := by
  rcases (show k = 0 ∨ k = 1 ∨ k = 2 by omega) with rfl | rfl | rfl
  · exact ⟨_, h.cell 0, fun e => absurd e (by decide)⟩
  · exact ⟨_, h.cell 1, fun e => absurd e (by decide)⟩
  · exact ⟨_, h.cell 2, fun _ => rfl⟩
def HealA (w0 w : World) (h p : Nat) (x y : Int) (b : List Int) (n g : Nat) (z : List Int) : Prop := ∃ T D hurt, OwnT w0 w T h (D.write 0 z).2 ∧ One D b hurt ∧ D.Few n ∧ BytesAt w (some ⟨g, 0, none⟩) z ∧ ¬ T g ∧ g < w.heap.size ∧ Three w T p x y 8
def HealB (w0 w : World) (h p : Nat) (x y : Int) (b : List Int) (n g : Nat) (z : List Int) : Prop := ∃ T D hurt, OwnT w0 w T h (D.write 0 z).2.crash.2 ∧ One D b hurt ∧ D.Few n ∧ BytesAt w (some ⟨g, 0, none⟩) z ∧ ¬ T g ∧ g < w.heap.size ∧ Three w T p x y 8
def HealE (w0 w : World) (h p : Nat) (x y : Int) (b : List Int) (n g : Nat) (z : List Int) : Prop := ∃ T D hurt, DiskU w0 w T h D b hurt n g z ∧ Three w T p x y 8
section
variable {δ : SenD} {w0 w : World} {h p n g cap : Nat} {x y : Int} {b z : List Int}
theorem DiskE.heal (k : DiskE w0 w h b n g z) (x y : Int) : HealE w0 (w.alloc (.cells #[.int .i64 x, .int .i64 y, .int .i64 8] 3)) h w.heap.size x y b n g z := by
  obtain ⟨T, D, hurt, k⟩ := k
  exact ⟨T, D, hurt, k.on (below_new w _), BlockIs.made w _ _, fun ht => Nat.lt_irrefl _ (k.own.at_.foot _ ht)⟩
theorem HealE.below (k : HealE w0 w h p x y b n g z) : Below w0.heap.size w0 w := by
  obtain ⟨T, D, hurt, k, _⟩ := k; exact k.own.below
theorem HealE.on {w2 : World} (k : HealE w0 w h p x y b n g z) (hb : Below w.heap.size w w2) : HealE w0 w2 h p x y b n g z := by
  obtain ⟨T, D, hurt, k, k2⟩ := k; exact ⟨T, D, hurt, k.on hb, k2.on hb⟩
theorem HealB.three (k : HealB w0 w h p x y b n g z) : BlockIs w p 3 #[.int .i64 x, .int .i64 y, .int .i64 8] := by
  obtain ⟨T, D, hurt, _, _, _, _, _, _, k⟩ := k; exact k.blk
theorem healA (hD : GlD δ w0) (k : HealE w0 w h p x y b n g z) (hz : BlkOk z) (hn : n ≤ 900) :
    Calls Tryz.prog 31 #[.pointer (some ⟨h, 0, none⟩), .int .i64 0, .slice (some ⟨g, 0, none⟩) 256 cap] w fun e w2 => e = .returned (.int .i64 0) ∧ HealA w0 w2 h p x y b n g z := by
  obtain ⟨T, D, hurt, k, k3⟩ := k
  have hW := OwnT.write hD k.own (few_up k.few (by omega)) 0 (some ⟨g, 0, none⟩) z cap k.bytes (fun _ a e => by cases e; exact k.off) (by rw [hz.1]; decide)
  rw [hz.1, (One.torn k.one hz k.few 0).1] at hW
  refine hW.mono ?_
  rintro e w2 ⟨rfl, h2, hc⟩
  exact ⟨rfl, _, D, hurt, h2, k.one, k.few, k.bytes.hold (fun a e => by cases e; exact hc.block _ k.lt k.off), off_grow k.off k.lt, Nat.lt_of_lt_of_le k.lt hc.size, k3.step hc⟩
theorem healB (hD : GlD δ w0) (k : HealA w0 w h p x y b n g z) (hz : BlkOk z) (hn : n ≤ 900) :
    Calls Tryz.prog 32 #[.pointer (some ⟨h, 0, none⟩)] w fun e w2 => e = .returned (.int .i64 0) ∧ HealB w0 w2 h p x y b n g z := by
  obtain ⟨T, D, hurt, k1, k2, k3, k4, k5, k6, k7⟩ := k
  have ht := One.torn k2 hz k3 0
  have hW := OwnT.crash hD k1 (few_up ht.2.1 (by omega))
  rw [ht.2.2.1] at hW
  refine hW.mono ?_
  rintro e w2 ⟨rfl, h2, hc⟩
  exact ⟨rfl, _, D, hurt, h2, k2, k3, k4.hold (fun a e => by cases e; exact hc.block _ k6 k5), off_grow k5 k6, Nat.lt_of_lt_of_le k6 hc.size, k7.step hc⟩
theorem healC (k : HealB w0 w h p x y b n g z) (hz : BlkOk z) (hn : n ≤ 900) (s : Int) :
    Calls Tryz.prog 33 #[.pointer (some ⟨h, 0, none⟩), .int .i64 0, .int .i64 0, .int .i64 s] w fun e w2 => e = .returned (.int .i64 0) ∧ HealE w0 w2 h p x y (tornB z b (s % 9).toNat) (n + 2) g z := by
  obtain ⟨T, D, hurt, k1, k2, k3, k4, k5, k6, k7⟩ := k
  have ht := One.torn k2 hz k3 s
  have hW := OwnT.wake k1 (few_up ht.2.2.2.1 (by omega)) 0 0 s
  rw [ht.2.2.2.2.1] at hW
  refine hW.mono ?_
  rintro e w2 ⟨rfl, h2, hc⟩
  obtain ⟨hurt', h1⟩ := ht.2.2.2.2.2
  exact ⟨rfl, _, _, hurt', ⟨h2, h1, One.few_wake ht.2.2.2.1 0 0 s, k4.hold (fun a e => by cases e; exact hc.block _ k6 k5), off_grow k5 k6, Nat.lt_of_lt_of_le k6 hc.size⟩, k7.step hc⟩
theorem HealE.stored (k : HealE w0 w h p x y b n g z) (hl : b.length = 256) :
    Calls Tryz.prog 29 #[.pointer (some ⟨h, 0, none⟩), .int .i64 0] w fun e w2 => ∃ A, e = .returned (.slice A 256 256) ∧ BytesAt w2 A b ∧ Below w.heap.size w w2 ∧ HealE w0 w2 h p x y b n g z := by
  obtain ⟨T, D, hurt, k, k3⟩ := k
  have hS := OwnT.stored k.own 0
  rw [k.one.stored] at hS
  refine hS.mono ?_
  rintro e w2 ⟨v, rfl, ⟨A, rfl, hz, _⟩, hb, ho⟩
  rw [hl]
  exact ⟨A, rfl, hz, hb, T, D, hurt, k.on hb, k3.on hb⟩
end
theorem tornB_len {z b : List Int} {t : Nat} (hz : z.length = 256) (hb : b.length = 256) (ht : t ≤ 8) : (tornB z b t).length = 256 := by
  unfold tornB
  rw [List.length_append, List.length_take, List.length_drop]; omega
theorem tornB_all {z b : List Int} (hz : z.length = 256) (hb : b.length = 256) : tornB z b 8 = z := by
  unfold tornB
  rw [List.take_of_length_le (by omega), List.drop_eq_nil_of_le (by omega), List.append_nil]
/-- What is written anew over a hurt block: the same unit, or none. -/
structure Heals (u : UnitV) (b : List Int) : Prop where
  len : b.length = 256
  unit : ∀ s, s ≤ 8 → (openB (tornB (sealB u) b s)).2 = 0 → (openB (tornB (sealB u) b s)).1 = u
theorem heals_flip {u : UnitV} (hu : u.right) (hb : ∀ z ∈ u.body, 0 ≤ z ∧ z < 256) (f mask k : Nat) (hk : k ≤ 32) (hf : f + k ≤ 2048) : Heals u (flipK (sealB u) f mask k) :=
  ⟨by rw [flipK_len, seal_len hu.2.2], fun _ hs h => open_torn hu hb f mask k hk hf hs h⟩
theorem heals_wipe {u : UnitV} (hu : u.right) : Heals u (List.replicate 256 0) := ⟨List.length_replicate, fun _ hs h => open_wiped hu hs h⟩
theorem box_cells2 {w w' : World} {u : UnitV} {A : Option Addr} {c : Nat} (hb : Below (w.alloc (.cells #[.int .i64 u.kind, .int .i64 u.num, .slice A u.body.length c] 25)).heap.size (w.alloc (.cells #[.int .i64 u.kind, .int .i64 u.num, .slice A u.body.length c] 25)) w') :
    w'.cell? ⟨w.heap.size, 0, none⟩ = some (.int .i64 u.kind) ∧ w'.cell? ⟨w.heap.size, 1, none⟩ = some (.int .i64 u.num) ∧ w'.cell? ⟨w.heap.size, 2, none⟩ = some (.slice A u.body.length c) := by
  obtain ⟨c0, c1, c2⟩ := row3_cells w (.int .i64 u.kind) (.int .i64 u.num) (.slice A u.body.length c) 25
  exact ⟨cell_below c0 hb, cell_below c1 hb, cell_below c2 hb⟩
set_option maxRecDepth 100000 in
set_option maxHeartbeats 32000000 in
theorem unitHealed_any (σ : Sen) (τ : SenU) (δ : SenD) (w : World) (hC : GlAt σ w) (hU : GlU τ w) (hD : GlD δ w) (hS : GlS δ w) (u : UnitV) (A : Option Addr) (c : Nat) (hb : BytesAt w A u.body) (hc : u.body.length ≤ c) (hm : c ≤ 140737488351232) (bit : Int) (mask : Nat) (hmask : mask < 4294967296) (wipe : Bool) (s1 s2 : Int) :
    Calls Tryz.prog 8 #[u.val A c, .int .i64 bit, .int .u32 (mask : Int), .bool wipe, .int .i64 s1, .int .i64 s2] w fun e w' => e = .returned (.bool true) ∧ Below w.heap.size w w' := by
  have hbn := below_new w (.cells #[.int .i64 u.kind, .int .i64 u.num, .slice A u.body.length c] 25)
  have HA := Lib.hid (awake_any σ τ _ (hC.below hbn) (hU.below hbn))
  have HG := Lib.hid (show GlAt σ w ∧ GlU τ w ∧ GlD δ w ∧ GlS δ w ∧ BytesAt w A u.body from ⟨hC, hU, hD, hS, hb⟩)
  have Hbn := Lib.hid hbn
  have Hc := Lib.hid (And.intro hc hm)
  have HBx := Lib.hid (fun (w' : World) hb' => box_cells2 (w := w) (w' := w') (u := u) (A := A) (c := c) hb')
  obtain ⟨w1, hw1⟩ : ∃ w1, w.alloc (.cells #[.int .i64 u.kind, .int .i64 u.num, .slice A u.body.length c] 25) = w1 := ⟨_, rfl⟩
  rw [hw1] at HA Hbn HBx
  have Hw1 := Lib.hid hw1
  unfold UnitV.val
  clear hC hU hD hS hb hbn hc hm hw1
  go_enter Tryz.func8, Tryz.ntmps8
  go_wp2_with fail
  rw [Hw1.out]
  refine HA.out.mono ?_
  rintro e w2 ⟨rfl, hb2⟩
  have B2 := Lib.hid hb2
  obtain ⟨c0, c1, c2⟩ := HBx.out w2 hb2
  have HR := Lib.hid (uright_any w2 u A c)
  unfold UnitV.val at HR
  clear hb2 HA
  by_cases hu : u.right
  · rw [decide_eq_true hu] at HR
    have Hu := Lib.hid hu
    clear hu
    go_wp2_with fail
    refine HR.out.mono ?_
    rintro e w3 ⟨rfl, hb3⟩
    have B3 := Lib.hid (B2.out.trans (hb3.mono B2.out.size))
    have W3 := Lib.hid (Hbn.out.trans (B3.out.mono Hbn.out.size))
    have HW := Lib.hid (written_any δ w3 (HG.out.2.2.1.below W3.out) u A c Hu.out (HG.out.2.2.2.2.below W3.out) Hc.out.1 (by have := Hc.out.2; omega))
    unfold UnitV.val at HW
    clear c0 c1 c2 hb3 HR
    obtain ⟨c0, c1, c2⟩ := HBx.out w3 B3.out
    have hmod : 0 ≤ bit % 2048 ∧ bit % 2048 < 2048 := ⟨Int.emod_nonneg _ (by decide), Int.emod_lt_of_pos _ (by decide)⟩
    have Hmod := Lib.hid hmod
    have HNe := Lib.hid (seal_some Hu.out)
    have Hok := Lib.hid (seal_ok Hu.out HG.out.2.2.2.2.1)
    clear hmod
    cases wipe
    case' true =>
      go_wp2_with fail
      refine HW.out.mono ?_
      rintro e w5 ⟨h, g, cap, T, D, rfl, hK, hcap, hcm⟩
      have HWi := Lib.hid (wipe_disk (HG.out.2.2.1.below W3.out) (HG.out.2.2.2.1.below W3.out) hK HNe.out)
      clear c0 c1 c2 hK HW hcap hcm
      go_wp2_with fail
      refine HWi.out.mono ?_
      rintro e w6 ⟨rfl, k6⟩
      have HH : Hid (∃ b0, DiskE w3 w6 h b0 2 g (sealB u) ∧ Heals u b0) := Lib.hid ⟨_, k6, heals_wipe Hu.out⟩
      clear k6 HWi
    case' false =>
      go_wp2_with fail
      refine HW.out.mono ?_
      rintro e w5 ⟨h, g, cap, T, D, rfl, hK, hcap, hcm⟩
      have HRt := Lib.hid (rot_disk (HG.out.2.2.1.below W3.out) (HG.out.2.2.2.1.below W3.out) hK (bit % 2048) Hmod.out mask hmask)
      clear c0 c1 c2 hK HW hcap hcm
      go_wp2_with fail
      refine (pick_any bit 2048 w5 (by decide) (by decide)).mono ?_
      rintro e w' ⟨rfl, rfl⟩
      go_wp2_with fail
      refine HRt.out.mono ?_
      rintro e w6 ⟨rc, rfl, _, k6⟩
      have HH : Hid (∃ b0, DiskE w3 w6 h b0 2 g (sealB u) ∧ Heals u b0) := Lib.hid ⟨_, k6, heals_flip Hu.out HG.out.2.2.2.2.1 _ _ _ (by omega) (by have := Hmod.out; omega)⟩
      clear k6 HRt
    all_goals
      obtain ⟨b0, hE, hH⟩ := HH.out
      have K6 := Lib.hid (hE.heal s1 s2)
      have Hls := Lib.hid hH
      clear hE hH HH HNe
      go_wp2_with fail
      obtain ⟨w7, hw7⟩ : ∃ w7, w6.alloc (.cells #[.int .i64 s1, .int .i64 s2, .int .i64 8] 3) = w7 := ⟨_, rfl⟩
      rw [hw7] at K6
      rw [hw7]
      generalize w6.heap.size = p at K6 ⊢
      clear hw7
      go_loopg [17, 18, 19] 3 (fun gk i _ _ wx => ∃ (k t : Nat), gk = 3 - k ∧ k ≤ 3 ∧ i = .int .i64 (k : Int) ∧ Hid (t ≤ 8 ∧ HealE w3 wx h p s1 s2 (tornB (sealB u) b0 t) (2 + 2 * k) g (sealB u)))
      case atStart => exact ⟨0, 0, rfl, by decide, rfl, Lib.hid ⟨by decide, by rw [show tornB (sealB u) b0 0 = b0 from rfl]; exact K6.out⟩⟩
      case round =>
        obtain ⟨k, t, hgk, hk, rfl, hI⟩ := hrel
        have Hgk := Lib.hid hgk
        clear hgk
        by_cases hlt : (k : Int) < 3
        · have Hk3 := Lib.hid (show k < 3 by omega)
          have hi1 : (0 : Int) ≤ (k : Int) := by omega
          have HTA := Lib.hid (healA (cap := cap) (HG.out.2.2.1.below W3.out) hI.out.2 Hok.out (by have := Hk3.out; omega))
          go_wp2_with fail
          refine HTA.out.mono ?_
          rintro e w8 ⟨rfl, k8⟩
          have HTB := Lib.hid (healB (HG.out.2.2.1.below W3.out) k8 Hok.out (by have := Hk3.out; omega))
          clear k8 HTA
          go_wp2_with fail
          refine HTB.out.mono ?_
          rintro e w9 ⟨rfl, k9⟩
          obtain ⟨s, hs, hs8⟩ := three_cell k9.three k Hk3.out
          have HTC := Lib.hid (healC k9 Hok.out (by have := Hk3.out; omega) s)
          have Hs8 := Lib.hid hs8
          clear k9 HTB hs8
          go_wp2_with fail
          refine HTC.out.mono ?_
          rintro e w10 ⟨rfl, k10⟩
          have hmm : (s % 9).toNat ≤ 8 := by omega
          rw [tornB_over Hok.out.1 hI.out.1] at k10
          have Hm : Hid (max t (s % 9).toNat ≤ 8 ∧ (k = 2 → max t (s % 9).toNat = 8)) := Lib.hid ⟨by have := hI.out.1; omega, fun e => by
            have h8 := Hs8.out e
            subst h8
            have := hI.out.1
            have e8 : ((8 : Int) % 9).toNat = 8 := rfl
            rw [e8]; omega⟩
          generalize max t (s % 9).toNat = m at k10 Hm
          have Hbl := Lib.hid (tornB_len Hok.out.1 Hls.out.len Hm.out.1)
          have HSt := Lib.hid (k10.stored Hbl.out)
          have B10 := Lib.hid (k10.below)
          clear k10 HTC hs hmm hI
          go_wp2_with fail
          refine HSt.out.mono ?_
          rintro e w11 ⟨A11, rfl, hz11, hb11, k11⟩
          have K11 := Lib.hid k11
          have W11 := Lib.hid (W3.out.trans (k11.below.mono W3.out.size))
          obtain ⟨r, hop⟩ : ∃ r, openB (tornB (sealB u) b0 m) = r := ⟨_, rfl⟩
          have HO := uopen_any σ τ w11 (HG.out.1.below W11.out) (HG.out.2.1.below W11.out) A11 (tornB (sealB u) b0 m) 256 hz11 (by rw [Hbl.out]; decide) (by decide)
          rw [Hbl.out, hop] at HO
          have Hun : Hid (r.2 = 0 → r.1 = u) := Lib.hid (by rw [← hop]; exact Hls.out.unit m Hm.out.1)
          have Hu8 : Hid (k = 2 → r.2 = 0) := Lib.hid (fun e => by
            rw [← hop, Hm.out.2 e, tornB_all Hok.out.1 Hls.out.len, open_seal Hu.out])
          obtain ⟨x, code⟩ := r
          have HOp := Lib.hid HO
          unfold UnitV.val at HOp
          clear HO hop hz11 hb11 k11 HSt
          go_wp2_with fail
          refine HOp.out.mono ?_
          rintro e w12 ⟨X, kx, rfl, ho12, hb12⟩
          have hb13 := below_new w12 (.cells #[.int .i64 x.kind, .int .i64 x.num, .slice X x.body.length kx] 25)
          have P13 := Lib.hid (BlockIs.made w12 25 #[.int .i64 x.kind, .int .i64 x.num, .slice X x.body.length kx])
          have Ho12 := Lib.hid ho12
          obtain ⟨w13, hw13⟩ : ∃ w13, w12.alloc (.cells #[.int .i64 x.kind, .int .i64 x.num, .slice X x.body.length kx] 25) = w13 := ⟨_, rfl⟩
          rw [hw13] at hb13 P13
          have K13 := Lib.hid (K11.out.on (hb12.trans (hb13.mono hb12.size)))
          have W13 := Lib.hid (W3.out.trans (K13.out.below.mono W3.out.size))
          have B13 := Lib.hid (B3.out.trans (K13.out.below.mono B3.out.size))
          have Hb13 := Lib.hid hb13
          have Hw13 := Lib.hid hw13
          obtain ⟨c0, c1, c2⟩ := HBx.out w13 B13.out
          obtain ⟨q0, q1, q2, _, _, _⟩ := unit_cells P13.out
          clear ho12 hb12 hb13 hw13 HOp
          by_cases hc0 : code = 0
          · subst hc0
            obtain rfl : x = u := Hun.out rfl
            have HSa := Lib.hid (sameUnit_any w13 x x A X c kx (HG.out.2.2.2.2.below W13.out) ((own_reads Ho12.out HG.out.2.2.2.2.1).below Hb13.out) (by have := Hu.out.2.2; omega))
            rw [sameU_self] at HSa
            unfold UnitV.val at HSa
            rw [← Hw13.out] at c0 c1 c2 q0 q1 q2
            go_wp2_with fail
            rw [Hw13.out]
            refine HSa.out.mono ?_
            rintro e w14 ⟨rfl, hb14⟩
            have K14 := Lib.hid (K13.out.on hb14)
            clear hb14 c0 c1 c2 q0 q1 q2
            by_cases hk2 : (k : Int) = 2
            · have e2 : ((k : Int) == 2) = true := beq_iff_eq.2 hk2
              go_wp2_with fail
              go_roundg (3 - (k + 1))
              case measure => rw [Hgk.out]; omega
              case rel => exact ⟨k + 1, m, rfl, by omega, by go_num, Lib.hid ⟨Hm.out.1, by rw [show 2 + 2 * (k + 1) = 2 + 2 * k + 2 by omega]; exact K14.out⟩⟩
            · have e2 : ((k : Int) == 2) = false := beq_eq_false_iff_ne.2 hk2
              go_wp2_with fail
              go_roundg (3 - (k + 1))
              case measure => rw [Hgk.out]; omega
              case rel => exact ⟨k + 1, m, rfl, by omega, by go_num, Lib.hid ⟨Hm.out.1, by rw [show 2 + 2 * (k + 1) = 2 + 2 * k + 2 by omega]; exact K14.out⟩⟩
          · have hk2 : ¬ (k : Int) = 2 := fun e => hc0 (Hu8.out (by omega))
            have e1 : (code == 0) = false := beq_eq_false_iff_ne.2 hc0
            have e2 : ((k : Int) == 2) = false := beq_eq_false_iff_ne.2 hk2
            clear c0 c1 c2 q0 q1 q2
            go_wp2_with fail
            rw [Hw13.out]
            go_roundg (3 - (k + 1))
            case measure => rw [Hgk.out]; omega
            case rel => exact ⟨k + 1, m, rfl, by omega, by go_num, Lib.hid ⟨Hm.out.1, by rw [show 2 + 2 * (k + 1) = 2 + 2 * k + 2 by omega]; exact K13.out⟩⟩
        · have Wx := Lib.hid (W3.out.trans (hI.out.2.below.mono W3.out.size))
          clear hI
          go_wp2_with fail
          go_ret
          exact ⟨rfl, Wx.out⟩
  · rw [decide_eq_false hu] at HR
    clear hu
    go_wp2_with fail
    refine HR.out.mono ?_
    rintro e w3 ⟨rfl, hb3⟩
    have B3 := Lib.hid (B2.out.trans (hb3.mono B2.out.size))
    clear hb3 HR c0 c1 c2
    go_wp2_with fail
    go_ret
    exact ⟨rfl, Hbn.out.trans (B3.out.mono Hbn.out.size)⟩
end Go.Proofs.YtmmebaphhgggfaaGreatDoor
