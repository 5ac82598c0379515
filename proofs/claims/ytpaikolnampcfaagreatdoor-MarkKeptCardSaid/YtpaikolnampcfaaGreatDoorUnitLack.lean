/- Is a unit right, is it small; the parts of its body: the package's, and the page's own. -/
/- What a block has not, at first sight; noughts; how a unit is another one than was asked for. -/
/- What a block must have besides its fields. -/
import Derived.Test.YtpaikolnampcfaaGreatDoorKitInts
import Derived.Test.YtpaikolnampcfaaGreatDoorMarkV
import Derived.Test.YtpaikolnampcfaaGreatDoorUnitErr
import Derived.Test.YtpaikolnampcfaaGreatDoorUnitLay
import Derived.Deep.LoopGhost
namespace Go.Proofs.YtpaikolnampcfaaGreatDoor
open Go.RowKit
/-- A unit as a value; its body lies at A. -/
abbrev UnitV.val (u : UnitV) (A : Option Addr) (c : Nat) : Value := .agg #[.int .i64 u.kind, .int .i64 u.num, .slice A u.body.length c]
set_option maxRecDepth 100000 in
set_option maxHeartbeats 1000000 in
theorem uright_any (w : World) (u : UnitV) (A : Option Addr) (c : Nat) :
    Calls Tryz.prog 157 #[u.val A c] w fun r w' => r = .returned (.bool (decide u.right)) ∧ Below w.heap.size w w' := by
  obtain ⟨k, n, body⟩ := u
  have hn := below_new w (.cells #[.int .i64 k, .int .i64 n, .slice A body.length c] 65)
  unfold UnitV.val
  simp only
  go_enter Tryz.func157, Tryz.ntmps157
  go_wp2
  all_goals
    go_ret
    refine ⟨ret_bool ?_, hn⟩
    first | exact (decide_eq_false (by unfold UnitV.right; simp only; omega)).symm | (refine decide_eq_decide.2 ?_; unfold UnitV.right; simp only; omega)
theorem parted_any (w : World) (n : Nat) (hn : n ≤ 140737488351232) :
    Calls Tryz.prog 166 #[.int .i64 (n : Int)] w fun e w' => e = .returned (.tuple #[.int .i64 ((min n 20 : Nat) : Int), .int .i64 ((n - 20 : Nat) : Int)]) ∧ w = w' := by
  by_cases h : n ≤ 20
  · have h1 : min n 20 = n := by omega
    have h2 : n - 20 = 0 := by omega
    rw [h1, h2]
    go_enter Tryz.func166, Tryz.ntmps166
    go_wp2_with fail
    all_goals
      go_ret2
      refine ⟨?_, rfl⟩
      congr 3 <;> first | omega | rfl
  · have h1 : min n 20 = 20 := by omega
    have h2 : ((n - 20 : Nat) : Int) = (n : Int) - 20 := by omega
    rw [h1, h2]
    go_enter Tryz.func166, Tryz.ntmps166
    go_wp2_with fail
    all_goals
      go_ret2
      refine ⟨?_, rfl⟩
      congr 3 <;> first | omega | rfl
end Go.Proofs.YtpaikolnampcfaaGreatDoor
namespace Go.Proofs.YtpaikolnampcfaaGreatDoor
open Go.RowKit
section
variable {σ : SenU} {w : World}
theorem GlU.flaw_kd (h : GlU σ w) (pos : Int) : FlawOf σ 4 (flawV pos σ.kd) := .inr ⟨pos, _, rfl, .inr (.inl rfl), h.code_kd.symm⟩
theorem GlU.flaw_by (h : GlU σ w) (pos : Int) : FlawOf σ 4 (flawV pos σ.by_) := .inr ⟨pos, _, rfl, .inl rfl, h.code_by.symm⟩
theorem GlU.flaw_sm (h : GlU σ w) (pos : Int) : FlawOf σ 5 (flawV pos σ.sm) := .inr ⟨pos, _, rfl, .inr (.inr (.inl rfl)), h.code_sm.symm⟩
theorem GlU.flaw_nm (h : GlU σ w) (pos : Int) : FlawOf σ 4 (flawV pos σ.nm) := .inr ⟨pos, _, rfl, .inr (.inr (.inr (.inl rfl))), h.code_nm.symm⟩
theorem GlU.flaw_bd (h : GlU σ w) (pos : Int) : FlawOf σ 4 (flawV pos σ.bd) := .inr ⟨pos, _, rfl, .inr (.inr (.inr (.inr (.inl rfl)))), h.code_bd.symm⟩
theorem GlU.flaw_nt (h : GlU σ w) (pos : Int) : FlawOf σ 4 (flawV pos σ.nt) := .inr ⟨pos, _, rfl, .inr (.inr (.inr (.inr (.inr (.inl rfl))))), h.code_nt.symm⟩
theorem GlU.flaw_en (h : GlU σ w) (pos : Int) : FlawOf σ 4 (flawV pos σ.en) := .inr ⟨pos, _, rfl, .inr (.inr (.inr (.inr (.inr (.inr (.inl rfl)))))), h.code_en.symm⟩
theorem GlU.flaw_ot (h : GlU σ w) (pos : Int) : FlawOf σ 6 (flawV pos σ.ot) := .inr ⟨pos, _, rfl, .inr (.inr (.inr (.inr (.inr (.inr (.inr rfl)))))), h.code_ot.symm⟩
theorem FlawOf.none (σ : SenU) : FlawOf σ 0 .nilIface := .inl ⟨rfl, rfl⟩
end
/-- A block at first sight. -/
def badB (b : List Int) : Prop := b.length ≠ 256 ∨ b.getD 0 0 < 1 ∨ 8 < b.getD 0 0
instance (b : List Int) : Decidable (badB b) := by unfold badB; exact inferInstance
set_option maxRecDepth 100000 in
set_option maxHeartbeats 1000000 in
theorem shapeless_any (σ : SenU) (w : World) (hG : GlU σ w) (A : Option Addr) (b : List Int) (c : Nat) (hb : BytesAt w A b) :
    Calls Tryz.prog 136 #[.slice A b.length c] w fun e w' => ∃ v, e = .returned v ∧ FlawOf σ (if badB b then 4 else 0) v ∧ w = w' := by
  have HG := Lib.hid hG
  have g1 := hG.by_
  have g2 := hG.kd
  unfold errK at g1 g2
  by_cases hl : b.length = 256
  · obtain ⟨b0, off, rfl⟩ := hb.some_ (by intro e; rw [e] at hl; exact absurd hl (by decide))
    have c0 := hb.one 0 (by omega)
    rw [Nat.add_zero] at c0
    have hli : ((b.length : Int) != 256) = false := by rw [hl]; rfl
    have hzb : 0 ≤ b.getD 0 0 ∧ b.getD 0 0 < 256 := by
      rw [List.getD_eq_getElem?_getD, List.getElem?_eq_getElem (by omega)]
      exact hb.1 _ (List.getElem_mem _)
    by_cases hk : b.getD 0 0 < 1 ∨ 8 < b.getD 0 0
    · rw [if_pos (.inr hk)]
      have Hk := Lib.hid hk
      rw [hl] at hli ⊢
      clear hb hG hl
      generalize b.getD 0 0 = z at *
      have hw : wrap64 z = z := by unfold wrap64; omega
      clear hzb
      by_cases h1 : z < 1
      · clear hk Hk
        go_enter Tryz.func136, Tryz.ntmps136
        go_wp2_with fail
        go_ret
        exact ⟨_, rfl, HG.out.flaw_kd 0, rfl⟩
      · have h8 : 8 < z := by omega
        clear hk Hk
        go_enter Tryz.func136, Tryz.ntmps136
        go_wp2_with fail
        go_ret
        exact ⟨_, rfl, HG.out.flaw_kd 0, rfl⟩
    · rw [if_neg (by rintro (h | h); exact h hl; exact hk h)]
      rw [hl] at hli ⊢
      clear hb hG hl
      generalize b.getD 0 0 = z at *
      have h1 : ¬ z < 1 := by omega
      have h8 : ¬ 8 < z := by omega
      have hw : wrap64 z = z := by unfold wrap64; omega
      clear hk hzb
      go_enter Tryz.func136, Tryz.ntmps136
      go_wp2_with fail
      go_ret
      exact ⟨_, rfl, FlawOf.none σ, rfl⟩
  · rw [if_pos (.inl hl)]
    have hli : ((b.length : Int) != 256) = true := by simp; omega
    clear hb hG
    go_enter Tryz.func136, Tryz.ntmps136
    go_wp2_with fail
    all_goals
      go_ret
      exact ⟨_, rfl, HG.out.flaw_by _, rfl⟩
/-- Is a unit another one than was asked for? -/
def otherU (u : UnitV) (k num : Int) : Prop := u.kind ≠ k ∨ (0 ≤ num ∧ u.num ≠ num)
instance (u : UnitV) (k num : Int) : Decidable (otherU u k num) := by unfold otherU; exact inferInstance
set_option maxRecDepth 100000 in
set_option maxHeartbeats 1000000 in
theorem strange_any (σ : SenU) (w : World) (hG : GlU σ w) (u : UnitV) (A : Option Addr) (c : Nat) (k num : Int) :
    Calls Tryz.prog 119 #[u.val A c, .int .i64 k, .int .i64 num] w fun e w' => ∃ v, e = .returned v ∧ FlawOf σ (if otherU u k num then 6 else 0) v ∧ Below w.heap.size w w' := by
  have hbn := below_new w (.cells #[.int .i64 u.kind, .int .i64 u.num, .slice A u.body.length c] 65)
  have HG := Lib.hid hG
  have g1 := cell_below hG.ot hbn
  have Hb := Lib.hid hbn
  unfold errK at g1
  unfold UnitV.val
  by_cases hk : u.kind = k
  · have hk1 : (u.kind != k) = false := by rw [hk]; simp
    by_cases h0 : 0 ≤ num
    · by_cases hn : u.num = num
      · rw [if_neg (by rintro (h | h); exact h hk; exact h.2 hn)]
        have hn1 : (u.num != num) = false := by rw [hn]; simp
        clear hG hbn hk hn
        go_enter Tryz.func119, Tryz.ntmps119
        go_wp2_with fail
        go_ret
        exact ⟨_, rfl, FlawOf.none σ, Hb.out⟩
      · rw [if_pos (.inr ⟨h0, hn⟩)]
        have hn1 : (u.num != num) = true := by simpa using hn
        clear hG hbn hk hn
        go_enter Tryz.func119, Tryz.ntmps119
        go_wp2_with fail
        go_ret
        exact ⟨_, rfl, HG.out.flaw_ot 1, Hb.out⟩
    · rw [if_neg (by rintro (h | h); exact h hk; exact h0 h.1)]
      clear hG hbn hk
      go_enter Tryz.func119, Tryz.ntmps119
      go_wp2_with fail
      go_ret
      exact ⟨_, rfl, FlawOf.none σ, Hb.out⟩
  · rw [if_pos (.inl hk)]
    have hk1 : (u.kind != k) = true := by simpa using hk
    clear hG hbn hk
    go_enter Tryz.func119, Tryz.ntmps119
    go_wp2_with fail
    go_ret
    exact ⟨_, rfl, HG.out.flaw_ot 0, Hb.out⟩
/-- A cut in the middle. -/
theorem cut_mid (X : Option Addr) (n i j cap : Nat) (w : World) (h1 : i ≤ j) (h2 : j ≤ cap) : (Instr.slice 28 (.slice X n cap) (some (.int .i64 (i : Int))) (some (.int .i64 (j : Int))) none).run Tryz.prog w = .ok (.slice (cutAt X cap i) (j - i) (cap - i)) w := by
  have hs : (sizeOf (Tryz.prog.elem 28)).run Tryz.prog w = .ok 1 w := by kernel_rfl
  rw [run_slice_lh w 28 X n cap (by kernel_rfl) .i64 .i64 i j (by omega) (by omega) (by omega), hs]
  simp [Result.andThen, sliced, cutAt]
theorem cut_some {b0 off cap i : Nat} (h : i < cap) : cutAt (some ⟨b0, off, none⟩) cap i = some ⟨b0, off + i, none⟩ := by
  unfold cutAt
  rw [if_neg (by omega)]
  show some ((⟨b0, off, none⟩ : Addr).add i) = _
  congr 1
  unfold Addr.add; split <;> simp_all
set_option maxRecDepth 100000 in
set_option maxHeartbeats 2000000 in
theorem bare_any (σ : SenU) (w : World) (hG : GlU σ w) (q : Option Addr) (b0 off : Nat) (b : List Int) (c i j : Nat) (hb : BytesAt w (some ⟨b0, off, none⟩) b) (hl : b.length = 256) (hc : 256 ≤ c) (hm : c ≤ 9223372036854775807) (hij : i ≤ j) (hj : j < 256) :
    Calls Tryz.prog 168 #[.agg #[.pointer q, .slice (some ⟨b0, off, none⟩) 256 c], .int .i64 (i : Int), .int .i64 (j : Int)] w fun e w' => ∃ v k, e = .returned v ∧ FlawOf σ k v ∧ ((Noughts b i j ∧ k = 0) ∨ (¬ Noughts b i j ∧ k = 4)) ∧ Below w.heap.size w w' := by
  have hbn := below_new w (.cells #[.pointer q, .slice (some ⟨b0, off, none⟩) 256 c] 218)
  have hB := hb.below hbn
  have hG1 := hG.below hbn
  have g1 := hG1.nt
  unfold errK at g1
  have h1 := fun w' => cut_mid (some ⟨b0, off, none⟩) 256 i j c w' hij (by omega)
  rw [cut_some (show i < c by omega)] at h1
  have H0 := Lib.hid (And.intro hbn (And.intro hB hG1))
  have Hl := Lib.hid hl
  have Hji : ((j - i : Nat) : Int) = (j : Int) - (i : Int) := by omega
  clear hb hG hbn hB hG1 hl
  go_enter Tryz.func168, Tryz.ntmps168
  go_wp2_with fail
  generalize w.alloc (.cells #[.pointer q, .slice (some ⟨b0, off, none⟩) 256 c] 218) = w1 at *
  go_loopg [7, 8, 15] (j - i) (fun gk _ _ x wx => ∃ k : Nat, gk = j - i - k ∧ k ≤ j - i ∧ x = .int .i64 (k : Int) ∧ wx = w1 ∧ Hid (Noughts b i (i + k)))
  case atStart => exact ⟨0, rfl, Nat.zero_le _, rfl, rfl, Lib.hid (fun q h1 h2 => by omega)⟩
  case round =>
    obtain ⟨k, hgk, hk, rfl, rfl, hN⟩ := hrel
    have Hgk := Lib.hid hgk
    clear hgk
    by_cases hlt : (k : Int) < ((j - i : Nat) : Int)
    · have hltN : k < j - i := by omega
      have c1 := H0.out.2.1.one (i + k) (by rw [Hl.out]; omega)
      rw [← Nat.add_assoc] at c1
      have Hz := Lib.hid (show b.getD (i + k) 0 = b.getD (i + k) 0 from rfl)
      have hzb := (H0.out.2.1.1 : ∀ z ∈ b, 0 ≤ z ∧ z < 256)
      obtain ⟨z, hz⟩ : ∃ z, b.getD (i + k) 0 = z := ⟨_, rfl⟩
      rw [hz] at c1
      have HZ := Lib.hid hz
      clear hz Hz hzb
      by_cases h0 : z = 0
      · subst h0
        go_wp2_with fail
        go_roundg (j - i - (k + 1))
        case measure => rw [Hgk.out]; omega
        case rel =>
          refine ⟨k + 1, rfl, by omega, by go_num, rfl, Lib.hid (fun q h1 h2 => ?_)⟩
          by_cases e : q = i + k
          · rw [e]; exact HZ.out
          · exact hN.out q h1 (by omega)
      · have hz1 : (z != 0) = true := by simpa using h0
        have HZ0 := Lib.hid h0
        clear h0
        go_wp2_with fail
        go_ret
        exact ⟨_, 4, rfl, H0.out.2.2.flaw_nt _, .inr ⟨fun hh => HZ0.out (by rw [← HZ.out]; exact hh (i + k) (by omega) (by omega)), rfl⟩, H0.out.1⟩
    · obtain rfl : k = j - i := by omega
      go_wp2_with fail
      go_ret
      first
        | exact ⟨_, 0, rfl, FlawOf.none σ, .inl ⟨fun q h1 h2 => hN.out q h1 (by omega), rfl⟩, H0.out.1⟩
        | exact ⟨_, rfl, 0, FlawOf.none σ, .inl ⟨fun q h1 h2 => hN.out q h1 (by omega), rfl⟩, H0.out.1⟩
end Go.Proofs.YtpaikolnampcfaaGreatDoor
namespace Go.Proofs.YtpaikolnampcfaaGreatDoor
open Go.RowKit
theorem code_pos (σ : SenU) (a : Addr) : σ.code a ≠ 0 := by unfold SenU.code; split; decide; split <;> decide
theorem FlawOf.zero {σ : SenU} {v : Value} (h : FlawOf σ 0 v) : v = .nilIface := by
  rcases h with ⟨_, rfl⟩ | ⟨pos, a, rfl, _, e⟩
  · rfl
  · exact absurd e.symm (code_pos σ a)
theorem FlawOf.some_ {σ : SenU} {k : Int} {v : Value} (hk : k ≠ 0) (h : FlawOf σ k v) : ∃ pos a, v = flawV pos a ∧ FlawOf σ k (flawV pos a) := by
  rcases h with ⟨e, _⟩ | ⟨pos, a, rfl, h⟩
  · exact absurd e hk
  · exact ⟨pos, a, rfl, .inr ⟨pos, a, rfl, h⟩⟩
theorem FlawOf.four {σ : SenU} {v : Value} (h : FlawOf σ 4 v) : ∃ pos a, v = flawV pos a ∧ FlawOf σ 4 (flawV pos a) := h.some_ (by decide)
/-- bare, at two numbers. -/
def BareC (σ : SenU) (q : Option Addr) (b0 off c : Nat) (b : List Int) (w : World) (x y : Int) (i j : Nat) : Prop :=
  Calls Tryz.prog 168 #[.agg #[.pointer q, .slice (some ⟨b0, off, none⟩) 256 c], .int .i64 x, .int .i64 y] w fun e w' => ∃ v k, e = .returned v ∧ FlawOf σ k v ∧ ((Noughts b i j ∧ k = 0) ∨ (¬ Noughts b i j ∧ k = 4)) ∧ Below w.heap.size w w'
set_option maxRecDepth 100000 in
set_option maxHeartbeats 4000000 in
theorem lack_any (σ : SenU) (w : World) (hG : GlU σ w) (q : Option Addr) (b0 off : Nat) (b : List Int) (c many : Nat) (hb : BytesAt w (some ⟨b0, off, none⟩) b) (hl : b.length = 256) (hc : 256 ≤ c) (hm : c ≤ 9223372036854775807) (hmany : many ≤ 255) :
    Calls Tryz.prog 161 #[.agg #[.pointer q, .slice (some ⟨b0, off, none⟩) 256 c], .int .i64 (many : Int)] w fun e w' => ∃ v k, e = .returned v ∧ FlawOf σ k v ∧ ((lackOk b many ∧ k = 0) ∨ (¬ lackOk b many ∧ k = 4)) ∧ Below w.heap.size w w' := by
  have hbn := below_new w (.cells #[.pointer q, .slice (some ⟨b0, off, none⟩) 256 c] 218)
  obtain ⟨d0, d1⟩ := row2_cells w (.pointer q) (.slice (some ⟨b0, off, none⟩) 256 c) 218
  have HP := Lib.hid (parted_any (w.alloc (.cells #[.pointer q, .slice (some ⟨b0, off, none⟩) 256 c] 218)) many (by omega))
  have HB1 := Lib.hid (hb.below hbn)
  have HG1 := Lib.hid (hG.below hbn)
  have HD := Lib.hid (And.intro d0 d1)
  have Hb0 := Lib.hid hbn
  have Hl := Lib.hid hl
  have g1 := (hG.below hbn).bd
  unfold errK at g1
  clear hb hG hbn hl
  obtain ⟨w1, hw1⟩ : ∃ w1, w.alloc (.cells #[.pointer q, .slice (some ⟨b0, off, none⟩) 256 c] 218) = w1 := ⟨_, rfl⟩
  rw [hw1] at d0 d1 HP HB1 HG1 HD Hb0 g1
  have HBr := Lib.hid (fun (w' : World) (hb' : Below w1.heap.size w1 w') (x y : Int) (i j : Nat) (hij : i ≤ j) (hj : j < 256) (hx : x = (i : Int)) (hy : y = (j : Int)) => (show BareC σ q b0 off c b w' x y i j by
    subst hx hy
    exact bare_any σ w' (HG1.out.below hb') q b0 off b c i j (HB1.out.below hb') Hl.out hc hm hij hj))
  have Hw1 := Lib.hid hw1
  clear hw1
  by_cases h239 : 239 < many
  · have h239i : (239 : Int) < (many : Int) := by omega
    go_enter Tryz.func161, Tryz.ntmps161
    go_wp2_with fail
    rw [Hw1.out]
    refine HP.out.mono ?_
    rintro e w' ⟨rfl, rfl⟩
    go_wp2_with fail
    go_ret
    first
      | exact ⟨_, 4, rfl, HG1.out.flaw_bd 7, .inr ⟨fun hh => by have := hh.1; omega, rfl⟩, Hb0.out⟩
      | exact ⟨_, rfl, 4, HG1.out.flaw_bd 7, .inr ⟨fun hh => by have := hh.1; omega, rfl⟩, Hb0.out⟩
  · have h239i : ¬ (239 : Int) < (many : Int) := by omega
    by_cases h20 : many ≤ 20
    · have e1 : min many 20 = many := Nat.min_eq_left h20
      have e2 : many - 20 = 0 := Nat.sub_eq_zero_of_le h20
      rw [e1, e2] at HP
      go_enter Tryz.func161, Tryz.ntmps161
      go_wp2_with fail
      rw [Hw1.out]
      refine HP.out.mono ?_
      rintro e w' ⟨rfl, rfl⟩
      have hb1 := Below.refl w1.heap.size w1
      clear g1 d0 d1
      have HX := Lib.hid (HBr.out w1 hb1 (8 + (many : Int)) 28 (8 + many) 28 (by omega) (by decide) (by omega) rfl)
      unfold BareC at HX
      have d0 := cell_below HD.out.1 hb1
      have d1 := cell_below HD.out.2 hb1
      go_wp2_with fail
      clear d0 d1
      refine HX.out.mono ?_
      rintro e w5 ⟨v, k, rfl, hF, hN, hb'⟩
      have hb5 := (hb1).trans (hb'.mono (hb1).size)
      clear HX hb'
      by_cases hw5 : Noughts b (8 + many) 28
      rotate_left
      · obtain ⟨pos, a, rfl, ha⟩ := FlawOf.four (show FlawOf σ 4 v by rcases hN with ⟨h, _⟩ | ⟨_, rfl⟩; exact absurd h hw5; exact hF)
        have hbz := Lib.hid hb5
        have Hh := Lib.hid hw5
        clear hF hN hw5
        go_wp2_with fail
        go_ret
        first
          | exact ⟨_, 4, rfl, ha, .inr ⟨fun hh => Hh.out (hh.2.1 h20), rfl⟩, Hb0.out.trans (hbz.out.mono Hb0.out.size)⟩
          | exact ⟨_, rfl, 4, ha, .inr ⟨fun hh => Hh.out (hh.2.1 h20), rfl⟩, Hb0.out.trans (hbz.out.mono Hb0.out.size)⟩
      obtain rfl := FlawOf.zero (show FlawOf σ 0 v by rcases hN with ⟨_, rfl⟩ | ⟨h, _⟩; exact hF; exact absurd hw5 h)
      have Hw5 := Lib.hid hw5
      clear hF hN hw5
      have HX := Lib.hid (HBr.out w5 hb5 32 36 (32) 36 (by decide) (by decide) rfl rfl)
      unfold BareC at HX
      have d0 := cell_below HD.out.1 hb5
      have d1 := cell_below HD.out.2 hb5
      go_wp2_with fail
      clear d0 d1
      refine HX.out.mono ?_
      rintro e w6 ⟨v, k, rfl, hF, hN, hb'⟩
      have hb6 := (hb5).trans (hb'.mono (hb5).size)
      clear HX hb'
      by_cases hw6 : Noughts b 32 36
      rotate_left
      · obtain ⟨pos, a, rfl, ha⟩ := FlawOf.four (show FlawOf σ 4 v by rcases hN with ⟨h, _⟩ | ⟨_, rfl⟩; exact absurd h hw6; exact hF)
        have hbz := Lib.hid hb6
        have Hh := Lib.hid hw6
        clear hF hN hw6
        go_wp2_with fail
        go_ret
        first
          | exact ⟨_, 4, rfl, ha, .inr ⟨fun hh => Hh.out (hh.2.2.1), rfl⟩, Hb0.out.trans (hbz.out.mono Hb0.out.size)⟩
          | exact ⟨_, rfl, 4, ha, .inr ⟨fun hh => Hh.out (hh.2.2.1), rfl⟩, Hb0.out.trans (hbz.out.mono Hb0.out.size)⟩
      obtain rfl := FlawOf.zero (show FlawOf σ 0 v by rcases hN with ⟨_, rfl⟩ | ⟨h, _⟩; exact hF; exact absurd hw6 h)
      have Hw6 := Lib.hid hw6
      clear hF hN hw6
      have HX := Lib.hid (HBr.out w6 hb6 36 255 (36 + (many - 20)) 255 (by omega) (by decide) (by omega) rfl)
      unfold BareC at HX
      have d0 := cell_below HD.out.1 hb6
      have d1 := cell_below HD.out.2 hb6
      go_wp2_with fail
      clear d0 d1
      refine HX.out.mono ?_
      rintro e w7 ⟨v, k, rfl, hF, hN, hb'⟩
      have hb7 := (hb6).trans (hb'.mono (hb6).size)
      clear HX hb'
      by_cases hw7 : Noughts b (36 + (many - 20)) 255
      rotate_left
      · obtain ⟨pos, a, rfl, ha⟩ := FlawOf.four (show FlawOf σ 4 v by rcases hN with ⟨h, _⟩ | ⟨_, rfl⟩; exact absurd h hw7; exact hF)
        have hbz := Lib.hid hb7
        have Hh := Lib.hid hw7
        clear hF hN hw7
        go_wp2_with fail
        go_ret
        first
          | exact ⟨_, 4, rfl, ha, .inr ⟨fun hh => Hh.out (hh.2.2.2.1), rfl⟩, Hb0.out.trans (hbz.out.mono Hb0.out.size)⟩
          | exact ⟨_, rfl, 4, ha, .inr ⟨fun hh => Hh.out (hh.2.2.2.1), rfl⟩, Hb0.out.trans (hbz.out.mono Hb0.out.size)⟩
      obtain rfl := FlawOf.zero (show FlawOf σ 0 v by rcases hN with ⟨_, rfl⟩ | ⟨h, _⟩; exact hF; exact absurd hw7 h)
      have Hw7 := Lib.hid hw7
      clear hF hN hw7
      have d0 := cell_below HD.out.1 hb7
      have d1 := cell_below HD.out.2 hb7
      have c255 := (HB1.out.below hb7).one 255 (by rw [Hl.out]; decide)
      have g7 := (HG1.out.below hb7).en
      have HG7 := Lib.hid (HG1.out.below hb7)
      unfold errK at g7
      have Hb7 := Lib.hid hb7
      obtain ⟨z, hz⟩ : ∃ z, b.getD 255 0 = z := ⟨_, rfl⟩
      rw [hz] at c255
      have HZ := Lib.hid hz
      clear hz hb6 hb7
      by_cases he : z = 0
      · subst he
        go_wp2_with fail
        go_ret
        have hok : lackOk b many := ⟨by omega, fun h => by exact Hw5.out, Hw6.out, Hw7.out, by rw [HZ.out, if_neg (by omega)]⟩
        first
          | exact ⟨_, 0, rfl, FlawOf.none σ, .inl ⟨hok, rfl⟩, Hb0.out.trans (Hb7.out.mono Hb0.out.size)⟩
          | exact ⟨_, rfl, 0, FlawOf.none σ, .inl ⟨hok, rfl⟩, Hb0.out.trans (Hb7.out.mono Hb0.out.size)⟩
      · have he1 : (z != 0) = true := by simpa using he
        have He := Lib.hid he
        clear he
        go_wp2_with fail
        go_ret
        have hno : ¬ lackOk b many := fun hh => by
          have h5 := hh.2.2.2.2
          rw [HZ.out, if_neg (by omega)] at h5
          exact He.out h5
        first
          | exact ⟨_, 4, rfl, HG7.out.flaw_en 255, .inr ⟨hno, rfl⟩, Hb0.out.trans (Hb7.out.mono Hb0.out.size)⟩
          | exact ⟨_, rfl, 4, HG7.out.flaw_en 255, .inr ⟨hno, rfl⟩, Hb0.out.trans (Hb7.out.mono Hb0.out.size)⟩
    · have hbk : ¬ ((many - 20 : Nat) : Int) = 0 := by omega
      have hbk1 : (((many - 20 : Nat) : Int) == 0) = false := beq_eq_false_iff_ne.2 hbk
      go_enter Tryz.func161, Tryz.ntmps161
      go_wp2_with fail
      rw [Hw1.out]
      refine HP.out.mono ?_
      rintro e w' ⟨rfl, rfl⟩
      have hb1 := Below.refl w1.heap.size w1
      clear g1 d0 d1
      have HX := Lib.hid (HBr.out w1 hb1 32 36 (32) 36 (by decide) (by decide) rfl rfl)
      unfold BareC at HX
      have d0 := cell_below HD.out.1 hb1
      have d1 := cell_below HD.out.2 hb1
      go_wp2_with fail
      clear d0 d1
      refine HX.out.mono ?_
      rintro e w6 ⟨v, k, rfl, hF, hN, hb'⟩
      have hb6 := (hb1).trans (hb'.mono (hb1).size)
      clear HX hb'
      by_cases hw6 : Noughts b 32 36
      rotate_left
      · obtain ⟨pos, a, rfl, ha⟩ := FlawOf.four (show FlawOf σ 4 v by rcases hN with ⟨h, _⟩ | ⟨_, rfl⟩; exact absurd h hw6; exact hF)
        have hbz := Lib.hid hb6
        have Hh := Lib.hid hw6
        clear hF hN hw6
        go_wp2_with fail
        go_ret
        first
          | exact ⟨_, 4, rfl, ha, .inr ⟨fun hh => Hh.out (hh.2.2.1), rfl⟩, Hb0.out.trans (hbz.out.mono Hb0.out.size)⟩
          | exact ⟨_, rfl, 4, ha, .inr ⟨fun hh => Hh.out (hh.2.2.1), rfl⟩, Hb0.out.trans (hbz.out.mono Hb0.out.size)⟩
      obtain rfl := FlawOf.zero (show FlawOf σ 0 v by rcases hN with ⟨_, rfl⟩ | ⟨h, _⟩; exact hF; exact absurd hw6 h)
      have Hw6 := Lib.hid hw6
      clear hF hN hw6
      have HX := Lib.hid (HBr.out w6 hb6 (36 + ((many - 20 : Nat) : Int)) 255 (36 + (many - 20)) 255 (by omega) (by decide) (by omega) rfl)
      unfold BareC at HX
      have d0 := cell_below HD.out.1 hb6
      have d1 := cell_below HD.out.2 hb6
      go_wp2_with fail
      clear d0 d1
      refine HX.out.mono ?_
      rintro e w7 ⟨v, k, rfl, hF, hN, hb'⟩
      have hb7 := (hb6).trans (hb'.mono (hb6).size)
      clear HX hb'
      by_cases hw7 : Noughts b (36 + (many - 20)) 255
      rotate_left
      · obtain ⟨pos, a, rfl, ha⟩ := FlawOf.four (show FlawOf σ 4 v by rcases hN with ⟨h, _⟩ | ⟨_, rfl⟩; exact absurd h hw7; exact hF)
        have hbz := Lib.hid hb7
        have Hh := Lib.hid hw7
        clear hF hN hw7
        go_wp2_with fail
        go_ret
        first
          | exact ⟨_, 4, rfl, ha, .inr ⟨fun hh => Hh.out (hh.2.2.2.1), rfl⟩, Hb0.out.trans (hbz.out.mono Hb0.out.size)⟩
          | exact ⟨_, rfl, 4, ha, .inr ⟨fun hh => Hh.out (hh.2.2.2.1), rfl⟩, Hb0.out.trans (hbz.out.mono Hb0.out.size)⟩
      obtain rfl := FlawOf.zero (show FlawOf σ 0 v by rcases hN with ⟨_, rfl⟩ | ⟨h, _⟩; exact hF; exact absurd hw7 h)
      have Hw7 := Lib.hid hw7
      clear hF hN hw7
      have d0 := cell_below HD.out.1 hb7
      have d1 := cell_below HD.out.2 hb7
      have c255 := (HB1.out.below hb7).one 255 (by rw [Hl.out]; decide)
      have g7 := (HG1.out.below hb7).en
      have HG7 := Lib.hid (HG1.out.below hb7)
      unfold errK at g7
      have Hb7 := Lib.hid hb7
      obtain ⟨z, hz⟩ : ∃ z, b.getD 255 0 = z := ⟨_, rfl⟩
      rw [hz] at c255
      have HZ := Lib.hid hz
      clear hz hb6 hb7
      by_cases he : z = 1
      · subst he
        go_wp2_with fail
        go_ret
        have hok : lackOk b many := ⟨by omega, fun h => by omega, Hw6.out, Hw7.out, by rw [HZ.out, if_pos (by omega)]⟩
        first
          | exact ⟨_, 0, rfl, FlawOf.none σ, .inl ⟨hok, rfl⟩, Hb0.out.trans (Hb7.out.mono Hb0.out.size)⟩
          | exact ⟨_, rfl, 0, FlawOf.none σ, .inl ⟨hok, rfl⟩, Hb0.out.trans (Hb7.out.mono Hb0.out.size)⟩
      · have he1 : (z != 1) = true := by simpa using he
        have He := Lib.hid he
        clear he
        go_wp2_with fail
        go_ret
        have hno : ¬ lackOk b many := fun hh => by
          have h5 := hh.2.2.2.2
          rw [HZ.out, if_pos (by omega)] at h5
          exact He.out h5
        first
          | exact ⟨_, 4, rfl, HG7.out.flaw_en 255, .inr ⟨hno, rfl⟩, Hb0.out.trans (Hb7.out.mono Hb0.out.size)⟩
          | exact ⟨_, rfl, 4, HG7.out.flaw_en 255, .inr ⟨hno, rfl⟩, Hb0.out.trans (Hb7.out.mono Hb0.out.size)⟩
end Go.Proofs.YtpaikolnampcfaaGreatDoor
