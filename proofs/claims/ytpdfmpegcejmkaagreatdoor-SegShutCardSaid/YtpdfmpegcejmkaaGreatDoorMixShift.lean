/- When a block is one of a unit, part by part: plain mathematics. -/
/- Is a unit right, is it small; the parts of its body: the package's, and the page's own. -/
/- What a block has not, at first sight; noughts; how a unit is another one than was asked for. -/
/- Walks over mix's and the page's arithmetic: one shift; facts on numbers of 32 bits. -/
import Derived.Test.YtpdfmpegcejmkaaGreatDoorUnitModel
import Derived.Test.YtpdfmpegcejmkaaGreatDoorKitBlock
import Derived.Test.YtpdfmpegcejmkaaGreatDoorUnitErr
import Derived.Deep.LoopGhost
import Derived.Test.YtpdfmpegcejmkaaGreatDoorDevModel
import Derived.WalkKit
import Derived.WalkLawsBesides
import Derived.WalkSpells
import Derived.Laws.BitsAllLaws
import Derived.LoopTactic
import Derived.Lib.Hide
import Derived.Outline
namespace Go.Proofs.YtpdfmpegcejmkaaGreatDoor
open Mx
theorem take_get (l : List Int) (n i : Nat) : (l.take n).getD i 0 = if i < n then l.getD i 0 else 0 := by
  rw [List.getD_eq_getElem?_getD, List.getElem?_take]
  split
  · rw [List.getD_eq_getElem?_getD]
  · rfl
theorem none_get {l : List Int} {i : Nat} (h : l.length ≤ i) : l.getD i 0 = 0 := by rw [List.getD_eq_getElem?_getD, List.getElem?_eq_none h]; rfl
theorem app_get (l r : List Int) (i : Nat) : (l ++ r).getD i 0 = if i < l.length then l.getD i 0 else r.getD (i - l.length) 0 := by
  rw [List.getD_eq_getElem?_getD]
  split
  · next h => rw [List.getElem?_append_left h, List.getD_eq_getElem?_getD]
  · next h => rw [List.getElem?_append_right (by omega), List.getD_eq_getElem?_getD]
theorem zero_get (n i : Nat) : (List.replicate n (0 : Int)).getD i 0 = 0 := by
  rw [List.getD_eq_getElem?_getD, List.getElem?_replicate]; split <;> rfl
theorem pad_get (n : Nat) (bs : List Int) (i : Nat) : (padTo n bs).getD i 0 = bs.getD i 0 := by
  unfold padTo
  rw [app_get]
  split
  · rfl
  · next h => rw [zero_get, none_get (by omega)]
theorem ext_get {l r : List Int} (hl : l.length = r.length) (h : ∀ i, i < l.length → l.getD i 0 = r.getD i 0) : l = r := by
  apply List.ext_getElem hl
  intro i h1 h2
  have := h i h1
  rw [List.getD_eq_getElem?_getD, List.getD_eq_getElem?_getD, List.getElem?_eq_getElem h1, List.getElem?_eq_getElem h2] at this
  exact this
/-- Noughts, from one place up to ahead of another one. -/
def Noughts (b : List Int) (i j : Nat) : Prop := ∀ q, i ≤ q → q < j → b.getD q 0 = 0
theorem seal_parts {u : UnitV} {b : List Int} (h1 : u.front = b.take 28) (h2 : u.sumB = (b.drop 28).take 4) (h3 : [0, 0, 0, 0] = (b.drop 32).take 4) (h4 : u.rest = b.drop 36) : sealB u = b := by
  unfold sealB
  rw [h1, h2, h3, h4, show b.drop 36 = (b.drop 32).drop 4 by rw [List.drop_drop], List.take_append_drop, show b.drop 32 = (b.drop 28).drop 4 by rw [List.drop_drop], List.take_append_drop, List.take_append_drop]
section
variable {b : List Int}
theorem unitOf_len (hl : b.length = 256) : (unitOf b).body.length = min (b.getD 7 0).toNat 239 := by
  show (List.take _ _).length = _
  rw [List.length_take, List.length_append, List.length_take, List.length_drop, List.length_take, List.length_drop, hl]; omega
theorem unitOf_get (hl : b.length = 256) (i : Nat) : (unitOf b).body.getD i 0 = if i < (b.getD 7 0).toNat then (if i < 20 then b.getD (8 + i) 0 else if i < 239 then b.getD (16 + i) 0 else 0) else 0 := by
  show (List.take _ _).getD i 0 = _
  have h20 : ((b.drop 8).take 20).length = 20 := by rw [List.length_take, List.length_drop, hl]; rfl
  rw [take_get, app_get, h20, take_get, ← getD_of_drop]
  by_cases h : i < 20
  · rw [if_pos h, if_pos h, if_pos h]
  · rw [if_neg h, if_neg h, take_get, ← getD_of_drop, show 36 + (i - 20) = 16 + i by omega]
    by_cases h2 : i < 239
    · rw [if_pos h2, if_pos (show i - 20 < 219 by omega)]
    · rw [if_neg h2, if_neg (show ¬ i - 20 < 219 by omega)]
theorem front_get8 (u : UnitV) (i : Nat) (hi : i < 20) : u.front.getD (8 + i) 0 = u.body.getD i 0 := by
  have h : u.front = (u.kind :: (le 6 u.num ++ [(u.body.length : Int)])) ++ padTo 20 (u.body.take 20) := by unfold UnitV.front; simp
  have h8 : (u.kind :: (le 6 u.num ++ [(u.body.length : Int)])).length = 8 := by rw [List.length_cons, List.length_append, le_len]; rfl
  rw [h, app_get, h8, if_neg (by omega), show 8 + i - 8 = i by omega, pad_get, take_get, if_pos hi]
theorem rest_get (u : UnitV) (hu : u.body.length ≤ 239) (i : Nat) : u.rest.getD i 0 = if i < 219 then u.body.getD (20 + i) 0 else if i = 219 then (if 20 < u.body.length then 1 else 0) else 0 := by
  have hp : (padTo 219 (u.body.drop 20)).length = 219 := padTo_len (by rw [List.length_drop]; omega)
  unfold UnitV.rest
  rw [app_get, hp]
  by_cases h : i < 219
  · rw [if_pos h, if_pos h, pad_get, ← getD_of_drop]
  · rw [if_neg h, if_neg h]
    by_cases h2 : i = 219
    · rw [if_pos h2, h2]; rfl
    · rw [if_neg h2, none_get (by rw [List.length_singleton]; omega)]
/-- What the block must have besides: noughts, its end. -/
def lackOk (b : List Int) (many : Nat) : Prop := many ≤ 239 ∧ (many ≤ 20 → Noughts b (8 + many) 28) ∧ Noughts b 32 36 ∧ Noughts b (36 + (many - 20)) 255 ∧ b.getD 255 0 = if 20 < many then 1 else 0
theorem lack_of (hl : b.length = 256) (h : sealB (unitOf b) = b) : lackOk b (b.getD 7 0).toNat := by
  have hlen := unitOf_len hl
  have h7 := seal_len7 (unitOf b)
  rw [h] at h7
  have hm : (b.getD 7 0).toNat = (unitOf b).body.length := by omega
  rw [hm]
  rw [hm] at hlen
  generalize unitOf b = u at *
  have hu : u.body.length ≤ 239 := by omega
  have hr : ∀ i, b.getD (36 + i) 0 = u.rest.getD i 0 := fun i => by rw [getD_of_drop, ← h, seal_drop36]
  refine ⟨hu, fun h20 q h1 h2 => ?_, fun q h1 h2 => ?_, fun q h1 h2 => ?_, ?_⟩
  · obtain ⟨i, rfl⟩ : ∃ i, q = 8 + i := ⟨q - 8, by omega⟩
    have e : b.getD (8 + i) 0 = (b.take 28).getD (8 + i) 0 := by rw [take_get, if_pos h2]
    rw [e, ← h, seal_take28, front_get8 u i (by omega), none_get (by omega)]
  · have := seal_gap u
    rw [h] at this
    exact this q h1 h2
  · obtain ⟨i, rfl⟩ : ∃ i, q = 36 + i := ⟨q - 36, by omega⟩
    rw [hr, rest_get u hu, if_pos (by omega), none_get (by omega)]
  · rw [show (255 : Nat) = 36 + 219 from rfl, hr, rest_get u hu, if_neg (by omega), if_pos rfl]
theorem lack_seal (hl : b.length = 256) (hb : ∀ z ∈ b, 0 ≤ z ∧ z < 256) (h0 : 0 ≤ b.getD 7 0) (hf : fitsB b) (h : lackOk b (b.getD 7 0).toNat) : sealB (unitOf b) = b := by
  obtain ⟨hm, hs, hg, hr, he⟩ := h
  have hlen := unitOf_len hl
  rw [Nat.min_eq_left hm] at hlen
  have hget := unitOf_get hl
  have h1 : (unitOf b).front = b.take 28 := by
    refine ext_get (by rw [front_len, List.length_take, hl]; rfl) (fun i hi => ?_)
    rw [front_len] at hi
    rw [take_get, if_pos hi]
    by_cases h8 : i < 8
    · have h6 : ((b.drop 1).take 6).length = 6 := by rw [List.length_take, List.length_drop, hl]; rfl
      have hbd : ∀ z ∈ (b.drop 1).take 6, 0 ≤ z ∧ z < 256 := fun z hz => hb z (List.mem_of_mem_drop (List.mem_of_mem_take hz))
      have hle := le_unle _ hbd
      rw [h6] at hle
      have hfr : (unitOf b).front = b.getD 0 0 :: ((b.drop 1).take 6 ++ ((unitOf b).body.length : Int) :: padTo 20 ((unitOf b).body.take 20)) := by
        unfold UnitV.front
        show b.getD 0 0 :: (le 6 (unle ((b.drop 1).take 6)) ++ _) = _
        rw [hle]
      rw [hfr]
      match i with
      | 0 => rfl
      | i + 1 =>
        rw [List.getD_cons_succ, app_get, h6]
        by_cases hi6 : i < 6
        · rw [if_pos hi6, take_get, if_pos hi6, ← getD_of_drop, Nat.add_comm 1 i]
        · obtain rfl : i = 6 := by omega
          rw [if_neg hi6]
          show ((unitOf b).body.length : Int) = b.getD 7 0
          rw [hlen]; omega
    · obtain ⟨j, rfl⟩ : ∃ j, i = 8 + j := ⟨i - 8, by omega⟩
      rw [front_get8 _ j (by omega), hget]
      by_cases hj : j < (b.getD 7 0).toNat
      · rw [if_pos hj, if_pos (by omega)]
      · rw [if_neg hj, hs (by omega) (8 + j) (by omega) (by omega)]
  have h4 : (unitOf b).rest = b.drop 36 := by
    refine ext_get (by rw [rest_len (by omega), List.length_drop, hl]) (fun i hi => ?_)
    rw [rest_len (by omega)] at hi
    rw [rest_get _ (by omega), ← getD_of_drop]
    by_cases hi2 : i < 219
    · rw [if_pos hi2, hget]
      by_cases hj : 20 + i < (b.getD 7 0).toNat
      · rw [if_pos hj, if_neg (by omega), if_pos (by omega), show 16 + (20 + i) = 36 + i by omega]
      · rw [if_neg hj, hr (36 + i) (by omega) (by omega)]
    · obtain rfl : i = 219 := by omega
      rw [if_neg hi2, if_pos rfl, show 36 + 219 = 255 from rfl, he, hlen]
  have h3 : [0, 0, 0, 0] = (b.drop 32).take 4 := by
    refine ext_get (by rw [List.length_take, List.length_drop, hl]; rfl) (fun i hi => ?_)
    have hi : i < 4 := hi
    rw [take_get, if_pos hi, ← getD_of_drop, hg (32 + i) (by omega) (by omega)]
    exact zero_get 4 i
  refine seal_parts h1 ?_ h3 h4
  unfold UnitV.sumB
  unfold fitsB unitRow at hf
  rw [h1, h4, ← hf]
  have h4l : ((b.drop 28).take 4).length = 4 := by rw [List.length_take, List.length_drop, hl]; rfl
  have := le_unle ((b.drop 28).take 4) (fun z hz => hb z (List.mem_of_mem_drop (List.mem_of_mem_take hz)))
  rw [h4l] at this
  exact this
/-- The body of so many bytes. -/
theorem unitOf_body (hl : b.length = 256) (hm : (b.getD 7 0).toNat ≤ 239) : (unitOf b).body = ((b.drop 8).take (min (b.getD 7 0).toNat 20)) ++ ((b.drop 36).take ((b.getD 7 0).toNat - 20)) := by
  have hlen := unitOf_len hl
  refine ext_get (by rw [hlen, List.length_append, List.length_take, List.length_take, List.length_drop, List.length_drop, hl]; omega) (fun i hi => ?_)
  rw [hlen] at hi
  have h20 : ((b.drop 8).take (min (b.getD 7 0).toNat 20)).length = min (b.getD 7 0).toNat 20 := by rw [List.length_take, List.length_drop, hl]; omega
  rw [unitOf_get hl, if_pos (by omega), app_get, h20, take_get, take_get, ← getD_of_drop, ← getD_of_drop]
  by_cases h : i < 20
  · rw [if_pos h, if_pos (by omega), if_pos (by omega)]
  · rw [if_neg h, if_pos (by omega), if_neg (by omega), if_pos (by omega)]
    congr 1; omega
end
/-- What opening tells, part by part. -/
theorem openB_shape {b : List Int} (h : b.length ≠ 256 ∨ b.getD 0 0 < 1 ∨ 8 < b.getD 0 0) : openB b = (noUnit, 4) := by unfold openB; rw [if_pos h]
theorem openB_sum {b : List Int} (h : ¬ (b.length ≠ 256 ∨ b.getD 0 0 < 1 ∨ 8 < b.getD 0 0)) (hf : ¬ fitsB b) : openB b = (noUnit, 5) := by unfold openB; rw [if_neg h, if_pos hf]
theorem openB_num {b : List Int} (h : ¬ (b.length ≠ 256 ∨ b.getD 0 0 < 1 ∨ 8 < b.getD 0 0)) (hf : fitsB b) (hn : 1099511627776 < unle ((b.drop 1).take 6)) : openB b = (noUnit, 4) := by
  unfold openB
  rw [if_neg h, if_neg (fun hn => hn hf), if_neg]
  rintro ⟨h1, _⟩
  have : unle ((b.drop 1).take 6) ≤ 1099511627776 := h1.2.1.2
  omega
theorem openB_lack {b : List Int} (h : ¬ (b.length ≠ 256 ∨ b.getD 0 0 < 1 ∨ 8 < b.getD 0 0)) (hf : fitsB b) (hn : ¬ lackOk b (b.getD 7 0).toNat) : openB b = (noUnit, 4) := by
  unfold openB
  rw [if_neg h, if_neg (fun hn => hn hf), if_neg]
  rintro ⟨_, h2⟩
  exact hn (lack_of (by omega) h2)
theorem openB_yes {b : List Int} (h : ¬ (b.length ≠ 256 ∨ b.getD 0 0 < 1 ∨ 8 < b.getD 0 0)) (hb : ∀ z ∈ b, 0 ≤ z ∧ z < 256) (hf : fitsB b) (h7 : 0 ≤ b.getD 7 0) (hn : unle ((b.drop 1).take 6) ≤ 1099511627776) (hk : lackOk b (b.getD 7 0).toNat) : openB b = (unitOf b, 0) := by
  have hl : b.length = 256 := by omega
  unfold openB
  rw [if_neg h, if_neg (fun hn => hn hf), if_pos]
  refine ⟨⟨?_, ⟨?_, hn⟩, ?_⟩, lack_seal hl hb h7 hf hk⟩
  · show 1 ≤ b.getD 0 0 ∧ b.getD 0 0 ≤ 8
    omega
  · exact (unle_bd _ (fun z hz => hb z (List.mem_of_mem_drop (List.mem_of_mem_take hz)))).1
  · rw [unitOf_len hl]; omega
end Go.Proofs.YtpdfmpegcejmkaaGreatDoor
namespace Go.Proofs.YtpdfmpegcejmkaaGreatDoor
open Go.RowKit
/-- A unit as a value; its body lies at A. -/
abbrev UnitV.val (u : UnitV) (A : Option Addr) (c : Nat) : Value := .agg #[.int .i64 u.kind, .int .i64 u.num, .slice A u.body.length c]
set_option maxRecDepth 100000 in
set_option maxHeartbeats 1000000 in
theorem uright_any (w : World) (u : UnitV) (A : Option Addr) (c : Nat) :
    Calls Tryz.prog 28 #[u.val A c] w fun r w' => r = .returned (.bool (decide u.right)) ∧ Below w.heap.size w w' := by
  obtain ⟨k, n, body⟩ := u
  have hn := below_new w (.cells #[.int .i64 k, .int .i64 n, .slice A body.length c] 34)
  unfold UnitV.val
  simp only
  go_enter Tryz.func28, Tryz.ntmps28
  go_wp2
  all_goals
    go_ret
    refine ⟨ret_bool ?_, hn⟩
    first | exact (decide_eq_false (by unfold UnitV.right; simp only; omega)).symm | (refine decide_eq_decide.2 ?_; unfold UnitV.right; simp only; omega)
theorem parted_any (w : World) (n : Nat) (hn : n ≤ 140737488351232) :
    Calls Tryz.prog 133 #[.int .i64 (n : Int)] w fun e w' => e = .returned (.tuple #[.int .i64 ((min n 20 : Nat) : Int), .int .i64 ((n - 20 : Nat) : Int)]) ∧ w = w' := by
  by_cases h : n ≤ 20
  · have h1 : min n 20 = n := by omega
    have h2 : n - 20 = 0 := by omega
    rw [h1, h2]
    go_enter Tryz.func133, Tryz.ntmps133
    go_wp2_with fail
    all_goals
      go_ret2
      refine ⟨?_, rfl⟩
      congr 3 <;> first | omega | rfl
  · have h1 : min n 20 = 20 := by omega
    have h2 : ((n - 20 : Nat) : Int) = (n : Int) - 20 := by omega
    rw [h1, h2]
    go_enter Tryz.func133, Tryz.ntmps133
    go_wp2_with fail
    all_goals
      go_ret2
      refine ⟨?_, rfl⟩
      congr 3 <;> first | omega | rfl
end Go.Proofs.YtpdfmpegcejmkaaGreatDoor
namespace Go.Proofs.YtpdfmpegcejmkaaGreatDoor
open Go.RowKit
section
variable {σ : SenU} {w : World}
theorem GlU.flaw_kd (h : GlU σ w) (pos : Int) : FlawOf σ 4 (flawV pos σ.kd) := .inr ⟨pos, _, rfl, .inr (.inl rfl), h.code_kd.symm⟩
theorem GlU.flaw_by (h : GlU σ w) (pos : Int) : FlawOf σ 4 (flawV pos σ.by_) := .inr ⟨pos, _, rfl, .inl rfl, h.code_by.symm⟩
theorem GlU.flaw_sm (h : GlU σ w) (pos : Int) : FlawOf σ 5 (flawV pos σ.sm) := .inr ⟨pos, _, rfl, .inr (.inr (.inl rfl)), h.code_sm.symm⟩
theorem GlU.flaw_nm (h : GlU σ w) (pos : Int) : FlawOf σ 4 (flawV pos σ.nm) := .inr ⟨pos, _, rfl, .inr (.inr (.inr (.inl rfl))), h.code_nm.symm⟩
theorem GlU.flaw_bd (h : GlU σ w) (pos : Int) : FlawOf σ 4 (flawV pos σ.bd) := .inr ⟨pos, _, rfl, .inr (.inr (.inr (.inr (.inl rfl)))), h.code_bd.symm⟩
theorem GlU.flaw_nt (h : GlU σ w) (pos : Int) : FlawOf σ 4 (flawV pos σ.nt) := .inr ⟨pos, _, rfl, .inr (.inr (.inr (.inr (.inr (.inl rfl))))), h.code_nt.symm⟩
theorem GlU.flaw_en (h : GlU σ w) (pos : Int) : FlawOf σ 4 (flawV pos σ.en) := .inr ⟨pos, _, rfl, .inr (.inr (.inr (.inr (.inr (.inr (.inl rfl)))))), h.code_en.symm⟩
theorem GlU.flaw_ot (h : GlU σ w) (pos : Int) : FlawOf σ 6 (flawV pos σ.ot) := .inr ⟨pos, _, rfl, .inr (.inr (.inr (.inr (.inr (.inr (.inr rfl)))))), h.code_ot.symm⟩
theorem FlawOf.none (σ : SenU) : FlawOf σ 0 .nilIface := .inl ⟨rfl, rfl⟩
end
/-- A block at first sight. -/
def badB (b : List Int) : Prop := b.length ≠ 256 ∨ b.getD 0 0 < 1 ∨ 8 < b.getD 0 0
instance (b : List Int) : Decidable (badB b) := by unfold badB; exact inferInstance
set_option maxRecDepth 100000 in
set_option maxHeartbeats 1000000 in
theorem shapeless_any (σ : SenU) (w : World) (hG : GlU σ w) (A : Option Addr) (b : List Int) (c : Nat) (hb : BytesAt w A b) :
    Calls Tryz.prog 164 #[.slice A b.length c] w fun e w' => ∃ v, e = .returned v ∧ FlawOf σ (if badB b then 4 else 0) v ∧ w = w' := by
  have HG := Lib.hid hG
  have g1 := hG.by_
  have g2 := hG.kd
  unfold errK at g1 g2
  by_cases hl : b.length = 256
  · obtain ⟨b0, off, rfl⟩ := hb.some_ (by intro e; rw [e] at hl; exact absurd hl (by decide))
    have c0 := hb.one 0 (by omega)
    rw [Nat.add_zero] at c0
    have hli : ((b.length : Int) != 256) = false := by rw [hl]; rfl
    have hzb : 0 ≤ b.getD 0 0 ∧ b.getD 0 0 < 256 := by
      rw [List.getD_eq_getElem?_getD, List.getElem?_eq_getElem (by omega)]
      exact hb.1 _ (List.getElem_mem _)
    by_cases hk : b.getD 0 0 < 1 ∨ 8 < b.getD 0 0
    · rw [if_pos (.inr hk)]
      have Hk := Lib.hid hk
      rw [hl] at hli ⊢
      clear hb hG hl
      generalize b.getD 0 0 = z at *
      have hw : wrap64 z = z := by unfold wrap64; omega
      clear hzb
      by_cases h1 : z < 1
      · clear hk Hk
        go_enter Tryz.func164, Tryz.ntmps164
        go_wp2_with fail
        go_ret
        exact ⟨_, rfl, HG.out.flaw_kd 0, rfl⟩
      · have h8 : 8 < z := by omega
        clear hk Hk
        go_enter Tryz.func164, Tryz.ntmps164
        go_wp2_with fail
        go_ret
        exact ⟨_, rfl, HG.out.flaw_kd 0, rfl⟩
    · rw [if_neg (by rintro (h | h); exact h hl; exact hk h)]
      rw [hl] at hli ⊢
      clear hb hG hl
      generalize b.getD 0 0 = z at *
      have h1 : ¬ z < 1 := by omega
      have h8 : ¬ 8 < z := by omega
      have hw : wrap64 z = z := by unfold wrap64; omega
      clear hk hzb
      go_enter Tryz.func164, Tryz.ntmps164
      go_wp2_with fail
      go_ret
      exact ⟨_, rfl, FlawOf.none σ, rfl⟩
  · rw [if_pos (.inl hl)]
    have hli : ((b.length : Int) != 256) = true := by simp; omega
    clear hb hG
    go_enter Tryz.func164, Tryz.ntmps164
    go_wp2_with fail
    all_goals
      go_ret
      exact ⟨_, rfl, HG.out.flaw_by _, rfl⟩
/-- Is a unit another one than was asked for? -/
def otherU (u : UnitV) (k num : Int) : Prop := u.kind ≠ k ∨ (0 ≤ num ∧ u.num ≠ num)
instance (u : UnitV) (k num : Int) : Decidable (otherU u k num) := by unfold otherU; exact inferInstance
set_option maxRecDepth 100000 in
set_option maxHeartbeats 1000000 in
theorem strange_any (σ : SenU) (w : World) (hG : GlU σ w) (u : UnitV) (A : Option Addr) (c : Nat) (k num : Int) :
    Calls Tryz.prog 144 #[u.val A c, .int .i64 k, .int .i64 num] w fun e w' => ∃ v, e = .returned v ∧ FlawOf σ (if otherU u k num then 6 else 0) v ∧ Below w.heap.size w w' := by
  have hbn := below_new w (.cells #[.int .i64 u.kind, .int .i64 u.num, .slice A u.body.length c] 34)
  have HG := Lib.hid hG
  have g1 := cell_below hG.ot hbn
  have Hb := Lib.hid hbn
  unfold errK at g1
  unfold UnitV.val
  by_cases hk : u.kind = k
  · have hk1 : (u.kind != k) = false := by rw [hk]; simp
    by_cases h0 : 0 ≤ num
    · by_cases hn : u.num = num
      · rw [if_neg (by rintro (h | h); exact h hk; exact h.2 hn)]
        have hn1 : (u.num != num) = false := by rw [hn]; simp
        clear hG hbn hk hn
        go_enter Tryz.func144, Tryz.ntmps144
        go_wp2_with fail
        go_ret
        exact ⟨_, rfl, FlawOf.none σ, Hb.out⟩
      · rw [if_pos (.inr ⟨h0, hn⟩)]
        have hn1 : (u.num != num) = true := by simpa using hn
        clear hG hbn hk hn
        go_enter Tryz.func144, Tryz.ntmps144
        go_wp2_with fail
        go_ret
        exact ⟨_, rfl, HG.out.flaw_ot 1, Hb.out⟩
    · rw [if_neg (by rintro (h | h); exact h hk; exact h0 h.1)]
      clear hG hbn hk
      go_enter Tryz.func144, Tryz.ntmps144
      go_wp2_with fail
      go_ret
      exact ⟨_, rfl, FlawOf.none σ, Hb.out⟩
  · rw [if_pos (.inl hk)]
    have hk1 : (u.kind != k) = true := by simpa using hk
    clear hG hbn hk
    go_enter Tryz.func144, Tryz.ntmps144
    go_wp2_with fail
    go_ret
    exact ⟨_, rfl, HG.out.flaw_ot 0, Hb.out⟩
/-- A cut in the middle. -/
theorem cut_mid (X : Option Addr) (n i j cap : Nat) (w : World) (h1 : i ≤ j) (h2 : j ≤ cap) : (Instr.slice 27 (.slice X n cap) (some (.int .i64 (i : Int))) (some (.int .i64 (j : Int))) none).run Tryz.prog w = .ok (.slice (cutAt X cap i) (j - i) (cap - i)) w := by
  have hs : (sizeOf (Tryz.prog.elem 27)).run Tryz.prog w = .ok 1 w := by kernel_rfl
  rw [run_slice_lh w 27 X n cap (by kernel_rfl) .i64 .i64 i j (by omega) (by omega) (by omega), hs]
  simp [Result.andThen, sliced, cutAt]
theorem cut_some {b0 off cap i : Nat} (h : i < cap) : cutAt (some ⟨b0, off, none⟩) cap i = some ⟨b0, off + i, none⟩ := by
  unfold cutAt
  rw [if_neg (by omega)]
  show some ((⟨b0, off, none⟩ : Addr).add i) = _
  congr 1
  unfold Addr.add; split <;> simp_all
set_option maxRecDepth 100000 in
set_option maxHeartbeats 2000000 in
theorem bare_any (σ : SenU) (w : World) (hG : GlU σ w) (q : Option Addr) (b0 off : Nat) (b : List Int) (c i j : Nat) (hb : BytesAt w (some ⟨b0, off, none⟩) b) (hl : b.length = 256) (hc : 256 ≤ c) (hm : c ≤ 9223372036854775807) (hij : i ≤ j) (hj : j < 256) :
    Calls Tryz.prog 179 #[.agg #[.pointer q, .slice (some ⟨b0, off, none⟩) 256 c], .int .i64 (i : Int), .int .i64 (j : Int)] w fun e w' => ∃ v k, e = .returned v ∧ FlawOf σ k v ∧ ((Noughts b i j ∧ k = 0) ∨ (¬ Noughts b i j ∧ k = 4)) ∧ Below w.heap.size w w' := by
  have hbn := below_new w (.cells #[.pointer q, .slice (some ⟨b0, off, none⟩) 256 c] 273)
  have hB := hb.below hbn
  have hG1 := hG.below hbn
  have g1 := hG1.nt
  unfold errK at g1
  have h1 := fun w' => cut_mid (some ⟨b0, off, none⟩) 256 i j c w' hij (by omega)
  rw [cut_some (show i < c by omega)] at h1
  have H0 := Lib.hid (And.intro hbn (And.intro hB hG1))
  have Hl := Lib.hid hl
  have Hji : ((j - i : Nat) : Int) = (j : Int) - (i : Int) := by omega
  clear hb hG hbn hB hG1 hl
  go_enter Tryz.func179, Tryz.ntmps179
  go_wp2_with fail
  generalize w.alloc (.cells #[.pointer q, .slice (some ⟨b0, off, none⟩) 256 c] 273) = w1 at *
  go_loopg [7, 8, 15] (j - i) (fun gk _ _ x wx => ∃ k : Nat, gk = j - i - k ∧ k ≤ j - i ∧ x = .int .i64 (k : Int) ∧ wx = w1 ∧ Hid (Noughts b i (i + k)))
  case atStart => exact ⟨0, rfl, Nat.zero_le _, rfl, rfl, Lib.hid (fun q h1 h2 => by omega)⟩
  case round =>
    obtain ⟨k, hgk, hk, rfl, rfl, hN⟩ := hrel
    have Hgk := Lib.hid hgk
    clear hgk
    by_cases hlt : (k : Int) < ((j - i : Nat) : Int)
    · have hltN : k < j - i := by omega
      have c1 := H0.out.2.1.one (i + k) (by rw [Hl.out]; omega)
      rw [← Nat.add_assoc] at c1
      have Hz := Lib.hid (show b.getD (i + k) 0 = b.getD (i + k) 0 from rfl)
      have hzb := (H0.out.2.1.1 : ∀ z ∈ b, 0 ≤ z ∧ z < 256)
      obtain ⟨z, hz⟩ : ∃ z, b.getD (i + k) 0 = z := ⟨_, rfl⟩
      rw [hz] at c1
      have HZ := Lib.hid hz
      clear hz Hz hzb
      by_cases h0 : z = 0
      · subst h0
        go_wp2_with fail
        go_roundg (j - i - (k + 1))
        case measure => rw [Hgk.out]; omega
        case rel =>
          refine ⟨k + 1, rfl, by omega, by go_num, rfl, Lib.hid (fun q h1 h2 => ?_)⟩
          by_cases e : q = i + k
          · rw [e]; exact HZ.out
          · exact hN.out q h1 (by omega)
      · have hz1 : (z != 0) = true := by simpa using h0
        have HZ0 := Lib.hid h0
        clear h0
        go_wp2_with fail
        go_ret
        exact ⟨_, 4, rfl, H0.out.2.2.flaw_nt _, .inr ⟨fun hh => HZ0.out (by rw [← HZ.out]; exact hh (i + k) (by omega) (by omega)), rfl⟩, H0.out.1⟩
    · obtain rfl : k = j - i := by omega
      go_wp2_with fail
      go_ret
      first
        | exact ⟨_, 0, rfl, FlawOf.none σ, .inl ⟨fun q h1 h2 => hN.out q h1 (by omega), rfl⟩, H0.out.1⟩
        | exact ⟨_, rfl, 0, FlawOf.none σ, .inl ⟨fun q h1 h2 => hN.out q h1 (by omega), rfl⟩, H0.out.1⟩
end Go.Proofs.YtpdfmpegcejmkaaGreatDoor
namespace Go.Proofs.YtpdfmpegcejmkaaGreatDoor
open Go.RowKit
theorem u32_toInt (x : BitVec 32) : BitVec.ofInt 32 (x.toNat : Int) = x := by
  rw [BitVec.ofInt_natCast, BitVec.ofNat_toNat]; simp
theorem u32_bd (x : BitVec 32) : (x.toNat : Int) < 4294967296 := by have := x.isLt; omega
theorem wrap_u32_id (x : BitVec 32) : IntKind.u32.wrap (x.toNat : Int) = x.toNat := by
  rw [IntKind.wrap_u32']; have := x.isLt; omega
theorem bits_xor (x y : Int) : bits .xor .u32 x y = ((BitVec.ofInt 32 x ^^^ BitVec.ofInt 32 y).toNat : Int) := wrap_u32_id _
theorem bits_and (x y : Int) : bits .and .u32 x y = ((BitVec.ofInt 32 x &&& BitVec.ofInt 32 y).toNat : Int) := wrap_u32_id _
theorem bits_or (x y : Int) : bits .or .u32 x y = ((BitVec.ofInt 32 x ||| BitVec.ofInt 32 y).toNat : Int) := wrap_u32_id _
theorem half (x : BitVec 32) : (x.toNat : Int) / (2 : Int) = ((x >>> 1).toNat : Int) := by
  rw [BitVec.toNat_ushiftRight, Nat.shiftRight_eq_div_pow]; rfl
theorem lsb_mod (x : BitVec 32) : x.getLsbD 0 = ((x.toNat : Int) % 2 == 1) := by
  rw [← BitVec.testBit_toNat, Nat.testBit_zero, Bool.eq_iff_iff]; simp; omega
theorem lsb_and (x : BitVec 32) : x.getLsbD 0 = (bits .and .u32 (x.toNat : Int) 1 == 1) := by
  rw [lsb_mod, bits_and, u32_toInt, BitVec.toNat_and, show (BitVec.ofInt 32 1).toNat = 1 by decide, Nat.and_one_is_mod]; rfl
theorem sh_one (x : BitVec 32) (h : x.getLsbD 0 = true) : bits .xor .u32 ((x.toNat : Int) / 2) 2197175160 = ((Mx.sh x).toNat : Int) := by
  rw [half, bits_xor, u32_toInt, Mx.sh, if_pos h, show BitVec.ofInt 32 2197175160 = 0x82F63B78#32 by decide]
theorem sh_none (x : BitVec 32) (h : x.getLsbD 0 = false) : (x.toNat : Int) / 2 = ((Mx.sh x).toNat : Int) := by
  rw [half, Mx.sh, h]; rfl

theorem shift_any (x : BitVec 32) (w : World) :
    Calls Tryz.prog 169 #[.int .u32 (x.toNat : Int)] w fun e w' => e = .returned (.int .u32 ((Mx.sh x).toNat : Int)) ∧ w = w' := by
  cases hb : x.getLsbD 0
  · have h := hb
    rw [lsb_and] at h
    have Hb := Lib.hid hb; clear hb
    go_enter Tryz.func169, Tryz.ntmps169
    go_wp2
    go_ret
    exact ⟨ret_int (sh_none x Hb.out), rfl⟩
  · have h := hb
    rw [lsb_and] at h
    have Hb := Lib.hid hb; clear hb
    go_enter Tryz.func169, Tryz.ntmps169
    go_wp2
    go_ret
    exact ⟨ret_int (sh_one x Hb.out), rfl⟩

theorem top_bit (x : BitVec 32) : x.msb = ((x.toNat : Int) / 2147483648 == 1) := by
  rw [BitVec.msb_eq_decide, Bool.eq_iff_iff]; have := x.isLt; simp; omega
theorem twice (x : BitVec 32) : (x.toNat : Int) * 2 % 4294967296 = ((x <<< 1).toNat : Int) := by
  rw [BitVec.toNat_shiftLeft, Nat.shiftLeft_eq]; omega
theorem ne_zero (x : BitVec 32) : ((x.toNat : Int) != 0) = !(x == 0#32) := by
  rw [Bool.eq_iff_iff]; simp [← BitVec.toNat_inj]
theorem times_step (n : Nat) (x y z : BitVec 32) (h : x.msb = true) : (z ^^^ y) ^^^ Mx.mulAux n (x <<< 1) (Mx.sh y) = z ^^^ Mx.mulAux (n + 1) x y := by
  show _ = z ^^^ ((if x.msb then y else 0#32) ^^^ Mx.mulAux n (x <<< 1) (Mx.sh y))
  rw [h, if_pos rfl, BitVec.xor_assoc]
theorem times_skip (n : Nat) (x y z : BitVec 32) (h : x.msb = false) : z ^^^ Mx.mulAux n (x <<< 1) (Mx.sh y) = z ^^^ Mx.mulAux (n + 1) x y := by
  show _ = z ^^^ ((if x.msb then y else 0#32) ^^^ Mx.mulAux n (x <<< 1) (Mx.sh y))
  rw [h]; simp
theorem top_of_true (x : BitVec 32) (h : ((x.toNat : Int) / 2147483648 == 1) = true) : x.msb = true := by rw [top_bit]; exact h
theorem top_of_false (x : BitVec 32) (h : ((x.toNat : Int) / 2147483648 == 1) = false) : x.msb = false := by rw [top_bit]; exact h
theorem xor_val (x y : BitVec 32) : bits .xor .u32 (x.toNat : Int) (y.toNat : Int) = ((x ^^^ y).toNat : Int) := by rw [bits_xor, u32_toInt, u32_toInt]
theorem shl_gone (p : BitVec 32) : p <<< 32 = 0#32 := by
  apply BitVec.eq_of_getLsbD_eq; intro i hi; simp [hi]
theorem shl_next (p : BitVec 32) (k : Nat) : (p <<< k) <<< 1 = p <<< (k + 1) := by rw [← BitVec.shiftLeft_add]
end Go.Proofs.YtpdfmpegcejmkaaGreatDoor
