/- Rot, Wipe of a disk: just what the page tells. -/
import Derived.Test.YtgjdoiblgbdebaaDoorDevSpoilW
import Derived.Test.YtgjdoiblgbdebaaDoorDevCalls
namespace Go.Proofs.YtgjdoiblgbdebaaDoor
open Go.RowKit
section
variable {w : World} {T : Nat → Prop} {dk : Nat} {D : DM} (σ : SenD)
set_option maxRecDepth 100000 in
theorem flip_out (B : Nat) (bit : Int) (h : bit < 0 ∨ 2048 ≤ bit) (mask : Int) :
    Calls Tryd.prog 61 #[.pointer (some ⟨B, 0, none⟩), .int .i64 bit, .int .u32 mask] w fun e w' => e = .returned (.tuple #[]) ∧ w = w' := by
  rcases h with h | h
  · go_enter Tryd.func61, Tryd.ntmps61
    go_wp2_with fail
    refine bodyPost_ret (results_none rfl _ _ _) rfl ⟨rfl, rfl⟩
  · have h1 : ¬ bit < 0 := by omega
    go_enter Tryd.func61, Tryd.ntmps61
    go_wp2_with fail
    refine bodyPost_ret (results_none rfl _ _ _) rfl ⟨rfl, rfl⟩
/-- What a rot makes of a block's bytes. -/
def rotB (bs : List Int) (bit : Int) (mask : Nat) : List Int := if 0 ≤ bit ∧ bit < 2048 then flipK bs bit.toNat mask (min 32 (2048 - bit.toNat)) else bs
theorem rotB_ok {bs : List Int} (h : BlkOk bs) (bit : Int) (mask : Nat) : BlkOk (rotB bs bit mask) := by
  unfold rotB
  split
  · exact flipK_ok h _ _ _
  · exact h
set_option maxRecDepth 100000 in
theorem rot1_any (B : Nat) (bs : List Int) (hb : BlkOk bs) (hB : BlockIs w B 84 (u8s bs).toArray) (bit : Int) (mask : Nat) (hm : mask < 4294967296) (pb pm : Nat) (cb : w.cell? ⟨pb, 0, none⟩ = some (.int .i64 bit)) (cm : w.cell? ⟨pm, 0, none⟩ = some (.int .u32 (mask : Int))) :
    Calls Tryd.prog 60 #[.pointer (some ⟨B, 0, none⟩), .pointer (some ⟨pb, 0, none⟩), .pointer (some ⟨pm, 0, none⟩)] w fun e w' => e = .returned (.tuple #[]) ∧ BlockIs w' B 84 (u8s (rotB bs bit mask)).toArray ∧ w.grownBy w' (some B) := by
  by_cases h : 0 ≤ bit ∧ bit < 2048
  · obtain ⟨n, rfl⟩ := Int.eq_ofNat_of_zero_le h.1
    have HF := Lib.hid (flip_any B bs hb hB n (by omega) mask hm)
    have HE : Hid (rotB bs (n : Int) mask = flipK bs n mask (min 32 (2048 - n))) := Lib.hid (by unfold rotB; rw [if_pos h]; rfl)
    clear hB h
    go_enter Tryd.func60, Tryd.ntmps60
    go_wp2_with fail
    refine HF.out.mono ?_
    rintro e w' ⟨rfl, h1, h2, h3⟩
    have H1 := Lib.hid (And.intro h1 h2)
    clear h1 h2 h3
    go_wp2_with fail
    go_end0
    rw [HE.out]
    exact ⟨rfl, H1.out⟩
  · have HF := Lib.hid (flip_out (w := w) B bit (by omega) (mask : Int))
    have HE : Hid (rotB bs bit mask = bs) := Lib.hid (by unfold rotB; rw [if_neg h])
    have HB := Lib.hid hB
    clear hB h
    go_enter Tryd.func60, Tryd.ntmps60
    go_wp2_with fail
    refine HF.out.mono ?_
    rintro e w' ⟨rfl, rfl⟩
    go_wp2_with fail
    go_end0
    rw [HE.out]
    exact ⟨rfl, HB.out, World.grownBy.refl _ _⟩
set_option maxRecDepth 100000 in
theorem wipe1_any (B : Nat) (bs : List Int) (hb : BlkOk bs) (hB : BlockIs w B 84 (u8s bs).toArray) :
    Calls Tryd.prog 62 #[.pointer (some ⟨B, 0, none⟩)] w fun e w' => e = .returned (.tuple #[]) ∧ BlockIs w' B 84 (u8s zero256).toArray ∧ w.grownBy w' (some B) := by
  have hz := zeroBlock
  have hzs := zeroB_size
  have hst : (storeCells ⟨B, 0, none⟩ zeroB.toList 0).run Tryd.prog w = .ok () (w.setRow B (u8s zero256).toArray) := store_all hB (u8s zero256) (by rw [List.size_toArray, u8s_len, u8s_len, zero256_len, hb.1]) (u8s_one _)
  have HB := Lib.hid (setRow_heap w B _ (u8s zero256).toArray 84 (0, 0) hB)
  clear hB
  go_enter Tryd.func62, Tryd.ntmps62
  go_wp2_with fail
  go_end0
  exact ⟨rfl, HB.out, rfl, rfl, rfl, Nat.le_of_eq (setRow_size _ _ _).symm, fun k _ hk => setRow_other w B k _ (fun e => hk (by rw [e]))⟩
/-- What spoiling a block answers is what the page says. -/
theorem spoil_link {hu tu cr : Nat} {M : List MCell} {ws : List (Nat × List Int)} {left : Int} {dn : Bool} (L : DevL D hu tu cr M ws left dn) {n : Nat} (hn : n < M.length) (bs : List Int) :
    (spoilE (M.getD n default) bs).code = (D.hurt n bs).1 ∧ DevL (D.hurt n bs).2 (spoilHu (M.getD n default) bs hu) tu cr (spoilM M n bs) ws left dn := by
  obtain ⟨h1, h2⟩ := L.mm n _ (List.getElem?_eq_getElem hn)
  have hs : D.stored n = (M.getD n default).bs := by rw [getD_at hn]; unfold DM.stored; rw [List.getD_eq_getElem?_getD, h1]; rfl
  have hh : (D.cells.getD n ([], false)).2 = (M.getD n default).hurt := by rw [getD_at hn, List.getD_eq_getElem?_getD, h1]; rfl
  unfold DM.hurt spoilE spoilHu spoilM
  rw [hs, hh]
  by_cases he : bs = (M.getD n default).bs
  · rw [if_pos he, if_pos he, if_pos he, if_pos he]; exact ⟨rfl, L⟩
  · rw [if_neg he, if_neg he, if_neg he, if_neg he]
    cases hq : (M.getD n default).hurt with
    | true => exact ⟨rfl, L⟩
    | false =>
      refine ⟨rfl, ?_⟩
      have hc : ({ D with cells := D.cells.set n (bs, true) } : DM).cells = (M.set n { M.getD n default with bs := bs, hurt := true }).map MCell.cell := by
        rw [List.map_set, ← L.cells]; rfl
      have := DevL.mk' (D := { D with cells := D.cells.set n (bs, true) }) (left := left) hc (fun j m hm => by
        rw [List.getElem?_set] at hm
        split at hm
        · next e =>
          injection hm with hm; rw [← hm, ← e, getD_at hn]; exact h2
        · exact (L.mm j m hm).2) L.armed L.lo (by rw [List.length_set]; exact L.some_)
      rw [mHurts_set hn, hq] at this
      have e1 : mHurts M = hu := by rw [L.hu, L.cells, hurts_cells]
      rw [e1] at this
      simp only [Bool.false_eq_true, if_false, Nat.sub_zero, if_true] at this
      rw [L.tu, L.cr, L.ws, L.dn]
      exact this
set_option maxRecDepth 100000 in
theorem spoil_none (hG : GlD σ w) (v c : Value) (n : Int) (c3 : ∃ h, v = .pointer (some ⟨h, 0, none⟩) ∧ w.cell? ⟨h, 3, none⟩ = some (.pointer (some ⟨h, 0, none⟩))) (hh : Calls Tryd.prog 53 #[v, .int .i64 n] w fun e w' => e = .returned (.bool false) ∧ w = w') :
    Calls Tryd.prog 59 #[v, .int .i64 n, c] w fun e w' => e = .returned (DErr.bk.val σ) ∧ w = w' := by
  obtain ⟨h, rfl, c3⟩ := c3
  have HH := Lib.hid hh
  have g1 := hG.bk
  unfold errK at g1
  clear hh hG
  go_enter Tryd.func59, Tryd.ntmps59
  go_wp2_with fail
  refine (told_any _ h c3).mono ?_
  rintro e w' ⟨rfl, rfl⟩
  go_wp2_with fail
  refine HH.out.mono ?_
  rintro e w' ⟨rfl, rfl⟩
  go_wp2_with fail
  go_ret
  exact ⟨rfl, rfl⟩
theorem hurts_small {hu tu cr : Nat} {M : List MCell} {ws : List (Nat × List Int)} {left : Int} {dn : Bool} (L : DevL D hu tu cr M ws left dn) (hM : M.length ≤ 4096) : hu ≤ 4096 := by
  rw [L.hu, L.cells, hurts_cells]; exact Nat.le_trans (mHurts_le M) hM
set_option maxRecDepth 100000 in
set_option maxHeartbeats 1000000 in
theorem wipe_any (k : DevAt w T dk D) (hG : GlD σ w) (hS : GlS σ w) (hT : ∀ b, σ.blk b → ¬ T b) (hTS : ∀ b, σ.blkS b → ¬ T b) (n : Int) :
    Calls Tryd.prog 28 #[.pointer (some ⟨dk, 0, none⟩), .int .i64 n] w fun e w' => e = .returned (.int .i64 (D.wipe n).1) ∧ Dev w T dk (D.wipe n).2 w' := by
  obtain ⟨C, wv, hu, tu, cr, M, ws, left, dn, R, L⟩ := k
  by_cases hn : D.has n
  · have hw0 : D.wipe n = D.hurt n.toNat zero256 := by unfold DM.wipe; rw [if_pos hn]; rfl
    unfold DM.has at hn
    obtain ⟨m, rfl⟩ := Int.eq_ofNat_of_zero_le hn.1
    have hm : m < M.length := by have := L.len; omega
    rw [Int.toNat_natCast] at hw0
    have hl := spoil_link L hm zero256
    have hB0 := BlockIs.made w 84 (u8s (M.getD m default).bs).toArray
    have hbm : BlkOk (M.getD m default).bs := by rw [getD_at hm]; exact R.mb _ (List.getElem_mem hm)
    have HS := Lib.hid (spoil_wipe σ hG hS hT hTS R (hurts_small L R.many) m hm zero256 nought_ok #[] rfl (wipe1_any w.heap.size _ hbm hB0))
    have HL := Lib.hid hl
    have Hw := Lib.hid hw0
    have HG := Lib.hid (And.intro hG (And.intro hS (And.intro hT hTS)))
    have Hf := Lib.hid R.foot
    clear R L hn hl hB0 hbm hw0 hG hS hT hTS
    go_enter Tryd.func28, Tryd.ntmps28
    go_wp2_with fail
    refine HS.out.mono ?_
    rintro e w4 ⟨he, hd4, hc4⟩
    have H4 := Lib.hid (And.intro hd4 hc4)
    have hG4 := HG.out.1.keep (fun b hb => hc4.block b (HG.out.1.lt hb) (HG.out.2.2.1 b hb))
    have hS4 := HG.out.2.1.keep (fun b hb => hc4.block b (HG.out.2.1.lt hb) (HG.out.2.2.2 b hb))
    have HE := Lib.hid (errno_any σ w4 hG4 (spoilE (M.getD m default) zero256) (fun _ => hS4))
    obtain ⟨v, hv⟩ : ∃ v, (spoilE (M.getD m default) zero256).val σ = v := ⟨_, rfl⟩
    obtain ⟨c, hc⟩ : ∃ c, (spoilE (M.getD m default) zero256).code = c := ⟨_, rfl⟩
    rw [hv] at he HE
    rw [hc] at HE HL
    subst he
    clear hd4 hc4 hG4 hS4 hv hc
    go_wp2_with fail
    refine HE.out.mono ?_
    rintro e w5 ⟨rfl, hb5⟩
    have HB5 := Lib.hid hb5
    clear hb5
    go_wp2_with fail
    go_ret
    rw [Hw.out]
    exact ⟨by rw [← HL.out.1]; rfl, (Dev.of H4.out.1 HL.out.2 H4.out.2).on HB5.out Hf.out⟩
  · have hw0 : D.wipe n = (2, D) := by unfold DM.wipe; rw [if_neg hn]
    have hB : hasB M n = false := by rw [L.hasB]; exact decide_eq_false hn
    have hh := has_any R n
    rw [hB] at hh
    have HS := Lib.hid (spoil_none σ hG (.pointer (some ⟨dk, 0, none⟩)) (.func (.func 62) #[] #[]) n ⟨dk, rfl, R.cell8.2.2.2.1⟩ hh)
    have HE := Lib.hid (errno_any σ _ hG .bk (fun e => by cases e))
    have HR := Lib.hid (And.intro (Dev.of (R.mono (fun _ hj => .inl hj) (grow_lt R.foot (Nat.le_refl _))) L (Chg.refl _ _)) R.foot)
    have Hw := Lib.hid hw0
    clear R L hn hh hw0 hG hS hT hTS
    unfold DErr.val errK at *
    go_enter Tryd.func28, Tryd.ntmps28
    go_wp2_with fail
    refine HS.out.mono ?_
    rintro e w4 ⟨rfl, rfl⟩
    go_wp2_with fail
    refine HE.out.mono ?_
    rintro e w5 ⟨rfl, hb5⟩
    have HB5 := Lib.hid hb5
    clear hb5
    go_wp2_with fail
    go_ret
    rw [Hw.out]
    exact ⟨rfl, HR.out.1.on HB5.out HR.out.2⟩
theorem boxes2 (w : World) (x y : Value) (tx ty : TypeId) : ((w.alloc (.cells #[x] tx)).alloc (.cells #[y] ty)).cell? ⟨w.heap.size, 0, none⟩ = some x ∧ ((w.alloc (.cells #[x] tx)).alloc (.cells #[y] ty)).cell? ⟨w.heap.size + 1, 0, none⟩ = some y := by
  have h1 := BlockIs.made w tx #[x]
  have h2 := BlockIs.made (w.alloc (.cells #[x] tx)) ty #[y]
  have k1 := h1.below (below_new (w.alloc (.cells #[x] tx)) (.cells #[y] ty)) h1.lt
  rw [size1] at h2
  exact ⟨k1.cell 0, h2.cell 0⟩
set_option maxRecDepth 100000 in
set_option maxHeartbeats 1000000 in
theorem rot_any (k : DevAt w T dk D) (hG : GlD σ w) (hS : GlS σ w) (hT : ∀ b, σ.blk b → ¬ T b) (hTS : ∀ b, σ.blkS b → ¬ T b) (n bit : Int) (mask : Nat) (hmask : mask < 4294967296) :
    Calls Tryd.prog 27 #[.pointer (some ⟨dk, 0, none⟩), .int .i64 n, .int .i64 bit, .int .u32 (mask : Int)] w fun e w' => e = .returned (.int .i64 (D.rot n bit mask).1) ∧ Dev w T dk (D.rot n bit mask).2 w' := by
  obtain ⟨C, wv, hu, tu, cr, M, ws, left, dn, R, L⟩ := k
  have hb1 := below_new w (.cells #[.int .i64 bit] 3)
  have hb2 := hb1.alloc hb1.size (.cells #[.int .u32 (mask : Int)] 34)
  obtain ⟨b1, b2⟩ := boxes2 w (.int .i64 bit) (.int .u32 (mask : Int)) 3 34
  have R2 := R.below hb2
  have hG2 := hG.below hb2
  have hS2 := hS.below hb2
  have Hb2 := Lib.hid hb2
  have HB1 := Lib.hid (And.intro b1 b2)
  clear b1 b2 hb1 hb2
  by_cases hn : D.has n
  · have hw1 : D.rot n bit mask = D.hurt n.toNat (rotB (D.stored n.toNat) bit mask) := by
      unfold DM.rot rotB
      by_cases hbit : 0 ≤ bit ∧ bit < 2048
      · rw [if_pos ⟨hn, hbit⟩, if_pos hbit]
      · rw [if_neg (fun e => hbit e.2), if_neg hbit]; unfold DM.hurt; rw [if_pos rfl]
    unfold DM.has at hn
    obtain ⟨m, rfl⟩ := Int.eq_ofNat_of_zero_le hn.1
    have hm : m < M.length := by have := L.len; omega
    rw [Int.toNat_natCast] at hw1
    have hst : D.stored m = (M.getD m default).bs := by
      rw [getD_at hm]; unfold DM.stored; rw [List.getD_eq_getElem?_getD, (L.mm m _ (List.getElem?_eq_getElem hm)).1]; rfl
    have hw0 := hw1
    rw [hst] at hw0
    have hbm : BlkOk (M.getD m default).bs := by rw [getD_at hm]; exact R.mb _ (List.getElem_mem hm)
    have hbr := rotB_ok hbm bit mask
    have hl := spoil_link L hm (rotB (M.getD m default).bs bit mask)
    have hB0 := BlockIs.made ((w.alloc (.cells #[.int .i64 bit] 3)).alloc (.cells #[.int .u32 (mask : Int)] 34)) 84 (u8s (M.getD m default).bs).toArray
    have hn3 := below_new ((w.alloc (.cells #[.int .i64 bit] 3)).alloc (.cells #[.int .u32 (mask : Int)] 34)) (.cells (u8s (M.getD m default).bs).toArray 84)
    have HS := Lib.hid (spoil_rot σ hG2 hS2 hT hTS R2 (hurts_small L R.many) m hm (rotB (M.getD m default).bs bit mask) hbr #[.pointer (some ⟨w.heap.size, 0, none⟩), .pointer (some ⟨w.heap.size + 1, 0, none⟩)] _ _ rfl
      (rot1_any _ _ hbm hB0 bit mask hmask w.heap.size (w.heap.size + 1) (cell_below HB1.out.1 hn3) (cell_below HB1.out.2 hn3)))
    obtain ⟨br, hbre⟩ : ∃ br, rotB (M.getD m default).bs bit mask = br := ⟨_, rfl⟩
    rw [hbre] at HS hl hw0
    have H2 := Lib.hid (And.intro hG2 hS2)
    clear hn3 hbr hst hw1 hG2 hS2 R2 hbre HB1
    have HL := Lib.hid hl
    have Hw := Lib.hid hw0
    have HG := Lib.hid (And.intro hG (And.intro hS (And.intro hT hTS)))
    have Hf := Lib.hid R.foot
    clear R L hn hl hB0 hbm hw0 hG hS hT hTS
    go_enter Tryd.func27, Tryd.ntmps27
    go_wp2_with fail
    generalize ((w.alloc (.cells #[.int .i64 bit] 3)).alloc (.cells #[.int .u32 (mask : Int)] 34)) = w2 at *
    refine HS.out.mono ?_
    rintro e w4 ⟨he, hd4, hc4⟩
    have H4 := Lib.hid (And.intro hd4 hc4)
    have hG4 := H2.out.1.keep (fun b hb => hc4.block b (H2.out.1.lt hb) (HG.out.2.2.1 b hb))
    have hS4 := H2.out.2.keep (fun b hb => hc4.block b (H2.out.2.lt hb) (HG.out.2.2.2 b hb))
    have HE := Lib.hid (errno_any σ w4 hG4 (spoilE (M.getD m default) br) (fun _ => hS4))
    obtain ⟨v, hv⟩ : ∃ v, (spoilE (M.getD m default) br).val σ = v := ⟨_, rfl⟩
    obtain ⟨c, hc⟩ : ∃ c, (spoilE (M.getD m default) br).code = c := ⟨_, rfl⟩
    rw [hv] at he HE
    rw [hc] at HE HL
    subst he
    clear hd4 hc4 hG4 hS4 hv hc
    go_wp2_with fail
    refine HE.out.mono ?_
    rintro e w5 ⟨rfl, hb5⟩
    have HB5 := Lib.hid hb5
    clear hb5
    go_wp2_with fail
    go_ret
    rw [Hw.out]
    exact ⟨by rw [← HL.out.1]; rfl, (Dev.after Hb2.out (Dev.of H4.out.1 HL.out.2 H4.out.2) Hf.out).on HB5.out Hf.out⟩
  · have hw0 : D.rot n bit mask = (2, D) := by unfold DM.rot; rw [if_neg (fun e => hn e.1)]
    have hB : hasB M n = false := by rw [L.hasB]; exact decide_eq_false hn
    have hh := has_any R2 n
    rw [hB] at hh
    have HS := Lib.hid (spoil_none σ hG2 (.pointer (some ⟨dk, 0, none⟩)) (.func (.func 60) #[] #[.pointer (some ⟨w.heap.size, 0, none⟩), .pointer (some ⟨w.heap.size + 1, 0, none⟩)]) n ⟨dk, rfl, R2.cell8.2.2.2.1⟩ hh)
    have HE := Lib.hid (errno_any σ _ hG2 .bk (fun e => by cases e))
    have HR := Lib.hid (And.intro (Dev.below ⟨C, wv, hu, tu, cr, M, ws, left, dn, R, L⟩ Hb2.out) R.foot)
    have Hw := Lib.hid hw0
    clear R L hn hh hw0 hG hS hT hTS R2 hG2 hS2
    unfold DErr.val errK at *
    go_enter Tryd.func27, Tryd.ntmps27
    go_wp2_with fail
    refine HS.out.mono ?_
    rintro e w4 ⟨rfl, rfl⟩
    go_wp2_with fail
    refine HE.out.mono ?_
    rintro e w5 ⟨rfl, hb5⟩
    have HB5 := Lib.hid hb5
    clear hb5
    go_wp2_with fail
    go_ret
    rw [Hw.out]
    exact ⟨rfl, HR.out.1.on HB5.out HR.out.2⟩
end
end Go.Proofs.YtgjdoiblgbdebaaDoor
