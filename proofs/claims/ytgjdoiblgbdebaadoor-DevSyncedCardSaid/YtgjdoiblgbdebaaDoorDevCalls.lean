/- Write, Sync, Arm, Crash, Wake of a disk: just what the page tells. -/
import Derived.Test.YtgjdoiblgbdebaaDoorDevLink
namespace Go.Proofs.YtgjdoiblgbdebaaDoor
open Go.RowKit
theorem size1 (w : World) (o : Obj) : (w.alloc o).heap.size = w.heap.size + 1 := by simp
/-- Three variables, laid one behind the other. -/
theorem boxes3 (w : World) (x y z : Value) (tx ty tz : TypeId) : (((w.alloc (.cells #[x] tx)).alloc (.cells #[y] ty)).alloc (.cells #[z] tz)).cell? ⟨w.heap.size, 0, none⟩ = some x ∧ (((w.alloc (.cells #[x] tx)).alloc (.cells #[y] ty)).alloc (.cells #[z] tz)).cell? ⟨w.heap.size + 1, 0, none⟩ = some y ∧
    (((w.alloc (.cells #[x] tx)).alloc (.cells #[y] ty)).alloc (.cells #[z] tz)).cell? ⟨w.heap.size + 2, 0, none⟩ = some z := by
  have h1 := BlockIs.made w tx #[x]
  have h2 := BlockIs.made (w.alloc (.cells #[x] tx)) ty #[y]
  have h3 := BlockIs.made ((w.alloc (.cells #[x] tx)).alloc (.cells #[y] ty)) tz #[z]
  have n2 := below_new (w.alloc (.cells #[x] tx)) (.cells #[y] ty)
  have n3 := below_new ((w.alloc (.cells #[x] tx)).alloc (.cells #[y] ty)) (.cells #[z] tz)
  have k1 := (h1.below n2 h1.lt).below n3 (h1.below n2 h1.lt).lt
  have k2 := h2.below n3 h2.lt
  rw [size1] at h2 k2
  rw [size1, size1] at h3
  exact ⟨k1.cell 0, k2.cell 0, h3.cell 0⟩
section
variable {w : World} {T : Nat → Prop} {dk : Nat} {D : DM} (σ : SenD)
theorem Dev.of {w' : World} {D' : DM} {C : Nat} {wv : Value} {hu tu cr : Nat} {M : List MCell} {ws : List (Nat × List Int)} {left : Int} {dn : Bool} (R : DevR w' (grow T w w') dk C wv hu tu cr M ws left dn) (L : DevL D' hu tu cr M ws left dn) (hc : Chg T w w') : Dev w T dk D' w' := ⟨⟨C, wv, hu, tu, cr, M, ws, left, dn, R, L⟩, hc⟩
/-- What is refused. -/
def DM.refuses (D : DM) (n : Int) (l : Nat) : DErr := if D.down then .dn else if D.has n then (if 256 < l then .lo else .ok) else .bk
theorem takesE_eq {hu tu cr : Nat} {M : List MCell} {ws : List (Nat × List Int)} {left : Int} {dn : Bool} (L : DevL D hu tu cr M ws left dn) (n : Int) (l : Nat) : takesE dn M n l = D.refuses n l := by
  unfold takesE DM.refuses
  rw [L.hasB, L.dn]
  by_cases h : D.has n <;> simp [h]
set_option maxRecDepth 100000 in
set_option maxHeartbeats 1000000 in
theorem write_any (k : DevAt w T dk D) (hF : D.Few 1000000) (hG : GlD σ w) (hT : ∀ b, σ.blk b → ¬ T b) (n : Int) (A : Option Addr) (bs : List Int) (c : Nat) (hb : BytesAt w A bs) (hA : bs ≠ [] → ∀ a, A = some a → ¬ T a.block) (hl : bs.length ≤ 140737488351232) :
    Calls Tryd.prog 16 #[.pointer (some ⟨dk, 0, none⟩), .int .i64 n, .slice A bs.length c] w fun e w' => e = .returned (.int .i64 (D.write n bs).1) ∧ Dev w T dk (D.write n bs).2 w' := by
  obtain ⟨C, wv, hu, tu, cr, M, ws, left, dn, R, L⟩ := k
  have hb1 := below_new w (.cells #[.pointer (some ⟨dk, 0, none⟩)] 25)
  have hb2 := hb1.alloc hb1.size (.cells #[.int .i64 n] 3)
  have hb3 := hb2.alloc hb2.size (.cells #[.slice A bs.length c] 33)
  obtain ⟨b1, b2, b3⟩ := boxes3 w (.pointer (some ⟨dk, 0, none⟩)) (.int .i64 n) (.slice A bs.length c) 25 3 33
  have hs3 : (((w.alloc (.cells #[.pointer (some ⟨dk, 0, none⟩)] 25)).alloc (.cells #[.int .i64 n] 3)).alloc (.cells #[.slice A bs.length c] 33)).heap.size = w.heap.size + 3 := by simp
  have HT := Lib.hid (takes_any σ (hG.below hb3) (R.below hb3) n A bs.length c hl)
  rw [takesE_eq L] at HT
  have H3 := Lib.hid (And.intro (R.below hb3) (And.intro hb3 (And.intro (hG.below hb3) hs3)))
  have HL := Lib.hid L
  have Hf := Lib.hid R.foot
  have HB := Lib.hid (hb.below hb3)
  clear hb1 hb2 hb3 hs3
  have HX := Lib.hid (fun (w' : World) (hc : Chg T w w') => hG.keep (w' := w') (fun b hb => hc.block b (hG.lt hb) (hT b hb)))
  have HX2 := Lib.hid hT
  have HF := Lib.hid hF
  have HA := Lib.hid hA
  clear L R hG hT hb hF hA
  go_enter Tryd.func16, Tryd.ntmps16
  go_wp2_with fail
  generalize (((w.alloc (.cells #[.pointer (some ⟨dk, 0, none⟩)] 25)).alloc (.cells #[.int .i64 n] 3)).alloc (.cells #[.slice A bs.length c] 33)) = w3 at *
  have HT' : ∀ x : DErr, D.refuses n bs.length = x → x ≠ .ok → Hid (Calls Tryd.prog 44 #[x.val σ] w3 fun e w' => e = .returned (.int .i64 x.code) ∧ Below w3.heap.size w3 w') := fun x hx _ => Lib.hid (errno_any σ w3 H3.out.2.2.1 x (fun e => by
    rw [← hx] at e
    unfold DM.refuses at e
    split at e
    · cases e
    · split at e
      · split at e <;> cases e
      · cases e))
  cases hd : D.down with
  | true =>
    have hr : D.refuses n bs.length = .dn := by unfold DM.refuses; rw [if_pos hd]
    have Hw : Hid (D.write n bs = (11, D)) := Lib.hid (by unfold DM.write; rw [if_pos hd])
    have HE := HT' .dn hr (by intro e; cases e)
    rw [hr] at HT
    clear hr HT'
    refine HT.out.mono ?_
    rintro e w' ⟨rfl, rfl⟩
    unfold DErr.val errK at *
    go_wp2_with fail
    refine HE.out.mono ?_
    rintro e w4 ⟨rfl, hb4⟩
    have HB4 := Lib.hid hb4
    clear hb4
    go_wp2_with fail
    go_ret
    rw [Hw.out]
    exact ⟨rfl, (Dev.of ((H3.out.1.below HB4.out).mono (fun _ hj => .inl hj) (grow_lt Hf.out (Nat.le_trans H3.out.2.1.size HB4.out.size))) HL.out (Chg.of_below (H3.out.2.1.trans (HB4.out.mono H3.out.2.1.size))))⟩
  | false =>
    by_cases hn : D.has n
    · by_cases h256 : 256 < bs.length
      · have hr : D.refuses n bs.length = .lo := by unfold DM.refuses; rw [if_neg (by rw [hd]; decide), if_pos hn, if_pos h256]
        have Hw : Hid (D.write n bs = (2, D)) := Lib.hid (by unfold DM.write; rw [if_neg (by rw [hd]; decide), if_pos (.inr h256)])
        have HE := HT' .lo hr (by intro e; cases e)
        rw [hr] at HT
        clear hr HT'
        refine HT.out.mono ?_
        rintro e w' ⟨rfl, rfl⟩
        unfold DErr.val errK at *
        go_wp2_with fail
        refine HE.out.mono ?_
        rintro e w4 ⟨rfl, hb4⟩
        have HB4 := Lib.hid hb4
        clear hb4
        go_wp2_with fail
        go_ret
        rw [Hw.out]
        exact ⟨rfl, (Dev.of ((H3.out.1.below HB4.out).mono (fun _ hj => .inl hj) (grow_lt Hf.out (Nat.le_trans H3.out.2.1.size HB4.out.size))) HL.out (Chg.of_below (H3.out.2.1.trans (HB4.out.mono H3.out.2.1.size))))⟩
      · have hr : D.refuses n bs.length = .ok := by unfold DM.refuses; rw [if_neg (by rw [hd]; decide), if_pos hn, if_neg h256]
        have hw0 : D.write n bs = if D.armed = 1 then (11, D.trips) else (0, { D.turned with waits := D.waits ++ [(n.toNat, padB bs)] }) := by unfold DM.write; rw [if_neg (by rw [hd]; decide), if_neg (fun e => e.elim (fun h => h hn) h256)]
        have hlen := HL.out.len
        have hdn := HL.out.dn
        have hn0 := hn
        unfold DM.has at hn0
        obtain ⟨m, rfl⟩ := Int.eq_ofNat_of_zero_le hn0.1
        have hm : m < M.length := by omega
        have hle : left = D.armed := HL.out.armed hd
        rw [hr] at HT
        clear HT' hr hn hn0 hlen
        have Hd := Lib.hid (And.intro hd hdn)
        clear hd hdn
        have Hsz : Hid (∀ j, w.heap.size ≤ j → ¬ T j) := Lib.hid (fun j hj hT => by have := Hf.out j hT; omega)
        refine HT.out.mono ?_
        rintro e w' ⟨rfl, rfl⟩
        unfold DErr.val
        by_cases ha : D.armed = 1
        · rw [if_pos ha] at hw0
          have Hw := Lib.hid hw0
          have hl1 : left = 1 := by omega
          have h3 := H3.out.1
          rw [hl1] at h3
          have HTn := Lib.hid (turn_trips σ H3.out.2.2.1 HX2.out h3 (by rw [HL.out.tu]; exact Nat.le_trans HF.out.tu (by decide)) (by rw [HL.out.cr]; exact Nat.le_trans HF.out.cr (by decide)) (.func (.func 46) #[] #[.pointer (some ⟨w.heap.size, 0, none⟩), .pointer (some ⟨w.heap.size + 1, 0, none⟩), .pointer (some ⟨w.heap.size + 1 + 1, 0, none⟩)]))
          clear h3 hw0 ha hle
          go_wp2_with fail
          refine HTn.out.mono ?_
          rintro e w4 ⟨rfl, hd4, hc4⟩
          have HD4 := Lib.hid (And.intro hd4 hc4)
          have HE := Lib.hid (errno_ref σ w4 (H3.out.2.2.1.keep (fun b hb => hc4.block b (H3.out.2.2.1.lt hb) (HX2.out b hb))) ((tu : Int) + 1))
          clear hd4 hc4
          unfold DErr.val refV errK at *
          go_wp2_with fail
          refine HE.out.mono ?_
          rintro e w5 ⟨rfl, hb5⟩
          have HB5 := Lib.hid hb5
          clear hb5
          go_wp2_with fail
          go_ret
          rw [Hw.out]
          have hc5 : Chg T w w5 := ((Chg.of_below H3.out.2.1).trans (HD4.out.2.mono (fun _ hj => .inl hj))).on HB5.out
          have hl5 := HL.out.falls (D' := D.trips) rfl rfl rfl rfl rfl
          rw [hl1] at hl5
          exact ⟨rfl, Dev.of ((HD4.out.1.below HB5.out).mono (fun _ hj => .inl hj) (grow_lt Hf.out hc5.size)) hl5 hc5⟩
        · rw [if_neg ha] at hw0
          have Hw := Lib.hid hw0
          have HTn := Lib.hid (turn_write H3.out.1 (by rw [HL.out.tu]; exact Nat.le_trans HF.out.tu (by decide)) HL.out.lo.1 HL.out.lo.2 (by omega) m hm A bs c HB.out HA.out (by omega) (by rw [HL.out.ws]; exact Nat.le_trans HF.out.ws (by decide)) w.heap.size (w.heap.size + 1) (w.heap.size + 1 + 1) ⟨b1, Hsz.out _ (Nat.le_refl _)⟩ ⟨b2, Hsz.out _ (by omega)⟩ ⟨b3, Hsz.out _ (by omega)⟩)
          clear hw0 ha hle
          go_wp2_with fail
          refine HTn.out.mono ?_
          rintro e w4 ⟨rfl, wv4, hd4, hc4⟩
          have HD4 := Lib.hid (And.intro hd4 hc4)
          clear hd4 hc4
          go_wp2_with fail
          refine (errno_ok _).mono ?_
          rintro e w5 ⟨rfl, rfl⟩
          go_wp2_with fail
          go_ret
          rw [Hw.out]
          have hc5 : Chg T w w4 := (Chg.of_below H3.out.2.1).trans (HD4.out.2.mono (fun _ hj => .inl hj))
          have h1 := H3.out.2.1.size
          refine ⟨rfl, Dev.of (HD4.out.1.mono ?_ (grow_lt Hf.out hc5.size)) (HL.out.waits Hd.out.1 m (padB bs)) hc5⟩
          rintro j (hj | hj)
          · exact .inl hj
          · exact .inr ⟨by omega, hj.2⟩
    · have hr : D.refuses n bs.length = .bk := by unfold DM.refuses; rw [if_neg (by rw [hd]; decide), if_neg hn]
      have Hw : Hid (D.write n bs = (2, D)) := Lib.hid (by unfold DM.write; rw [if_neg (by rw [hd]; decide), if_pos (.inl hn)])
      have HE := HT' .bk hr (by intro e; cases e)
      rw [hr] at HT
      clear hr HT'
      refine HT.out.mono ?_
      rintro e w' ⟨rfl, rfl⟩
      unfold DErr.val errK at *
      go_wp2_with fail
      refine HE.out.mono ?_
      rintro e w4 ⟨rfl, hb4⟩
      have HB4 := Lib.hid hb4
      clear hb4
      go_wp2_with fail
      go_ret
      rw [Hw.out]
      exact ⟨rfl, (Dev.of ((H3.out.1.below HB4.out).mono (fun _ hj => .inl hj) (grow_lt Hf.out (Nat.le_trans H3.out.2.1.size HB4.out.size))) HL.out (Chg.of_below (H3.out.2.1.trans (HB4.out.mono H3.out.2.1.size))))⟩
set_option maxRecDepth 100000 in
set_option maxHeartbeats 1000000 in
theorem sync_any (k : DevAt w T dk D) (hF : D.Few 1000000) (hG : GlD σ w) (hT : ∀ b, σ.blk b → ¬ T b) :
    Calls Tryd.prog 18 #[.pointer (some ⟨dk, 0, none⟩)] w fun e w' => e = .returned (.int .i64 D.sync.1) ∧ Dev w T dk D.sync.2 w' := by
  obtain ⟨C, wv, hu, tu, cr, M, ws, left, dn, R, L⟩ := k
  have hb3 := below_new w (.cells #[.pointer (some ⟨dk, 0, none⟩)] 25)
  have b1 : (w.alloc (.cells #[.pointer (some ⟨dk, 0, none⟩)] 25)).cell? ⟨w.heap.size, 0, none⟩ = some (.pointer (some ⟨dk, 0, none⟩)) := cell_row _ _ _
  have HT := Lib.hid (up_any σ (hG.below hb3) (R.below hb3))
  have H3 := Lib.hid (And.intro (R.below hb3) (And.intro hb3 (hG.below hb3)))
  have HL := Lib.hid L
  have Hf := Lib.hid R.foot
  have HX2 := Lib.hid hT
  have HF := Lib.hid hF
  clear L R hG hT hF hb3
  go_enter Tryd.func18, Tryd.ntmps18
  go_wp2_with fail
  generalize (w.alloc (.cells #[.pointer (some ⟨dk, 0, none⟩)] 25)) = w3 at *
  refine HT.out.mono ?_
  rintro e w' ⟨rfl, rfl⟩
  have hdn := HL.out.dn
  cases hd : D.down with
  | true =>
    have Hw : Hid (D.sync = (11, D)) := Lib.hid (by unfold DM.sync; rw [if_pos hd])
    have HE := Lib.hid (errno_dn σ w3 H3.out.2.2)
    rw [hdn, hd]
    clear hd hdn
    unfold upE DErr.val errK at *
    simp only [if_true]
    go_wp2_with fail
    refine HE.out.mono ?_
    rintro e w4 ⟨rfl, rfl⟩
    go_wp2_with fail
    go_ret
    rw [Hw.out]
    exact ⟨rfl, Dev.of (H3.out.1.mono (fun _ hj => .inl hj) (grow_lt Hf.out H3.out.2.1.size)) HL.out (Chg.of_below H3.out.2.1)⟩
  | false =>
    have hw0 : D.sync = if D.armed = 1 then (11, D.trips) else (0, D.turned.settle fun _ => 8) := by unfold DM.sync; rw [if_neg (by rw [hd]; decide)]
    have hle : left = D.armed := HL.out.armed hd
    rw [hdn, hd]
    have Hd := Lib.hid (And.intro hd hdn)
    clear hd hdn
    have Hsz : Hid (∀ j, w.heap.size ≤ j → ¬ T j) := Lib.hid (fun j hj hT => by have := Hf.out j hT; omega)
    unfold upE DErr.val
    simp only [Bool.false_eq_true, if_false]
    by_cases ha : D.armed = 1
    · rw [if_pos ha] at hw0
      have Hw := Lib.hid hw0
      have hl1 : left = 1 := by omega
      have h3 := H3.out.1
      rw [hl1] at h3
      have HTn := Lib.hid (turn_trips σ H3.out.2.2 HX2.out h3 (by rw [HL.out.tu]; exact Nat.le_trans HF.out.tu (by decide)) (by rw [HL.out.cr]; exact Nat.le_trans HF.out.cr (by decide)) (.func (.func 49) #[] #[.pointer (some ⟨w.heap.size, 0, none⟩)]))
      clear h3 hw0 ha hle
      go_wp2_with fail
      refine HTn.out.mono ?_
      rintro e w4 ⟨rfl, hd4, hc4⟩
      have HD4 := Lib.hid (And.intro hd4 hc4)
      have HE := Lib.hid (errno_ref σ w4 (H3.out.2.2.keep (fun b hb => hc4.block b (H3.out.2.2.lt hb) (HX2.out b hb))) ((tu : Int) + 1))
      clear hd4 hc4
      unfold DErr.val refV errK at *
      go_wp2_with fail
      refine HE.out.mono ?_
      rintro e w5 ⟨rfl, hb5⟩
      have HB5 := Lib.hid hb5
      clear hb5
      go_wp2_with fail
      go_ret
      rw [Hw.out]
      have hc5 : Chg T w w5 := ((Chg.of_below H3.out.2.1).trans (HD4.out.2.mono (fun _ hj => .inl hj))).on HB5.out
      have hl5 := HL.out.falls (D' := D.trips) rfl rfl rfl rfl rfl
      rw [hl1] at hl5
      exact ⟨rfl, Dev.of ((HD4.out.1.below HB5.out).mono (fun _ hj => .inl hj) (grow_lt Hf.out hc5.size)) hl5 hc5⟩
    · rw [if_neg ha] at hw0
      have Hw := Lib.hid hw0
      have h3 := H3.out.1
      have hhu : hu = mHurts M := by rw [HL.out.hu, HL.out.cells, hurts_cells]
      rw [hhu] at h3
      have HTn := Lib.hid (turn_sync h3 (by rw [HL.out.tu]; exact Nat.le_trans HF.out.tu (by decide)) HL.out.lo.1 HL.out.lo.2 (by omega) (by rw [HL.out.ws]; exact Nat.le_trans HF.out.ws (by decide)) w.heap.size ⟨b1, Hsz.out _ (Nat.le_refl _)⟩)
      have HWB := Lib.hid (fun p hp => (h3.wb p hp).1)
      clear hw0 ha hle h3 hhu
      go_wp2_with fail
      refine HTn.out.mono ?_
      rintro e w4 ⟨rfl, hd4, hc4⟩
      have HD4 := Lib.hid (And.intro hd4 hc4)
      clear hd4 hc4
      go_wp2_with fail
      refine (errno_ok _).mono ?_
      rintro e w5 ⟨rfl, rfl⟩
      go_wp2_with fail
      go_ret
      rw [Hw.out]
      have hc5 : Chg T w w4 := (Chg.of_below H3.out.2.1).trans (HD4.out.2.mono (fun _ hj => .inl hj))
      have h1 := H3.out.2.1.size
      have hL := HL.out.settle (D' := D.turned.settle fun _ => 8) (fun _ => 8) HWB.out rfl rfl (left' := nextLeft left) (fun _ => by
        have := HL.out.armed Hd.out.1
        show nextLeft left = ((D.armed - 1 : Nat) : Int)
        unfold nextLeft; rw [this]; split <;> omega) (by have := HL.out.lo; unfold nextLeft; split <;> omega)
      have hR : DevR w4 (grow T w3 w4) dk C (.slice none 0 0) (mHurts (settleM M ws (fun _ => 8) ws.length)) (D.turned.settle fun _ => 8).turns (D.turned.settle fun _ => 8).crashes (settleM M ws (fun _ => 8) ws.length) [] (nextLeft left) (D.turned.settle fun _ => 8).down := by
        have e1 : tu + 1 = (D.turned.settle fun _ => 8).turns := by rw [HL.out.tu]; rfl
        have e2 : cr = (D.turned.settle fun _ => 8).crashes := by rw [HL.out.cr]; rfl
        have e3 : dn = (D.turned.settle fun _ => 8).down := by rw [HL.out.dn]; rfl
        rw [← e1, ← e2, ← e3]; exact HD4.out.1
      refine ⟨rfl, Dev.of (hR.mono ?_ (grow_lt Hf.out hc5.size)) hL hc5⟩
      rintro j (hj | hj)
      · exact .inl hj
      · exact .inr ⟨by omega, hj.2⟩
end
end Go.Proofs.YtgjdoiblgbdebaaDoor
