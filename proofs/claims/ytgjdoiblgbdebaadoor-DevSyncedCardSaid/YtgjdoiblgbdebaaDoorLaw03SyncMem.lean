/- The statement's helpers padded, pieced. -/
/- What crashes leave of blocks: reckoned by the page alone. -/
/- What was stored, in rows that are owned; what a disk that is up does. -/
import Derived.Test.YtgjdoiblgbdebaaDoorLaw03Do
import Derived.Deep.Cut
import Derived.IntWalk
import Derived.Maps.AppendAt
namespace Go.Proofs.YtgjdoiblgbdebaaDoor
open Go.RowKit
def paddedL (bs : List Int) : List Int := if 256 < bs.length then [] else padB bs
set_option maxRecDepth 100000 in
set_option maxHeartbeats 2000000 in
theorem padded_any (w : World) (A : Option Addr) (bs : List Int) (c : Nat) (hb : BytesAt w A bs) (hl : bs.length ≤ 140737488351232) :
    Calls Tryd.prog 25 #[.slice A bs.length c] w fun e w' => ∃ A' : Option Addr, e = .returned (.slice A' (paddedL bs).length (paddedL bs).length) ∧ BytesAt w' A' (paddedL bs) ∧ Below w.heap.size w w' := by
  have hmk := made256r
  have hbn := below_new w (.cells (u8s zero256).toArray 5)
  have hB5 := BlockIs.made w 5 (u8s zero256).toArray
  have H0 := Lib.hid (And.intro hbn (And.intro hB5 (hb.below hbn)))
  have Hb := Lib.hid hb
  have HP := Lib.hid (show paddedL bs = if 256 < bs.length then [] else padB bs from rfl)
  obtain ⟨X, hX⟩ : ∃ X, paddedL bs = X := ⟨_, rfl⟩
  rw [hX] at HP ⊢
  clear hbn hB5 hb hX
  have hg1 : (u8s (bs.take 256)).length = Nat.min bs.length 256 := by rw [u8s_len, List.length_take]; exact Nat.min_comm _ _
  have G1 := Lib.hid hg1
  have G2 := Lib.hid (show 0 + (u8s (bs.take 256)).length ≤ (u8s zero256).length by rw [u8s_len, u8s_len, zero256_len, List.length_take]; omega)
  have G3 : Hid (0 < (u8s (bs.take 256)).length → ∃ ad, A = some ad ∧ ∀ j v, (u8s (bs.take 256))[j]? = some v → (w.alloc (.cells (u8s zero256).toArray 5)).cell? (ad.add j) = some v) := Lib.hid fun hp => by
    have hne : bs ≠ [] := by rintro rfl; exact absurd hp (by decide)
    obtain ⟨b, off, e, hc⟩ := H0.out.2.2.2 hne
    refine ⟨⟨b, off, none⟩, e, fun j v hj => ?_⟩
    unfold u8s at hj
    rw [List.getElem?_map] at hj
    cases hq : (bs.take 256)[j]? with
    | none => rw [hq] at hj; cases hj
    | some z =>
      rw [hq] at hj
      obtain rfl : Value.int .u8 z = v := by simpa using hj
      have hlt := (List.getElem?_eq_some_iff.1 hq).1
      rw [List.length_take] at hlt
      rw [List.getElem?_take_of_lt (by omega)] at hq
      rw [Addr.add_mid, hc j (by omega), List.getD_eq_getElem?_getD, hq]; rfl
  have G4 := Lib.hid (u8s_one (bs.take 256))
  clear hg1
  by_cases h1 : 256 < bs.length
  · have h2 : (256 : Int) < (bs.length : Int) := by omega
    have HPX : Hid (X = []) := Lib.hid (by rw [HP.out, if_pos h1])
    go_enter Tryd.func25, Tryd.ntmps25
    go_wp2_with (refine wpList_copy_splice rfl (.tmp 5) (.tmp 6) 33 33 rfl 5 Tryd.underlying33 (by kernel_rfl) (some ⟨w.heap.size, 0, none⟩) A 256 256 bs.length c rfl rfl w.heap.size 0 (u8s zero256) 5 H0.out.2.1 (u8s (bs.take 256)) G1.out (fun hp => ⟨rfl, G3.out hp⟩) G2.out G4.out w.heap.size w H0.out.1 (Nat.le_refl _) ?_; intro w6 hG6 hB6; have H6 := Lib.hid (And.intro hG6.out hB6); clear hG6 hB6)
    go_ret
    rw [HPX.out]
    exact ⟨none, rfl, BytesAt.nil _ _, H6.out.2⟩
  · have h2 : ¬ (256 : Int) < (bs.length : Int) := by omega
    have HPX : Hid (X = padB bs) := Lib.hid (by rw [HP.out, if_neg h1])
    go_enter Tryd.func25, Tryd.ntmps25
    go_wp2_with (refine wpList_copy_splice rfl (.tmp 5) (.tmp 6) 33 33 rfl 5 Tryd.underlying33 (by kernel_rfl) (some ⟨w.heap.size, 0, none⟩) A 256 256 bs.length c rfl rfl w.heap.size 0 (u8s zero256) 5 H0.out.2.1 (u8s (bs.take 256)) G1.out (fun hp => ⟨rfl, G3.out hp⟩) G2.out G4.out w.heap.size w H0.out.1 (Nat.le_refl _) ?_; intro w6 hG6 hB6; have H6 := Lib.hid (And.intro hG6.out hB6); clear hG6 hB6)
    go_ret
    rw [HPX.out]
    have ht : bs.take 256 = bs := List.take_of_length_le (by omega)
    have ho6 := own_over (xs := zero256) (ys := bs) (cur := u8s zero256) (cap := 256) (m := 256) zero256_len (by omega) (by rw [u8s_len, zero256_len]) (Nat.le_refl _) (by decide) (List.take_of_length_le (by rw [u8s_len, zero256_len]; exact Nat.le_refl _)) (by rw [← ht]; exact H6.out.1)
    rw [pad_over] at ho6
    have hlen : (padB bs).length = 256 := (padB_ok (by omega) Hb.out.1).1
    exact ⟨some ⟨w.heap.size, 0, none⟩, by rw [hlen]; rfl, own_bytes ho6 (padB_ok (by omega) Hb.out.1).2, H6.out.2⟩
/-- The sector s of a row of bytes. -/
def sec (b : List Int) (s : Nat) : List Int := (b.drop (32 * s)).take 32
theorem sec_len {b : List Int} (h : b.length = 256) {s : Nat} (hs : s < 8) : (sec b s).length = 32 := by unfold sec; rw [List.length_take, List.length_drop]; omega
theorem sec_bytes {w : World} {A : Option Addr} {b : List Int} {cap : Nat} (h : BytesAt w A b) (hk : b.length ≤ cap) (s : Nat) : BytesAt w (cutAt A cap (32 * s)) (sec b s) := front_reads (cut_reads h hk)
theorem sec_run (A : Option Addr) (n cap s : Nat) (w : World) (hs : s < 8) (hc : 256 ≤ cap) (hm : cap ≤ 9223372036854775807) : (Instr.slice 33 (.slice A n cap) (some (.int .i64 (32 * (s : Int)))) (some (.int .i64 (32 * (s : Int) + 32))) none).run Tryd.prog w = .ok (.slice (cutAt A cap (32 * s)) 32 (cap - 32 * s)) w := by
  have h1 : (sizeOf (Tryd.prog.elem 33)).run Tryd.prog w = .ok 1 w := by kernel_rfl
  obtain ⟨k, hk⟩ : ∃ k, k = 32 * s := ⟨_, rfl⟩
  rw [show (32 * (s : Int) + 32) = ((k + 32 : Nat) : Int) by omega, show (32 * (s : Int)) = (k : Int) by omega, run_slice_lh w 33 A n cap (by kernel_rfl) .i64 .i64 (k : Nat) (k + 32 : Nat) (by omega) (by omega) (by omega), h1, ← hk]
  have t1 : ((k + 32 : Nat) : Int).toNat = k + 32 := Int.toNat_natCast _
  have t2 : ((k : Nat) : Int).toNat = k := Int.toNat_natCast _
  simp only [Result.andThen, sliced, cutAt, t1, t2, Nat.add_sub_cancel_left]
  simp
/-- Whether a sector is one of those of the writes of a block, among the first k. -/
def pieceK (b : List Int) (l : List DeedV) (B n : Int) (s : Nat) (x : Bool) : Nat → Bool
  | 0 => x
  | k + 1 => pieceK b l B n s x k || (match l[k]? with
    | some d => decide (0 < (paddedL d.bs).length) && (decide (d.n % B = n) && sameB (sec b s) (sec (paddedL d.bs) s))
    | none => false)
set_option maxRecDepth 100000 in
set_option maxHeartbeats 8000000 in
theorem pieced_any (w : World) (A1 A2 A3 : Option Addr) (c1 c2 c3 : Nat) (b was : List Int) (l : List DeedV) (n B : Int) (hb : BytesAt w A1 b) (hw : BytesAt w A2 was) (hbl : b.length = 256) (hwl : was.length = 256) (hc1 : 256 ≤ c1 ∧ c1 ≤ 9223372036854775807) (hc2 : 256 ≤ c2 ∧ c2 ≤ 9223372036854775807) (hl : DeedsAt w A3 l) (hll : l.length ≤ 1000) (hB : 1 ≤ B ∧ B ≤ 9223372036854775807)
    (hp : ∀ s, s < 8 → pieceK b l B n s (sameB (sec b s) (sec was s)) l.length = true) :
    Calls Tryd.prog 26 #[.slice A1 256 c1, .slice A2 256 c2, .slice A3 l.length c3, .int .i64 n, .int .i64 B] w fun e w' => e = .returned (.bool true) ∧ Below w.heap.size w w' := by
  have H := Lib.hid (And.intro hb (And.intro hw (And.intro hl hp)))
  have Hbl := Lib.hid hbl
  have Hwl := Lib.hid hwl
  clear hb hw hl hp hbl hwl
  obtain ⟨hc1a, hc1b⟩ := hc1
  obtain ⟨hc2a, hc2b⟩ := hc2
  obtain ⟨hB1, hB2⟩ := hB
  go_enter Tryd.func26, Tryd.ntmps26
  go_wp2_with fail
  go_loopg [11] 8 (fun gk i wx => ∃ s : Nat, gk = 8 - s ∧ s ≤ 8 ∧ i = .int .i64 (s : Int) ∧ Hid (Below w.heap.size w wx))
  case atStart => exact ⟨0, rfl, by omega, rfl, Lib.hid (Below.refl _ _)⟩
  case round =>
    obtain ⟨s, hgk1, hs, rfl, hb1⟩ := hrel
    have Hgk1 := Lib.hid hgk1
    clear hgk1
    by_cases hs8 : (s : Int) < 8
    · have hs0 : (0 : Int) ≤ 32 * (s : Int) := by omega
      have HS1 : Hid (∀ k, Calls Tryd.prog 24 #[.slice (cutAt A1 c1 (32 * s)) 32 (c1 - 32 * s), .slice (cutAt A2 c2 (32 * s)) 32 (c2 - 32 * s)] (wr.drewN k) fun e w2 => e = .returned (.bool (sameB (sec b s) (sec was s))) ∧ ∃ m, w2 = (wr.drewN k).drewN m) := Lib.hid (fun k => by
        have := sameBytes_any (sec b s) (sec was s) (cutAt A1 c1 (32 * s)) (cutAt A2 c2 (32 * s)) (c1 - 32 * s) (c2 - 32 * s) (wr.drewN k) ((sec_bytes (H.out.1.below hb1.out) (by rw [Hbl.out]; omega) s).drewN k) ((sec_bytes (H.out.2.1.below hb1.out) (by rw [Hwl.out]; omega) s).drewN k) (by rw [sec_len Hbl.out (by omega)]; decide)
        rw [sec_len Hbl.out (by omega), sec_len Hwl.out (by omega)] at this
        exact this)
      have e1 : IntKind.i64.wrap (32 * (s : Int)) = 32 * (s : Int) := IntWalk.i64_in _ (by omega)
      have e2 : IntKind.i64.wrap (32 * (s : Int) + 32) = 32 * (s : Int) + 32 := IntWalk.i64_in _ (by omega)
      have hr1 := fun w' => sec_run A1 256 c1 s w' (by omega) hc1a hc1b
      have hr2 := fun w' => sec_run A2 256 c2 s w' (by omega) hc2a hc2b
      go_wp2_with fail
      go_quiet ((go_at_call 24; exact Calls.quiet_of (HS1.out _)))
      clear hr1 hr2 HS1 e1 e2
      have hbq : Below w.heap.size w (wr.drewN nq) := drewN_below hb1.out nq
      have Hbq := Lib.hid hbq
      clear hbq
      generalize wr.drewN nq = w2 at *
      obtain ⟨x0, hx0⟩ : ∃ x0, sameB (sec b s) (sec was s) = x0 := ⟨_, rfl⟩
      have Hx0 := Lib.hid hx0
      rw [hx0]
      clear hx0
      go_wp2_with fail
      go_loopg [12, 13, 14] l.length (fun gk o i y wx => ∃ q : Nat, gk = l.length - q ∧ q ≤ l.length ∧ i = .int .i64 (q : Int) ∧ o = .bool (pieceK b l B n s x0 q) ∧ Hid (Below w.heap.size w wx))
      case atStart => exact ⟨0, rfl, Nat.zero_le _, rfl, rfl, Hbq⟩
      case round =>
        obtain ⟨q, hgk2, hq, rfl, rfl, hb2⟩ := hrel
        have Hgk2 := Lib.hid hgk2
        clear hgk2
        by_cases hlt : q < l.length
        · have HK := Lib.hid (show pieceK b l B n s x0 (q + 1) = (pieceK b l B n s x0 q || (decide (0 < (paddedL l[q].bs).length) && (decide (l[q].n % B = n) && sameB (sec b s) (sec (paddedL l[q].bs) s)))) by
            conv => lhs; unfold pieceK
            rw [List.getElem?_eq_getElem hlt])
          have hdl := (H.out.2.2.1.below hb2.out)
          obtain ⟨b0, off, rfl, hc⟩ := hdl.2 (by rintro rfl; exact absurd hlt (Nat.not_lt_zero _))
          obtain ⟨_, k1, k2, _, _, _⟩ := deed_cells hlt hc
          have hx := hdl.1 l[q] (List.getElem_mem hlt)
          have HP := Lib.hid (padded_any wr l[q].A l[q].bs l[q].c hx.bytes hx.len)
          have hi1 : (0 : Int) ≤ (q : Int) := by omega
          have hi2 : (q : Int) < (l.length : Int) := by omega
          clear hdl hc hx
          obtain ⟨y, hy⟩ : ∃ y, pieceK b l B n s x0 q = y := ⟨_, rfl⟩
          rw [hy] at HK ⊢
          clear hy
          generalize l[q] = x at *
          go_wp2_with fail
          refine HP.out.mono ?_
          rintro e w3 ⟨A', rfl, hbp, hb3⟩
          have H3 := Lib.hid (And.intro hbp (hb2.out.trans (hb3.mono hb2.out.size)))
          have k1 := cell_below k1 hb3
          have k2 := cell_below k2 hb3
          clear hbp hb3
          have HQ := Lib.hid (fun k => pick_any x.n B (w3.drewN k) hB1 hB2)
          cases y with
          | true =>
            go_wp2_with fail
            go_quiet (fail)
            go_wp2_with fail
            go_roundg (l.length - (q + 1))
            case measure => rw [Hgk2.out]; omega
            case rel => exact ⟨q + 1, rfl, by omega, by go_num, by rw [HK.out]; rfl, Lib.hid (drewN_below H3.out.2 _)⟩
          | false =>
            by_cases h256 : 256 < x.bs.length
            · have hpl : paddedL x.bs = [] := by unfold paddedL; rw [if_pos h256]
              rw [hpl] at HK H3
              rw [hpl]
              go_wp2_with fail
              go_quiet (fail)
              go_wp2_with fail
              go_roundg (l.length - (q + 1))
              case measure => rw [Hgk2.out]; omega
              case rel => exact ⟨q + 1, rfl, by omega, by go_num, by rw [HK.out]; rfl, Lib.hid (drewN_below H3.out.2 _)⟩
            · have hpl : (paddedL x.bs).length = 256 := by unfold paddedL; rw [if_neg h256, padB]; simp; omega
              rw [hpl] at HK
              rw [hpl]
              have Hpl := Lib.hid hpl
              clear hpl
              by_cases hn : x.n % B = n
              · have hq1 : (x.n % B == n) = true := beq_iff_eq.2 hn
                have HS1 : Hid (∀ k, Calls Tryd.prog 24 #[.slice (cutAt A1 c1 (32 * s)) 32 (c1 - 32 * s), .slice (cutAt A' 256 (32 * s)) 32 (256 - 32 * s)] (w3.drewN k) fun e w2 => e = .returned (.bool (sameB (sec b s) (sec (paddedL x.bs) s))) ∧ ∃ m, w2 = (w3.drewN k).drewN m) := Lib.hid (fun k => by
                  have := sameBytes_any (sec b s) (sec (paddedL x.bs) s) (cutAt A1 c1 (32 * s)) (cutAt A' 256 (32 * s)) (c1 - 32 * s) (256 - 32 * s) (w3.drewN k) ((sec_bytes (H.out.1.below H3.out.2) (by rw [Hbl.out]; omega) s).drewN k) ((sec_bytes H3.out.1 (by rw [Hpl.out]; exact Nat.le_refl _) s).drewN k) (by rw [sec_len Hbl.out (by omega)]; decide)
                  rw [sec_len Hbl.out (by omega), sec_len Hpl.out (by omega)] at this
                  exact this)
                have e1 : IntKind.i64.wrap (32 * (s : Int)) = 32 * (s : Int) := IntWalk.i64_in _ (by omega)
                have e2 : IntKind.i64.wrap (32 * (s : Int) + 32) = 32 * (s : Int) + 32 := IntWalk.i64_in _ (by omega)
                have hr1 := fun w' => sec_run A1 256 c1 s w' (by omega) hc1a hc1b
                have hr2 := fun w' => sec_run A' 256 256 s w' (by omega) (by decide) (by decide)
                have HKn := Lib.hid hn
                clear hn
                go_wp2_with fail
                go_quiet ((first | (go_at_call 17; exact Calls.quiet_of_same ((HQ.out _).mono fun _ _ h => ⟨h.1, h.2.symm⟩)) | (go_at_call 24; exact Calls.quiet_of (HS1.out _))))
                clear hr1 hr2 e1 e2
                go_wp2_with fail
                go_roundg (l.length - (q + 1))
                case measure => rw [Hgk2.out]; omega
                case rel => exact ⟨q + 1, rfl, by omega, by go_num, by rw [HK.out, decide_eq_true HKn.out]; simp, Lib.hid (drewN_below H3.out.2 _)⟩
              · have hq1 : (x.n % B == n) = false := beq_eq_false_iff_ne.2 hn
                have HKn := Lib.hid hn
                clear hn
                go_wp2_with fail
                go_quiet ((go_at_call 17; exact Calls.quiet_of_same ((HQ.out _).mono fun _ _ h => ⟨h.1, h.2.symm⟩)))
                go_wp2_with fail
                go_roundg (l.length - (q + 1))
                case measure => rw [Hgk2.out]; omega
                case rel => exact ⟨q + 1, rfl, by omega, by go_num, by rw [HK.out, decide_eq_false HKn.out]; simp, Lib.hid (drewN_below H3.out.2 _)⟩
        · obtain rfl : q = l.length := by omega
          have hy : pieceK b l B n s x0 l.length = true := by rw [← Hx0.out]; exact H.out.2.2.2 s (by omega)
          rw [hy]
          clear hy
          go_wp2_with fail
          go_roundg (8 - (s + 1))
          case measure => rw [Hgk1.out]; omega
          case rel => exact ⟨s + 1, rfl, by omega, by go_num, hb2⟩
    · go_wp2_with fail
      go_ret
      exact ⟨rfl, hb1.out⟩
end Go.Proofs.YtgjdoiblgbdebaaDoor
namespace Go.Proofs.YtgjdoiblgbdebaaDoor
theorem sec_store {b c : List Int} (hb : b.length = 256) {s' s : Nat} (hs' : s' ≤ 8) : sec (b.take (32 * s') ++ c.drop (32 * s')) s = if s < s' then sec b s else sec c s := by
  unfold sec
  have hl : (b.take (32 * s')).length = 32 * s' := by rw [List.length_take]; omega
  split
  · next h =>
    rw [List.drop_append_of_le_length (by rw [hl]; omega), List.take_append_of_le_length (by rw [List.length_drop, hl]; omega), List.drop_take, List.take_take]
    congr 1
    omega
  · next h =>
    rw [List.drop_append, hl, List.drop_eq_nil_of_le (by rw [hl]; omega), List.nil_append, List.drop_drop]
    congr 2
    omega
theorem getD_set_same {cs : List (List Int × Bool)} {n : Nat} (h : n < cs.length) (x d : List Int × Bool) : (cs.set n x).getD n d = x := by
  rw [List.getD_eq_getElem?_getD, List.getElem?_set_self h]; rfl
theorem getD_set_other {cs : List (List Int × Bool)} {m n : Nat} (h : m ≠ n) (x d : List Int × Bool) : (cs.set m x).getD n d = cs.getD n d := by
  rw [List.getD_eq_getElem?_getD, List.getElem?_set_ne h, ← List.getD_eq_getElem?_getD]
section
variable {cs : List (List Int × Bool)} {ws : List (Nat × List Int)} {f : Nat → Nat}
/-- A block of which no write is torn is as it was, or as one of its writes. -/
theorem settle_whole (hc : ∀ (n : Nat) c, cs[n]? = some c → BlkOk c.1) (hw : ∀ p ∈ ws, p.1 < cs.length ∧ BlkOk p.2) (hf : ∀ i, f i ≤ 8) {n : Nat} (hn : n < cs.length) : ∀ k, (∀ i p, i < k → ws[i]? = some p → p.1 = n → f i = 0 ∨ f i = 8) →
    ((settleK cs ws f k).getD n ([], false)).1 = (cs.getD n ([], false)).1 ∨ ∃ p ∈ ws, p.1 = n ∧ ((settleK cs ws f k).getD n ([], false)).1 = p.2
  | 0, _ => .inl rfl
  | k + 1, h => by
    have ih := settle_whole hc hw hf hn k (fun i p hi => h i p (by omega))
    unfold settleK
    cases hk : ws[k]? with
    | none => exact ih
    | some p =>
      have hp := hw p (List.mem_of_getElem? hk)
      have hl := settleK_len cs ws f k
      by_cases hpn : p.1 = n
      · subst hpn
        show (((settleK cs ws f k).set p.1 _).getD p.1 ([], false)).1 = _ ∨ _
        rw [getD_set_same (by rw [hl]; exact hn)]
        have hok : BlkOk ((settleK cs ws f k).getD p.1 ([], false)).1 := by
          rw [List.getD_eq_getElem?_getD, List.getElem?_eq_getElem (by rw [hl]; exact hn)]
          exact settleK_ok hc hw hf k p.1 _ (List.getElem?_eq_getElem (by rw [hl]; exact hn))
        rcases h k p (Nat.lt_succ_self k) hk rfl with h0 | h8
        · rw [h0, storeS_zero]; exact ih
        · rw [h8, storeS_whole hok hp.2]
          exact .inr ⟨p, List.mem_of_getElem? hk, rfl, rfl⟩
      · show (((settleK cs ws f k).set p.1 _).getD n ([], false)).1 = _ ∨ _
        rw [getD_set_other hpn]; exact ih
/-- Each sector is that of what was there, or of one of its writes. -/
theorem settle_sector (hc : ∀ (n : Nat) c, cs[n]? = some c → BlkOk c.1) (hw : ∀ p ∈ ws, p.1 < cs.length ∧ BlkOk p.2) (hf : ∀ i, f i ≤ 8) {n : Nat} (hn : n < cs.length) {s : Nat} (hs : s < 8) : ∀ k,
    sec ((settleK cs ws f k).getD n ([], false)).1 s = sec (cs.getD n ([], false)).1 s ∨ ∃ p ∈ ws, p.1 = n ∧ sec ((settleK cs ws f k).getD n ([], false)).1 s = sec p.2 s
  | 0 => .inl rfl
  | k + 1 => by
    have ih := settle_sector hc hw hf hn hs k
    unfold settleK
    cases hk : ws[k]? with
    | none => exact ih
    | some p =>
      have hp := hw p (List.mem_of_getElem? hk)
      have hl := settleK_len cs ws f k
      by_cases hpn : p.1 = n
      · subst hpn
        show sec (((settleK cs ws f k).set p.1 _).getD p.1 ([], false)).1 s = _ ∨ _
        rw [getD_set_same (by rw [hl]; exact hn)]
        have hok : BlkOk ((settleK cs ws f k).getD p.1 ([], false)).1 := by
          rw [List.getD_eq_getElem?_getD, List.getElem?_eq_getElem (by rw [hl]; exact hn)]
          exact settleK_ok hc hw hf k p.1 _ (List.getElem?_eq_getElem (by rw [hl]; exact hn))
        have hst : sec (storeS ((settleK cs ws f k).getD p.1 ([], false)) p.2 (f k)).1 s = if s < f k then sec p.2 s else sec ((settleK cs ws f k).getD p.1 ([], false)).1 s := sec_store hp.2.1 (hf k)
        rw [hst]
        split
        · exact .inr ⟨p, List.mem_of_getElem? hk, rfl, rfl⟩
        · exact ih
      · show sec (((settleK cs ws f k).set p.1 _).getD n ([], false)).1 s = _ ∨ _
        rw [getD_set_other hpn]; exact ih
end
/-- The writes that wait, of deeds that write. -/
def waitsOf (l : List DeedV) (B : Int) : List (Nat × List Int) := (l.filter fun d => decide (d.bs.length ≤ 256)).map fun d => ((d.n % B).toNat, padB d.bs)
theorem waitsOf_snoc (l : List DeedV) (B : Int) (k : Nat) (h : k < l.length) : waitsOf (l.take (k + 1)) B = waitsOf (l.take k) B ++ (if l[k].bs.length ≤ 256 then [((l[k].n % B).toNat, padB l[k].bs)] else []) := by
  unfold waitsOf
  rw [List.take_succ_eq_append_getElem h, List.filter_append, List.map_append]
  congr 1
  by_cases h1 : l[k].bs.length ≤ 256
  · rw [if_pos h1]; simp [h1]
  · rw [if_neg h1]; simp [h1]
theorem waitsOf_mem {l : List DeedV} {B : Int} (hB : 0 < B) {p : Nat × List Int} (h : p ∈ waitsOf l B) : ∃ d ∈ l, d.n % B = (p.1 : Int) ∧ p.2 = padB d.bs ∧ paddedL d.bs = p.2 ∧ d.bs.length ≤ 256 := by
  unfold waitsOf at h
  obtain ⟨d, hd, rfl⟩ := List.mem_map.1 h
  obtain ⟨h1, h2⟩ := List.mem_filter.1 hd
  have h3 : d.bs.length ≤ 256 := of_decide_eq_true h2
  exact ⟨d, h1, (Int.toNat_of_nonneg (Int.emod_nonneg _ (by omega))).symm, rfl, by unfold paddedL; rw [if_neg (by omega)], h3⟩
/-- Whether a block is whole: as it was, or as one of the first k writes of it. -/
def wholeK (b : List Int) (l : List DeedV) (B n : Int) (x : Bool) : Nat → Bool
  | 0 => x
  | k + 1 => wholeK b l B n x k || (match l[k]? with
    | some d => decide (d.n % B = n) && sameB b (paddedL d.bs)
    | none => false)
theorem wholeK_mono {b : List Int} {l : List DeedV} {B n : Int} {x : Bool} {i : Nat} (h : wholeK b l B n x i = true) : ∀ k, i ≤ k → wholeK b l B n x k = true
  | 0, hk => by obtain rfl : i = 0 := by omega
                exact h
  | k + 1, hk => by
    rcases Nat.lt_or_ge i (k + 1) with h1 | h1
    · unfold wholeK; rw [wholeK_mono h k (by omega), Bool.true_or]
    · obtain rfl : i = k + 1 := by omega
      exact h
theorem wholeK_mem {b : List Int} {l : List DeedV} {B n : Int} {x : Bool} {d : DeedV} (hd : d ∈ l) (hn : d.n % B = n) (hb : b = paddedL d.bs) : wholeK b l B n x l.length = true := by
  obtain ⟨i, hi⟩ := List.mem_iff_getElem?.1 hd
  refine wholeK_mono (i := i + 1) ?_ _ (List.getElem?_eq_some_iff.1 hi).1
  unfold wholeK
  rw [hi]
  simp [hn, hb, sameB]
theorem pieceK_mono {b : List Int} {l : List DeedV} {B n : Int} {s : Nat} {x : Bool} {i : Nat} (h : pieceK b l B n s x i = true) : ∀ k, i ≤ k → pieceK b l B n s x k = true
  | 0, hk => by obtain rfl : i = 0 := by omega
                exact h
  | k + 1, hk => by
    rcases Nat.lt_or_ge i (k + 1) with h1 | h1
    · unfold pieceK; rw [pieceK_mono h k (by omega), Bool.true_or]
    · obtain rfl : i = k + 1 := by omega
      exact h
theorem pieceK_mem {b : List Int} {l : List DeedV} {B n : Int} {s : Nat} {x : Bool} {d : DeedV} (hd : d ∈ l) (hn : d.n % B = n) (h0 : 0 < (paddedL d.bs).length) (hb : sec b s = sec (paddedL d.bs) s) : pieceK b l B n s x l.length = true := by
  obtain ⟨i, hi⟩ := List.mem_iff_getElem?.1 hd
  refine pieceK_mono (i := i + 1) ?_ _ (List.getElem?_eq_some_iff.1 hi).1
  unfold pieceK
  rw [hi]
  simp [hn, hb, sameB, h0]
theorem count_one (p : Nat → Bool) (c : Nat) (h : ∀ n, p n = true → n = c) : ∀ q, (List.range q).countP p ≤ if c < q then 1 else 0
  | 0 => by simp
  | q + 1 => by
    have ih := count_one p c h q
    rw [List.range_succ, List.countP_append, List.countP_singleton]
    by_cases hq : p q = true
    · have := h q hq
      subst this
      rw [if_pos hq]
      rw [if_neg (Nat.lt_irrefl q)] at ih
      rw [if_pos (Nat.lt_succ_self q)]; omega
    · rw [if_neg hq]
      split at ih
      · rw [if_pos (by omega)]; exact ih
      · have : (List.range q).countP p = 0 := by omega
        rw [this]; exact Nat.zero_le _
section
variable {D E : DM} {l : List DeedV} {B : Nat} {stay torn sectors : Int}
/-- Behind a crash: all that the statement asks. -/
theorem crash_facts (hD : D.Ok) (hB : D.cells.length = B) (hl : ∀ d ∈ l, ∀ z ∈ d.bs, 0 ≤ z ∧ z < 256) (hE : E.cells = settleK D.cells (waitsOf l B) (fate stay torn sectors) (waitsOf l B).length) :
    (∀ n s, n < B → s < 8 → pieceK (E.stored n) l B n s (sameB (sec (E.stored n) s) (sec (D.stored n) s)) l.length = true) ∧
    (List.range B).countP (fun n => !wholeK (E.stored n) l B n (sameB (E.stored n) (D.stored n)) l.length) ≤ 1 := by
  have hB0 : (0 : Int) < (B : Int) := by have := hD.some_; omega
  have hw : ∀ p ∈ waitsOf l B, p.1 < D.cells.length ∧ BlkOk p.2 := fun p hp => by
    obtain ⟨d, hd, h1, h2, _, h3⟩ := waitsOf_mem hB0 hp
    have := Int.emod_lt_of_pos d.n hB0
    exact ⟨by rw [hB]; omega, by rw [h2]; exact padB_ok h3 (hl d hd)⟩
  have hst : ∀ n, E.stored n = ((settleK D.cells (waitsOf l B) (fate stay torn sectors) (waitsOf l B).length).getD n ([], false)).1 := fun n => by unfold DM.stored; rw [hE]
  constructor
  · intro n s hn hs
    rcases settle_sector hD.bytes hw (fate_le stay torn sectors) (n := n) (by rw [hB]; exact hn) hs (waitsOf l B).length with h | ⟨p, hp, h1, h2⟩
    · refine pieceK_mono (i := 0) ?_ _ (Nat.zero_le _)
      unfold pieceK
      rw [hst n]
      exact decide_eq_true h
    · obtain ⟨d, hd, h3, h4, h5, h6⟩ := waitsOf_mem hB0 hp
      refine pieceK_mem hd (by rw [h3, h1]) (by rw [h5, (hw p hp).2.1]; decide) ?_
      rw [hst n, h2, h5]
  · have key : ∀ n, n < B → (!wholeK (E.stored n) l B n (sameB (E.stored n) (D.stored n)) l.length) = true → n = ((waitsOf l B).getD torn.toNat (0, [])).1 := by
      intro n hn hodd
      apply Classical.byContradiction
      intro hne
      have hall : ∀ i p, i < (waitsOf l B).length → (waitsOf l B)[i]? = some p → p.1 = n → fate stay torn sectors i = 0 ∨ fate stay torn sectors i = 8 := by
        intro i p hi hp hpn
        unfold fate
        rw [if_neg]
        · split
          · exact .inr rfl
          · exact .inl rfl
        · intro e
          refine hne ?_
          rw [← e, Int.toNat_natCast, List.getD_eq_getElem?_getD, hp]
          exact hpn.symm
      have hwh : wholeK (E.stored n) l B n (sameB (E.stored n) (D.stored n)) l.length = true := by
        rcases settle_whole hD.bytes hw (fate_le stay torn sectors) (n := n) (by rw [hB]; exact hn) (waitsOf l B).length hall with h | ⟨p, hp, h1, h2⟩
        · refine wholeK_mono (i := 0) ?_ _ (Nat.zero_le _)
          unfold wholeK
          rw [hst n]
          exact decide_eq_true h
        · obtain ⟨d, hd, h3, h4, h5, h6⟩ := waitsOf_mem hB0 hp
          exact wholeK_mem hd (by rw [h3, h1]) (by rw [hst n, h2, h5])
      rw [hwh] at hodd
      exact absurd hodd (by decide)
    have h1 : (List.range B).countP (fun n => !wholeK (E.stored n) l B n (sameB (E.stored n) (D.stored n)) l.length) = (List.range B).countP (fun n => decide (n < B) && !wholeK (E.stored n) l B n (sameB (E.stored n) (D.stored n)) l.length) := by
      apply List.countP_congr
      intro n hn
      have := List.mem_range.1 hn
      simp [this]
    rw [h1]
    refine Nat.le_trans (count_one _ ((waitsOf l B).getD torn.toNat (0, [])).1 (fun n hn => ?_) B) (by split <;> omega)
    rw [Bool.and_eq_true] at hn
    exact key n (of_decide_eq_true hn.1) hn.2
end
end Go.Proofs.YtgjdoiblgbdebaaDoor
namespace Go.Proofs.YtgjdoiblgbdebaaDoor
open Go.RowKit
/-- A disk of so many blocks, which is up and unarmed. -/
structure Calm (B : Nat) (D : DM) : Prop where
  len : D.cells.length = B
  up : D.down = false
  unarmed : D.armed = 0
section
variable {B : Nat} {D : DM}
theorem Calm.write (h : Calm B D) (n : Int) (hn : 0 ≤ n ∧ n < (B : Int)) (bs : List Int) : Calm B (D.write n bs).2 ∧ (D.write n bs).2.cells = D.cells ∧ (D.write n bs).2.waits = D.waits ++ (if bs.length ≤ 256 then [(n.toNat, padB bs)] else []) := by
  have hh : D.has n := ⟨hn.1, by rw [h.len]; exact hn.2⟩
  unfold DM.write
  rw [if_neg (by rw [h.up]; decide)]
  by_cases hb : 256 < bs.length
  · rw [if_pos (.inr hb), if_neg (by omega)]; exact ⟨h, rfl, (List.append_nil _).symm⟩
  · rw [if_neg (by rintro (h1 | h1); exact h1 hh; exact hb h1), if_neg (by rw [h.unarmed]; decide), if_pos (by omega)]
    exact ⟨⟨h.len, h.up, by show D.armed - 1 = 0; rw [h.unarmed]⟩, rfl, rfl⟩
theorem DM.Few.write {k : Nat} (h : D.Few k) (n : Int) (bs : List Int) : (D.write n bs).2.Few (k + 1) := by
  have := h.deed ⟨1, n, none, bs, 0, 0, 0, 0⟩
  unfold DM.deed at this
  rw [if_neg (show ¬ (1 : Int) % 9 = 0 by decide), if_pos (show (1 : Int) % 9 = 1 ∨ (1 : Int) % 9 = 2 by decide)] at this
  exact this
theorem Calm.sync (h : Calm B D) {k : Nat} (hF : D.Few k) : D.sync.1 = 0 ∧ Calm B D.sync.2 ∧ D.sync.2.waits = [] ∧ D.sync.2.Few (k + 1) := by
  unfold DM.sync
  rw [if_neg (by rw [h.up]; decide), if_neg (by rw [h.unarmed]; decide)]
  have h1 := hF.tu
  have h2 := hF.cr
  exact ⟨rfl, ⟨by show (settleK _ _ _ _).length = B; rw [settleK_len]; exact h.len, h.up, by show D.armed - 1 = 0; rw [h.unarmed]⟩, rfl, ⟨by show D.turns + 1 ≤ _; omega, by show D.crashes ≤ _; omega, Nat.zero_le _⟩⟩
theorem Calm.crash (h : Calm B D) {k : Nat} (hF : D.Few k) (stay torn sectors : Int) : D.crash.1 = 0 ∧ D.crash.2.Few (k + 1) ∧ (D.crash.2.wake stay torn sectors).1 = 0 ∧ (D.crash.2.wake stay torn sectors).2.cells = settleK D.cells D.waits (fate stay torn sectors) D.waits.length ∧ (D.crash.2.wake stay torn sectors).2.waits = [] ∧ Calm B (D.crash.2.wake stay torn sectors).2 := by
  unfold DM.crash
  rw [if_neg (by rw [h.up]; decide)]
  have h1 := hF.tu
  have h2 := hF.cr
  have h3 := hF.ws
  refine ⟨rfl, ⟨by show D.turns ≤ _; omega, by show D.crashes + 1 ≤ _; omega, by show D.waits.length ≤ _; omega⟩, ?_⟩
  unfold DM.wake
  rw [if_pos rfl]
  exact ⟨rfl, rfl, rfl, ⟨by show (settleK _ _ _ _).length = B; rw [settleK_len]; exact h.len, rfl, rfl⟩⟩
theorem Calm.read (h : Calm B D) (hw : D.waits = []) {n : Nat} (hn : n < B) : D.read (n : Int) = (D.stored n, 0) ∧ D.storedI (n : Int) = D.stored n := by
  have hh : D.has (n : Int) := ⟨by omega, by rw [h.len]; omega⟩
  unfold DM.read DM.storedI
  rw [if_neg (by rw [h.up]; decide), if_pos hh, if_pos hh, Int.toNat_natCast]
  refine ⟨?_, rfl⟩
  unfold DM.seen
  rw [hw]; rfl
theorem Calm.stored (h : Calm B D) {n : Nat} (hn : n < B) : D.storedI (n : Int) = D.stored n := by
  have hh : D.has (n : Int) := ⟨by omega, by rw [h.len]; omega⟩
  unfold DM.storedI
  rw [if_pos hh, Int.toNat_natCast]
theorem DM.Ok.stored_len (h : D.Ok) {n : Nat} (hn : n < D.cells.length) : (D.stored n).length = 256 := by
  unfold DM.stored
  rw [List.getD_eq_getElem?_getD, List.getElem?_eq_getElem hn]
  exact (h.bytes n _ (List.getElem?_eq_getElem hn)).1
end
theorem statV1 {D : DM} (h : D.waits = []) : ∃ a c d e : Int, ∃ f : Bool, D.statV = .agg #[.int .i64 a, .int .i64 0, .int .i64 c, .int .i64 d, .int .i64 e, .bool f] := by
  refine ⟨(D.cells.length : Int), (hurts D.cells : Int), (D.turns : Int), (D.crashes : Int), D.down, ?_⟩
  unfold DM.statV Go.Proofs.YtgjdoiblgbdebaaDoor.statV
  rw [h]
  rfl
theorem infoRow : (Tryd.prog.info? 33).map (fun i => (i.zero, i.size, i.bytes)) = some (some (.slice none 0 0), 1, 24) := by kernel_rfl
theorem statField1 (a b c d e f : Value) (w : World) : (Instr.field 44 (.agg #[a, b, c, d, e, f]) 1).run Tryd.prog w = .ok b w := by kernel_rfl
theorem DeedsAt.bytes {w : World} {A : Option Addr} {l : List DeedV} (h : DeedsAt w A l) : ∀ d ∈ l, ∀ z ∈ d.bs, 0 ≤ z ∧ z < 256 := fun d hd => (h.1 d hd).bytes.1
theorem countP_snoc (p : Nat → Bool) (q : Nat) : (List.range (q + 1)).countP p = (List.range q).countP p + if p q = true then 1 else 0 := by
  rw [List.range_succ, List.countP_append, List.countP_singleton]
/-- What was stored, as it is gathered. -/
structure RowW (w0 w : World) (T : Nat → Prop) (v : Value) (q : Nat) (vs : List Value) (f : Nat → List Int) : Prop where
  own : w.ownsRow w0.heap.size 33 1 v q vs
  off : ∀ g, v.ownBlock = some g → ¬ T g
  each : ∀ i, i < q → ∃ u, vs[i]? = some u ∧ Held w (fun k => T k ∨ v.ownBlock = some k) u (f i)
/-- What was stored, gathered: in a row of a block of its own. -/
structure WasAt (w : World) (T : Nat → Prop) (g n : Nat) (f : Nat → List Int) : Prop where
  off : ¬ T g
  lt : g < w.heap.size
  each : ∀ i, i < n → ∃ u, w.cell? ⟨g, i, none⟩ = some u ∧ Held w T u (f i)
theorem Held.less {w : World} {T T' : Nat → Prop} {v : Value} {bs : List Int} (h : Held w T v bs) (hT : ∀ k, T' k → T k) : Held w T' v bs := by
  obtain ⟨A, e, hb, ha⟩ := h
  exact ⟨A, e, hb, fun a e => ⟨fun ht => (ha a e).1 (hT _ ht), (ha a e).2⟩⟩
theorem RowW.was {w0 w : World} {T : Nat → Prop} {v : Value} {q : Nat} {vs : List Value} {f : Nat → List Int} (h : RowW w0 w T v q vs f) (hq : 0 < q) : ∃ g cap, v = .slice (some ⟨g, 0, none⟩) q cap ∧ q ≤ cap ∧ WasAt w T g q f := by
  obtain ⟨g, cap, rfl, _, hg, hc, _⟩ := own_form h.own hq
  refine ⟨g, cap, rfl, hc, h.off g rfl, hg, fun i hi => ?_⟩
  obtain ⟨u, h1, h2⟩ := h.each i hi
  exact ⟨u, (h.own.cellAt i (by omega)).trans h1, h2.less (fun k hk => .inl hk)⟩
theorem WasAt.step {w w2 : World} {T : Nat → Prop} {g n : Nat} {f : Nat → List Int} (h : WasAt w T g n f) (hc : Chg T w w2) : WasAt w2 (grow T w w2) g n f :=
  ⟨fun ht => by
    rcases ht with ht | ht
    · exact h.off ht
    · have := h.lt; omega, Nat.lt_of_lt_of_le h.lt hc.size, fun i hi => by
    obtain ⟨u, h1, h2⟩ := h.each i hi
    exact ⟨u, (World.cell?_of_block (a := ⟨g, i, none⟩) (hc.block g h.lt h.off)).trans h1, h2.step hc⟩⟩
theorem WasAt.on {w w2 : World} {T : Nat → Prop} {g n : Nat} {f : Nat → List Int} (h : WasAt w T g n f) (hb : Below w.heap.size w w2) : WasAt w2 T g n f :=
  ⟨h.off, Nat.lt_of_lt_of_le h.lt hb.size, fun i hi => by
    obtain ⟨u, h1, h2⟩ := h.each i hi
    exact ⟨u, cell_below h1 hb, h2.on hb⟩⟩
theorem WasAt.get {w : World} {T : Nat → Prop} {g n : Nat} {f : Nat → List Int} (h : WasAt w T g n f) {i : Nat} (hi : i < n) (hl : (f i).length = 256) : ∃ A, w.cell? ⟨g, i, none⟩ = some (.slice A 256 256) ∧ BytesAt w A (f i) := by
  obtain ⟨u, h1, A, rfl, h2, _⟩ := h.each i hi
  rw [hl] at h1
  exact ⟨A, h1, h2⟩
theorem OwnT.drew {w0 w : World} {T : Nat → Prop} {h : Nat} {D : DM} (k : OwnT w0 w T h D) : OwnT w0 w.drew T h D := k.on (Below.refl _ _).drew
theorem OwnT.ok {w0 w : World} {T : Nat → Prop} {h : Nat} {D : DM} (k : OwnT w0 w T h D) : D.Ok := k.at_.ok
/-- One row more. -/
theorem RowW.snoc {w0 w w2 w4 : World} {T : Nat → Prop} {v v4 : Value} {q : Nat} {vs : List Value} {f : Nat → List Int} {u : Value} {o : Obj} (h : RowW w0 w T v q vs f) (hT : ∀ k, T k → k < w.heap.size) (hb2 : Below w.heap.size w w2) (hu : OutAt w2 w.heap.size u (f q))
    (ho : w4.ownsRow w0.heap.size 33 1 v4 (q + 1) (vs ++ [u])) (hg : (w2.alloc o).grownBy w4 v.ownBlock) (hv : v4.ownBlock = v.ownBlock ∨ v4.ownBlock = some (w2.alloc o).heap.size) : RowW w0 w4 T v4 (q + 1) (vs ++ [u]) f := by
  have hb3 := below_new w2 o
  have h23 := hb2.trans (hb3.mono hb2.size)
  have hsz := h23.size
  have hlen := h.own.1
  have key : ∀ y bs, Held (w2.alloc o) (fun k => T k ∨ v.ownBlock = some k) y bs → Held w4 (fun k => T k ∨ v4.ownBlock = some k) y bs := by
    rintro y bs ⟨A, rfl, h1, h2⟩
    refine ⟨A, rfl, h1.hold (fun a e => hg.block a.block (h2 a e).2 (fun e1 => (h2 a e).1 (.inr e1.symm))), fun a e => ⟨?_, Nat.lt_of_lt_of_le (h2 a e).2 hg.size⟩⟩
    rintro (h3 | h3)
    · exact (h2 a e).1 (.inl h3)
    · rcases hv with hv | hv
      · exact (h2 a e).1 (.inr (hv.symm.trans h3))
      · have e2 := hv.symm.trans h3
        injection e2 with e2
        have := (h2 a e).2; omega
  refine ⟨ho, fun g hg1 ht => ?_, fun i hi => ?_⟩
  · rcases hv with hv | hv
    · exact h.off g (hv.symm.trans hg1) ht
    · have e2 := hv.symm.trans hg1
      injection e2 with e2
      have := hT g ht; omega
  · rcases Nat.lt_or_ge i q with h1 | h1
    · obtain ⟨y, h2, h3⟩ := h.each i h1
      exact ⟨y, by rw [List.getElem?_append_left (by omega)]; exact h2, key _ _ ((h3.on hb2).on hb3)⟩
    · obtain rfl : i = q := by omega
      refine ⟨u, by rw [List.getElem?_append_right (by omega)]; rw [show i - vs.length = 0 by omega]; rfl, key _ _ ((hu.held (fun k hk => ?_)).on hb3)⟩
      rcases hk with hk | hk
      · exact hT k hk
      · exact (h.own.lt k hk).2
end Go.Proofs.YtgjdoiblgbdebaaDoor
