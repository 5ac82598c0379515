/- The statements' own helpers: are two rows of numbers, two entries the same. -/
import Derived.Test.YtifoiiaddcgngaaGreatDoorKitInts
import Derived.Test.YtifoiiaddcgngaaGreatDoorCodeMathB
namespace Go.Proofs.YtifoiiaddcgngaaGreatDoor
open Go.RowKit
set_option maxRecDepth 100000 in
set_option maxHeartbeats 1000000 in
theorem sameInts_any (xs ys : List Int) (A B : Option Addr) (ca cb : Nat) (w : World) (ha : IntsAt w A xs) (hb : IntsAt w B ys) (_hx : xs.length ≤ 9223372036854775807) :
    Calls Tryz.prog 35 #[.slice A xs.length ca, .slice B ys.length cb] w fun e w' => e = .returned (.bool (sameB xs ys)) ∧ ∃ n, w' = w.drewN n := by
  by_cases hl : xs.length = ys.length
  · have hne : ((xs.length : Int) != (ys.length : Int)) = false := by rw [hl]; simp
    have Hl := Lib.hid hl; clear hl
    go_enter Tryz.func35, Tryz.ntmps35
    go_wp2_with fail
    go_loopg [5] xs.length (fun g i wx => (∃ nq, wx = w.drewN nq) ∧ ∃ k : Nat, k ≤ xs.length ∧ g = xs.length - k ∧ i = .int .i64 (k : Int) ∧ Hid (xs.take k = ys.take k))
    case atStart => exact ⟨⟨0, rfl⟩, 0, by omega, rfl, rfl, Lib.hid rfl⟩
    case round =>
      obtain ⟨⟨nq, rfl⟩, k, hk, hg, rfl, hp⟩ := hrel
      have Hg := Lib.hid hg; clear hg
      by_cases hlt : k < xs.length
      · have hly : k < ys.length := by have := Hl.out; omega
        obtain ⟨b1, o1, rfl⟩ := ha.some_ (by intro e; simp [e] at hlt)
        obtain ⟨b2, o2, rfl⟩ := hb.some_ (by intro e; simp [e] at hly)
        have c1 := ha.one k hlt
        have c2 := hb.one k hly
        have Hs : ∀ x y, xs.getD k 0 = x → ys.getD k 0 = y → Hid (((x != y) = true → sameB xs ys = false) ∧ ((x != y) = false → xs.take (k + 1) = ys.take (k + 1))) := fun x y h1 h2 =>
          Lib.hid ⟨fun h => same_not xs ys k hlt hly (by rw [h1, h2]; exact h), fun h => same_next xs ys k hlt hly hp.out (by rw [h1, h2]; exact h)⟩
        generalize xs.getD k 0 = x at c1 Hs
        generalize ys.getD k 0 = y at c2 Hs
        have Hs := Hs x y rfl rfl
        go_wp2_with fail
        go_quiet (fail)
        go_wp2_with fail
        · go_ret
          exact ⟨ret_bool (Hs.out.1 (by assumption)).symm, _, World.drewN_drewN _ _ _⟩
        · go_roundg (xs.length - (k + 1))
          case measure => rw [Hg.out]; omega
          case rel => exact ⟨⟨_, rfl⟩, k + 1, by omega, rfl, by go_num, Lib.hid (Hs.out.2 (by assumption))⟩
      · have hkk : k = xs.length := by omega
        have Hk := Lib.hid hkk; clear hkk
        go_wp2_with fail
        go_ret
        exact ⟨ret_bool (same_all xs ys k hp.out Hk.out Hl.out).symm, _, rfl⟩
  · have hne : ((xs.length : Int) != (ys.length : Int)) = true := by simp; omega
    have Hl := Lib.hid hl; clear hl
    go_enter Tryz.func35, Tryz.ntmps35
    go_wp2_with fail
    go_ret
    exact ⟨ret_bool (same_len xs ys Hl.out).symm, 0, rfl⟩
def sameE (a b : Ent) : Bool := decide (a.index = b.index ∧ a.term = b.term ∧ a.kind = b.kind ∧ a.body = b.body)
def entV (e : Ent) (A : Option Addr) (c : Nat) : Value := .agg #[.int .i64 e.index, .int .i64 e.term, .int .i64 e.kind, .slice A e.body.length c]
set_option maxRecDepth 100000 in
set_option maxHeartbeats 1000000 in
theorem sameEntry_any (a b : Ent) (A B : Option Addr) (ca cb : Nat) (w : World) (ha : BytesAt w A a.body) (hb : BytesAt w B b.body) (hl : a.body.length ≤ 9223372036854775807) :
    Calls Tryz.prog 38 #[entV a A ca, entV b B cb] w fun e w' => e = .returned (.bool (sameE a b)) ∧ Below w.heap.size w w' := by
  obtain ⟨x, t, k, zs⟩ := a
  obtain ⟨x', t', k', zs'⟩ := b
  unfold entV
  simp only at ha hb hl ⊢
  have hb1 := below_new w (.cells #[.int .i64 x, .int .i64 t, .int .i64 k, .slice A zs.length ca] 28)
  have hb2 := hb1.alloc (by simp) (.cells #[.int .i64 x', .int .i64 t', .int .i64 k', .slice B zs'.length cb] 28)
  have HS := Lib.hid (sameBytes_any zs zs' A B ca cb _ (ha.below hb2) (hb.below hb2) hl)
  have Hb2 := Lib.hid hb2
  clear hb1 hb2 ha hb
  have hE : sameE ⟨x, t, k, zs⟩ ⟨x', t', k', zs'⟩ = (decide (x = x') && (decide (t = t') && (decide (k = k') && sameB zs zs'))) := by
    unfold sameE sameB; simp [Bool.decide_and]
  have HE := Lib.hid hE
  clear hE
  by_cases h1 : x = x'
  · by_cases h2 : t = t'
    · by_cases h3 : k = k'
      · subst h1 h2 h3
        go_enter Tryz.func38, Tryz.ntmps38
        go_wp2_with fail
        refine HS.out.mono ?_
        rintro e w' ⟨rfl, n, rfl⟩
        go_wp2_with fail
        go_ret
        exact ⟨by rw [HE.out]; simp, Below.drewN Hb2.out n⟩
      · have q3 : (k == k') = false := by simpa using h3
        subst h1 h2
        clear h3
        go_enter Tryz.func38, Tryz.ntmps38
        go_wp2_with fail
        go_ret
        exact ⟨by rw [HE.out]; simp at q3; simp [q3], Hb2.out⟩
    · have q2 : (t == t') = false := by simpa using h2
      subst h1
      clear h2
      go_enter Tryz.func38, Tryz.ntmps38
      go_wp2_with fail
      go_ret
      exact ⟨by rw [HE.out]; simp at q2; simp [q2], Hb2.out⟩
  · have q1 : (x == x') = false := by simpa using h1
    clear h1
    go_enter Tryz.func38, Tryz.ntmps38
    go_wp2_with fail
    go_ret
    exact ⟨by rw [HE.out]; simp at q1; simp [q1], Hb2.out⟩
end Go.Proofs.YtifoiiaddcgngaaGreatDoor
