/- CodeBack: the law's walk. -/
import Derived.Test.YtoddcjpfldpnfaaDoorLaw02Awake
import Derived.Test.YtoddcjpfldpnfaaDoorLaw02Size
import Derived.Test.YtoddcjpfldpnfaaDoorLaw02BackMath
import Derived.Laws.AppendOwnNone
namespace Go.Proofs.YtoddcjpfldpnfaaDoor
open Go.RowKit
/-- The cells of one part of a row of parts. -/
theorem load_part {w : World} {b off : Nat} {ps : List PartV} (hc : ∀ i p, ps[i]? = some p → ∀ j v, p.cells[j]? = some v → w.cell? ⟨b, off + i * 9 + j, none⟩ = some v) (k : Nat) (p : PartV) (hp : ps[k]? = some p) :
    w.cell? ⟨b, off + k * 9, none⟩ = some (.int .i64 p.kind) ∧ w.cell? ⟨b, off + k * 9 + 1, none⟩ = some (.int .i64 p.width) ∧ w.cell? ⟨b, off + k * 9 + 2, none⟩ = some (.slice p.nA p.ns.length p.nc) ∧ w.cell? ⟨b, off + k * 9 + 3, none⟩ = some (.slice p.tA p.ts.length p.tc) ∧
    w.cell? ⟨b, off + k * 9 + 4, none⟩ = some (.int .i64 p.ent.index) ∧ w.cell? ⟨b, off + k * 9 + 5, none⟩ = some (.int .i64 p.ent.term) ∧ w.cell? ⟨b, off + k * 9 + 6, none⟩ = some (.int .i64 p.ent.kind) ∧ w.cell? ⟨b, off + k * 9 + 7, none⟩ = some (.slice p.bA p.ent.body.length p.bc) ∧ w.cell? ⟨b, off + k * 9 + 8, none⟩ = some (.int .i64 p.most) :=
  ⟨hc k p hp 0 _ rfl, hc k p hp 1 _ rfl, hc k p hp 2 _ rfl, hc k p hp 3 _ rfl, hc k p hp 4 _ rfl, hc k p hp 5 _ rfl, hc k p hp 6 _ rfl, hc k p hp 7 _ rfl, hc k p hp 8 _ rfl⟩
theorem flatMap_bd {k : Nat} {ns : List Int} : ∀ z ∈ ns.flatMap (le k), 0 ≤ z ∧ z < 256 := flat_bd k ns
theorem chain_bytes {w : World} {S : Nat → Prop} : ∀ {p : Option Addr} {l : List (List Int)}, Chain w S p l → ∀ zs ∈ l, ∀ z ∈ zs, 0 ≤ z ∧ z < 256
  | _, [], _ => fun zs h => by cases h
  | _, xs :: l, ⟨_, _, _, _, _, _, _, _, _, _, _, hz, h⟩ => fun zs hm => by
    rcases List.mem_cons.1 hm with rfl | hm
    · exact hz.1
    · exact chain_bytes h zs hm
theorem WrBytes {w : World} {S : Nat → Prop} {g : Nat} {b : List Int} (h : WrAt w S g (some b)) : ∀ z ∈ b, 0 ≤ z ∧ z < 256 := by
  obtain ⟨p, l, _, hc, rfl⟩ := h.cells
  intro z hz
  obtain ⟨zs, hm, hz⟩ := List.mem_flatten.1 hz
  exact chain_bytes hc zs (List.mem_reverse.1 hm) z hz
theorem part_len (p : PartV) (x : List Int) (h : partB p = some x) : x.length ≤ 15 * (1 + p.ns.length + p.ts.length + p.ent.body.length) := by
  unfold partB at h
  split at h
  · obtain ⟨ht, _, rfl⟩ := fieldsB_some h
    obtain ⟨_, h6⟩ := top_pos p.width ht
    rw [flat_len]
    have : p.width.toNat * p.ns.length ≤ 6 * p.ns.length := Nat.mul_le_mul_right _ (by omega)
    omega
  · split at h
    · unfold textB at h
      split at h
      · obtain rfl := Option.some.inj h
        rw [List.length_append, le_len]; omega
      · cases h
    · split at h
      · unfold rowB at h
        cases h1 : fieldsB 1 [(p.ns.length : Int)] with
        | none => rw [h1] at h; cases h
        | some y =>
          cases h2 : fieldsB 6 p.ns with
          | none => rw [h1, h2] at h; cases h
          | some z =>
            rw [h1, h2] at h
            obtain rfl := Option.some.inj h
            obtain ⟨_, _, rfl⟩ := fieldsB_some h1
            obtain ⟨_, _, rfl⟩ := fieldsB_some h2
            rw [List.length_append, flat_len, flat_len]
            have e1 : (1 : Int).toNat = 1 := rfl
            have e6 : (6 : Int).toNat = 6 := rfl
            simp only [List.length_cons, List.length_nil]
            rw [e1, e6]; omega
      · unfold entryB at h
        split at h
        · obtain rfl := Option.some.inj h
          simp only [List.length_append, le_len]; omega
        · cases h
theorem encTo_len (ps : List PartV) (k : Nat) (hk : k ≤ ps.length) : ∀ y, encTo ps k = some y → y.length ≤ 15 * tot (ps.take k) := by
  induction k with
  | zero => intro y h; simp [encTo] at h; subst h; simp
  | succ k ih =>
    intro y h
    obtain ⟨p, x, z, hp, hz, hx, rfl⟩ := encTo_back ps k (by omega) y h
    rw [tot_snoc ps k p hp, List.length_append]
    have := ih (by omega) z hz
    have := part_len p x hx
    omega
/-- append onto a row of the call's own, the source nil or not. -/
theorem wpList_append_bytes {w : World} {ops : Array Oper} {rest : List Oper} {o : Oper} {a : Act} {Q : Exit → Act → World → Prop} (hgd : o.guard = none) (s x : Operand)
    (ho : o.op = .call { callee := .builtin .append, args := #[s, x], argTypes := #[25, 25] }) (base : Nat) (v : Value) (n : Nat) (xs : List Int) (hs : a.eval s = v) (hown : w.ownsRow base 5 1 v n (u8s xs))
    (A : Option Addr) (zs : List Int) (m c : Nat) (hx : a.eval x = .slice A m c) (hm : zs.length = m) (hz : BytesAt w A zs) (hA : A = none → c = 0) (hb : n + m ≤ 140737488355328) (hbase : base ≤ w.heap.size)
    (h : ∀ v' w', w'.ownsRow base 5 1 v' (n + m) (u8s (xs ++ zs)) → w.grownBy w' v.ownBlock → wpList Tryd.prog ops Q rest (a.put o.dst v') w') : wpList Tryd.prog ops Q (o :: rest) a w := by
  obtain ⟨i0, hi, hz0, hz1, hz2⟩ := info_parts infoByte
  subst hm
  cases A with
  | none =>
    have hnil : zs = [] := by
      apply Classical.byContradiction
      intro hne
      obtain ⟨b, off, e⟩ := hz.some_ hne
      cases e
    subst hnil
    obtain rfl : c = 0 := hA rfl
    refine wpList_append_own_none hgd s x 25 ho base 5 i0 1 Tryd.underlying25 hi v n (u8s xs) hs hown hx ?_
    exact h v w (own_same hown (by simp) (by simp)) (World.grownBy.refl _ _)
  | some ad =>
    have hsrc : ∀ j u, (u8s zs)[j]? = some u → w.cell? (ad.add j) = some u := fun j u hj => by
      have hne : zs ≠ [] := by intro e; subst e; simp [u8s] at hj
      obtain ⟨b, off, e, hc⟩ := hz.2 hne
      obtain rfl : ad = ⟨b, off, none⟩ := by simpa using e
      simp only [u8s, List.getElem?_map] at hj
      cases hq : zs[j]? with
      | none => simp [hq] at hj
      | some z =>
        obtain rfl : Value.int .u8 z = u := by simpa [hq] using hj
        have h1 := hc j (List.getElem?_eq_some_iff.1 hq).1
        rw [List.getD_eq_getElem?_getD, hq] at h1
        have hadd : (⟨b, off, none⟩ : Addr).add j = ⟨b, off + j, none⟩ := by unfold Addr.add; split <;> simp_all
        rw [hadd]; exact h1
    refine wpList_append_own _ hgd s x 25 ho base 5 i0 (.int .u8 0) 1 1 Tryd.underlying25 hi hz0 hz1 hz2 rfl (by decide) v n (u8s xs) hs hown ad zs.length c (u8s zs) hx (by rw [u8s_len, Nat.mul_one]) hsrc (u8s_one zs) (by unfold maxLen; omega) (by omega) hbase ?_
    intro v' w' hown' hg _
    exact h v' w' (own_same hown' rfl (by rw [u8s_app])) hg
set_option maxRecDepth 100000 in
set_option maxHeartbeats 8000000 in
theorem codeBack_any (σ : Sen) (w : World) (hG : GlAt σ w) (A : Option Addr) (ps : List PartV) (c : Nat) (hp : PVAt w A ps) (hl : ps.length ≤ 140737488351232)
    (B : Option Addr) (zs : List Int) (cb : Nat) (hz : BytesAt w B zs) (hzl : zs.length ≤ 140737488351232) (hB : B = none → cb = 0) (cut : Int) :
    Calls Tryd.prog 4 #[.slice A ps.length c, .slice B zs.length cb, .int .i64 cut] w fun e w' => e = .returned (.bool true) ∧ Below w.heap.size w w' := by
  go_enter Tryd.func4, Tryd.ntmps4
  go_wp2_with fail
  refine (awake_any σ w hG.f).mono ?_
  rintro e w1 ⟨rfl, hb1⟩
  have hp1 := hp.below hb1
  go_wp2_with fail
  refine (size_any w1 A ps c hp1 hl).mono ?_
  rintro e w2 ⟨m, rfl, hm, hmt, hq⟩
  have hq : Qu w1 w2 := hq
  have hb2 : Below w.heap.size w w2 := hb1.trans (hq.below _)
  have Hmt := Lib.hid hmt
  clear hmt hp1 hq hb1
  by_cases hbig : (m : Int) + (zs.length : Int) > 3000
  · go_wp2_with fail
    go_ret
    exact ⟨rfl, hb2⟩
  · have hmt := Hmt.out (by omega)
    have htot : tot ps ≤ 3000 := by omega
    have hpl := tot_len ps
    have hzl3 : zs.length ≤ 3000 := by omega
    have Htot := Lib.hid (And.intro htot hpl)
    clear Hmt hmt
    have hbW := below_new w2 (.cells #[.pointer none, .bool false] 32)
    have hW0 := wr_new w2
    have hb3 := hb2.trans (hbW.mono hb2.size)
    go_wp2_with fail
    generalize w2.alloc (.cells #[.pointer none, .bool false] 32) = w3 at *
    go_loopg [8] ps.length (fun g i wx => ∃ (k : Nat) (S : Nat → Prop), g = ps.length - k ∧ k ≤ ps.length ∧ i = .int .i64 (k : Int) ∧ WrAt wx S w2.heap.size (encTo ps k) ∧ Below w.heap.size w wx)
    case atStart => exact ⟨0, _, rfl, by omega, rfl, hW0, hb3⟩
    case round =>
      obtain ⟨k, S, hgk, hk, rfl, hW, hbx⟩ := hrel
      have Hgk := Lib.hid hgk; clear hgk
      by_cases hlt : k < ps.length
      · have hpk : ps[k]? = some ps[k] := List.getElem?_eq_getElem hlt
        generalize ps[k] = p at hpk
        have hpx : PVAt wr A ps := hp.below hbx
        obtain ⟨bb, off, rfl, hc⟩ := hpx.2 (by intro e; simp [e] at hlt)
        have hcs := load_part hc k p hpk
        have hok := hpx.1 p (List.mem_of_getElem? hpk)
        have hpt := tot_part (List.mem_of_getElem? hpk)
        have HPut := Lib.hid (put_any wr S w2.heap.size _ hW p hok (by omega))
        have Henc := Lib.hid (encTo_succ ps k p hpk)
        have HW := Lib.hid hW
        obtain ⟨c0, c1, c2, c3, c4, c5, c6, c7, c8⟩ := hcs
        unfold PartV.cells at HPut
        clear hpk hc hpx hok hW
        go_wp2_with fail
        clear c0 c1 c2 c3 c4 c5 c6 c7 c8
        refine HPut.out.mono ?_
        rintro e w4 ⟨rfl, hP⟩
        go_wp2_with fail
        go_roundg (ps.length - (k + 1))
        case measure => rw [Hgk.out]; omega
        case rel => exact ⟨k + 1, _, rfl, by omega, by go_num, by rw [Henc.out]; exact hP.wr, below_grown hbx hP.fr hbx.size hb2.size⟩
      · obtain rfl : k = ps.length := by omega
        clear hlt
        cases hb : encTo ps ps.length with
        | none =>
          rw [hb] at hW
          clear hb
          go_wp2_with fail
          refine (wbytes_no wr S _ hW).mono ?_
          rintro e w' ⟨rfl, rfl⟩
          go_wp2_with fail
          go_ret
          exact ⟨rfl, hbx⟩
        | some b =>
          rw [hb] at hW
          have hbl := encTo_len ps ps.length (Nat.le_refl _) b hb
          rw [List.take_length] at hbl
          have Hb := Lib.hid hb
          have HW := Lib.hid hW
          clear hb hW
          go_wp2_with fail
          refine (wbytes_some wr S _ b HW.out (by omega)).mono ?_
          rintro e w4 ⟨v, rfl, hown, hb4⟩
          have hb4' := hbx.trans (hb4.mono hbx.size)
          obtain ⟨X, cap, rfl, hcap, hcm⟩ := own_slice hown
          have hXn := own_none hown
          have hbm := WrBytes HW.out
          have hX4 := own_reads hown hbm
          have hown0 := World.ownsRow_lit (base := w4.heap.size) (e := 5) (size := 1) w4 #[] 0 (Nat.le_refl _) (Nat.zero_le _) (by simp)
          have hbE := below_new w4 (.cells #[] 5)
          have hX5 := hX4.below hbE
          have hz5 := (hz.below hb4').below hbE
          have hs5 : w4.heap.size ≤ (w4.alloc (.cells #[] 5)).heap.size := hbE.size
          have HA := Lib.hid (And.intro hown (And.intro hXn (And.intro hX4 (And.intro hown0 (And.intro hX5 (And.intro hz5 hs5))))))
          clear hown hXn hX4 hown0 hX5 hz5 hs5
          go_wp2_with (at_builtin; refine wpList_append_bytes rfl (.tmp 51) (.tmp 52) rfl w4.heap.size _ 0 [] rfl HA.out.2.2.2.1 X b b.length cap rfl rfl HA.out.2.2.2.2.1 HA.out.2.1 ?c1 HA.out.2.2.2.2.2.2 ?_)
          case c1 => omega
          intro v6 w6 hown6 hg6
          have hb6 : Below w.heap.size w w6 := (hb4'.trans (hbE.mono hb4'.size)).grown hg6 (by have := hb4'.size; simp; omega) (fun k e => by have := (HA.out.2.2.2.1.lt k e).1; have := hb4'.size; omega)
          have hown6' := own_same (m := b.length) (ys := u8s b) hown6 (by omega) (by simp)
          have hs6 : w4.heap.size ≤ w6.heap.size := Nat.le_trans HA.out.2.2.2.2.2.2 hg6.size
          have hz6 := hz.below hb6
          have HA6 := Lib.hid (And.intro hown6' (And.intro hz6 (And.intro hs6 hb6)))
          have hX6 : BytesAt w6 X b := HA.out.2.2.1.below ⟨hg6.os.trans hbE.os, hg6.tape.trans hbE.tape, hg6.output.trans hbE.output, Nat.le_trans hbE.size hg6.size, fun k hk => (hg6.block k (Nat.lt_of_lt_of_le hk hbE.size) (by
            intro e
            have := (HA.out.2.2.2.1.lt k e.symm).1
            omega)).trans (hbE.block k hk)⟩
          have HX6 := Lib.hid hX6
          clear hown6 hown6' hz6 hs6 hb6 hX6
          go_wp2_with (at_builtin; refine wpList_append_bytes rfl (.tmp 53) (.tmp 54) rfl w4.heap.size v6 b.length b rfl HA6.out.1 B zs zs.length cb rfl rfl HA6.out.2.1 hB ?c1 HA6.out.2.2.1 ?_)
          case c1 => omega
          intro v7 w7 hown7 hg7
          have hb7 : Below w.heap.size w w7 := HA6.out.2.2.2.grown hg7 (by have := hb4'.size; have := HA6.out.2.2.1; omega) (fun k e => by have := (HA6.out.1.lt k e).1; have := hb4'.size; omega)
          have hX7 : BytesAt w7 X b := by
            refine HX6.out.far hg7 (fun a ea e => ?_)
            have h1 := (HA.out.1.lt a.block (by rw [ea]; rfl)).2
            have h2 := (HA6.out.1.lt a.block e.symm).1
            omega
          obtain ⟨Y, cy, rfl, hcy, _⟩ := own_slice hown7
          have hYn := own_none hown7
          have hbz : (b ++ zs).length = b.length + zs.length := List.length_append
          have hY7 := own_reads hown7 (fun z hm => by
            rcases List.mem_append.1 hm with h | h
            · exact WrBytes HW.out z h
            · exact hz.1 z h)
          have HRd := Lib.hid (read_any σ w7 (b ++ zs) Y cy hY7 (by omega) hYn)
          rw [hbz] at HRd
          have Hbz := Lib.hid hbz
          clear hbz hY7 hown7
          go_wp2_with fail
          refine HRd.out.mono ?_
          rintro e w8 ⟨gr, rfl, hgr, hR8, hb8⟩
          have hb8' := hb7.trans (hb8.mono hb7.size)
          have hX8 := hX7.below hb8
          have hE8 : Env σ w gr w8 := ⟨hG, hb8', by have := hb7.size; omega⟩
          have HX8 := Lib.hid (And.intro hX8 hR8)
          clear hX7 hR8
          go_wp2_with fail
          go_loopg [12] ps.length (fun g i wx => ∃ (k : Nat) (y : List Int), g = ps.length - k ∧ k ≤ ps.length ∧ i = .int .i64 (k : Int) ∧ Hid (encTo ps k = some y) ∧ RdAt σ wx gr (b ++ zs) (.ok y.length) ∧ w8.grownBy wx (some gr))
          case atStart => exact ⟨0, [], rfl, by omega, rfl, Lib.hid (by simp [encTo]), HX8.out.2, World.grownBy.refl _ _⟩
          case round =>
            obtain ⟨k, y, hgk, hk2, rfl, hy, hRk, hgr8⟩ := hrel
            have Hgk2 := Lib.hid hgk; clear hgk
            have hEk := hE8.grown hgr8
            by_cases hlt : k < ps.length
            · have hpk : ps[k]? = some ps[k] := List.getElem?_eq_getElem hlt
              generalize ps[k] = p at hpk
              obtain ⟨y', x, r, hy', hx, hbe, hnx⟩ := enc_part ps b Hb.out k p hpk
              obtain rfl : y = y' := Option.some.inj (hy.out.symm.trans hy')
              have hpx : PVAt wr A ps := hp.below hEk.bl
              obtain ⟨bb, off, rfl, hc⟩ := hpx.2 (by intro e; simp [e] at hlt)
              obtain ⟨c0, c1, c2, c3, c4, c5, c6, c7, c8⟩ := load_part hc k p hpk
              have hok0 := hp.1 p (List.mem_of_getElem? hpk)
              have hgt : gotR (b ++ zs) p (.ok y.length) = (true, .ok (y.length + x.length)) := by
                have hm := part_meets p x hx (b ++ zs) (b ++ zs).length y.length (Nat.le_refl _) (by rw [hbe]; simp only [List.length_append]; omega) (by
                  rw [hbe, List.append_assoc]
                  exact seg_mid y x (r ++ zs))
                rw [List.take_length] at hm
                exact hm.all (by rw [hbe]; simp only [List.length_append]; omega)
              have HGot := Lib.hid (got_any σ w wr gr (b ++ zs) _ p hRk hEk (by rw [Hbz.out]; omega) hok0)
              have Hgt := Lib.hid hgt
              have Hnx := Lib.hid hnx
              unfold PartV.cells at HGot
              clear hpk hy' hx hbe hnx hpx hc hok0 hgt hRk hEk
              go_wp2_with fail
              clear c0 c1 c2 c3 c4 c5 c6 c7 c8
              refine HGot.out.mono ?_
              rintro e w9 ⟨rfl, hG9⟩
              rw [Hgt.out] at hG9 ⊢
              go_wp2_with fail
              go_roundg (ps.length - (k + 1))
              case measure => rw [Hgk2.out]; omega
              case rel => exact ⟨k + 1, y ++ x, rfl, by omega, by go_num, Hnx, by rw [List.length_append]; exact hG9.rd, hgr8.trans hG9.fr⟩
            · obtain rfl : k = ps.length := by omega
              obtain rfl : y = b := Option.some.inj (hy.out.symm.trans Hb.out)
              clear hlt
              go_wp2_with fail
              refine (rerr_any σ w wr gr _ _ hRk hEk).mono ?_
              rintro e w9 ⟨rfl, hb9⟩
              have hR9 := hRk.below hb9
              have hE9 := hEk.below hb9
              unfold errPos errNo
              go_wp2_with fail
              refine (rleft_any σ w9 gr _ _ hR9).mono ?_
              rintro e w10 ⟨rfl, hq10⟩
              have hq10 : Qu w9 w10 := hq10
              have hE10 := hE9.below (hq10.below _)
              unfold leftR
              simp only
              rw [Hbz.out, show ((y.length + zs.length : Nat) : Int) - (y.length : Int) = (zs.length : Int) by omega]
              have hne : ((zs.length : Int) != (zs.length : Int)) = false := by simp
              have hX10 : BytesAt w10 X y := (((HX8.out.1.far hgr8 (fun a ea => by
                have h1 := (HA.out.1.lt a.block (by rw [ea]; rfl)).2
                have h2 := HA6.out.2.2.1
                have h3 := hg7.size
                simp
                omega)).below hb9).below (hq10.below _))
              have HX10 := Lib.hid hX10
              clear hX10 hRk hEk hR9 hE9
              by_cases hy0 : y.length = 0
              · have hyz : ((y.length : Int) == 0) = true := by rw [hy0]; rfl
                have HE10 := Lib.hid hE10
                clear hE10
                go_wp2_with fail
                go_ret
                exact ⟨rfl, HE10.out.bl⟩
              · have hyz : ((y.length : Int) == 0) = false := beq_eq_false_iff_ne.2 (by omega)
                have HE10 := Lib.hid hE10
                clear hE10
                go_wp2_with fail
                refine (pick_any cut y.length _ (by omega) (by omega)).mono ?_
                rintro e w' ⟨rfl, rfl⟩
                have hc0 := Int.emod_nonneg cut (show (y.length : Int) ≠ 0 by omega)
                have hc1 := Int.emod_lt_of_pos cut (show (0 : Int) < (y.length : Int) by omega)
                obtain ⟨ct, hct⟩ := Int.eq_ofNat_of_zero_le hc0
                rw [hct] at hc0 hc1 ⊢
                have q1 : (0 : Int) ≤ (ct : Int) := by omega
                have q2 : (ct : Int) ≤ (cap : Int) := by omega
                have hctl : (y.take ct).length = ct := by rw [List.length_take]; omega
                have HRd2 := Lib.hid (read_any σ w10 (y.take ct) X cap (front_reads HX10.out) (by rw [hctl]; omega) HA.out.2.1)
                rw [hctl] at HRd2
                have Hctl := Lib.hid hctl
                have Hct := Lib.hid (show ct < y.length by omega)
                clear hct hc0 hc1 hctl
                go_wp2_with fail
                refine HRd2.out.mono ?_
                rintro e w11 ⟨gs, rfl, hgs, hR11, hb11⟩
                have hb11' := HE10.out.bl.trans (hb11.mono HE10.out.bl.size)
                have hE11 : Env σ w gs w11 := ⟨hG, hb11', by have := HE10.out.bl.size; omega⟩
                have HR11 := Lib.hid hR11
                clear hR11
                go_wp2_with fail
                go_loopg [16] ps.length (fun g i wx => ∃ (k : Nat) (sk : RSt), g = ps.length - k ∧ k ≤ ps.length ∧ i = .int .i64 (k : Int) ∧ RdAt σ wx gs (y.take ct) sk ∧ w11.grownBy wx (some gs) ∧ Hid ((∃ z, encTo ps k = some z ∧ sk = .ok z.length ∧ z.length ≤ ct) ∨ ∃ q, sk = .bad q false))
                case atStart => exact ⟨0, .ok 0, rfl, by omega, rfl, HR11.out, World.grownBy.refl _ _, Lib.hid (.inl ⟨[], by simp [encTo], rfl, Nat.zero_le _⟩)⟩
                case round =>
                  obtain ⟨k, sk, hgk, hk3, rfl, hRk, hgr11, hsk⟩ := hrel
                  have Hgk3 := Lib.hid hgk; clear hgk
                  have hEk := hE11.grown hgr11
                  by_cases hlt : k < ps.length
                  · have hpk : ps[k]? = some ps[k] := List.getElem?_eq_getElem hlt
                    generalize ps[k] = p at hpk
                    obtain ⟨z', x, r, hz', hx, hbe, hnx⟩ := enc_part ps y Hb.out k p hpk
                    have hpx : PVAt wr A ps := hp.below hEk.bl
                    obtain ⟨bb, off, rfl, hc⟩ := hpx.2 (by intro e; simp [e] at hlt)
                    obtain ⟨c0, c1, c2, c3, c4, c5, c6, c7, c8⟩ := load_part hc k p hpk
                    have hok0 := hp.1 p (List.mem_of_getElem? hpk)
                    have hgt : (∃ z, encTo ps (k + 1) = some z ∧ (gotR (y.take ct) p sk).2 = .ok z.length ∧ z.length ≤ ct) ∨ ∃ q, (gotR (y.take ct) p sk).2 = .bad q false := by
                      rcases hsk.out with ⟨z, hze, rfl, hzl⟩ | ⟨q, rfl⟩
                      · obtain rfl : z = z' := Option.some.inj (hze.symm.trans hz')
                        have hm := part_meets p x hx y ct z.length (Nat.le_of_lt Hct.out) hzl (by rw [hbe]; exact seg_mid z x r)
                        by_cases hfit : z.length + x.length ≤ ct
                        · exact .inl ⟨z ++ x, hnx, by rw [hm.all hfit, List.length_append], by rw [List.length_append]; exact hfit⟩
                        · exact .inr (hm.cut (by omega))
                      · exact .inr ⟨q, gotR_bad _ _ _ _⟩
                    have HGot := Lib.hid (got_any σ w wr gs (y.take ct) _ p hRk hEk (by have := Hct.out; rw [Hctl.out]; omega) hok0)
                    have Hgt := Lib.hid hgt
                    unfold PartV.cells at HGot
                    clear hpk hz' hx hbe hnx hpx hc hok0 hgt hRk hEk
                    go_wp2_with fail
                    clear c0 c1 c2 c3 c4 c5 c6 c7 c8
                    refine HGot.out.mono ?_
                    rintro e w12 ⟨rfl, hG12⟩
                    go_wp2_with fail
                    go_roundg (ps.length - (k + 1))
                    case measure => rw [Hgk3.out]; omega
                    case rel => exact ⟨k + 1, _, rfl, by omega, by go_num, hG12.rd, hgr11.trans hG12.fr, Hgt⟩
                  · obtain rfl : k = ps.length := by omega
                    obtain ⟨q, rfl⟩ : ∃ q, sk = .bad q false := by
                      rcases hsk.out with ⟨z, hze, rfl, hzl⟩ | h
                      · obtain rfl : z = y := Option.some.inj (hze.symm.trans Hb.out)
                        have := Hct.out; omega
                      · exact h
                    clear hlt
                    go_wp2_with fail
                    refine (rerr_any σ w wr gs _ _ hRk hEk).mono ?_
                    rintro e w12 ⟨rfl, hb12⟩
                    have hR12 := hRk.below hb12
                    have hE12 := hEk.below hb12
                    unfold errPos errNo errCode
                    go_wp2_with fail
                    refine (rleft_any σ w12 gs _ _ hR12).mono ?_
                    rintro e w13 ⟨rfl, hq13⟩
                    have hq13 : Qu w12 w13 := hq13
                    have hR13 := hR12.qu hq13
                    have hE13 := hE12.below (hq13.below _)
                    unfold leftR
                    go_wp2_with fail
                    refine (rfield_any σ w w13 gs _ _ 1 hR13 hE13.f (by have := Hct.out; rw [Hctl.out]; omega)).mono ?_
                    rintro e w14 ⟨rfl, hG14⟩
                    rw [fieldR_absorb] at hG14 ⊢
                    go_wp2_with fail
                    go_ret
                    exact ⟨rfl, (hE13.grown hG14.fr).bl⟩
end Go.Proofs.YtoddcjpfldpnfaaDoor
