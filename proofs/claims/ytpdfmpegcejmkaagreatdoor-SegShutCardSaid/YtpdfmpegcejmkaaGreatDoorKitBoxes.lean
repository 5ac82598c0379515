/- seg: a writer's unit; a record's. -/
/- A row of new blocks, one behind the other. -/
import Derived.Test.YtpdfmpegcejmkaaGreatDoorKitAppendL
import Derived.Test.YtpdfmpegcejmkaaGreatDoorSegOpened
import Derived.Deep.RegionWith
import Derived.Test.YtpdfmpegcejmkaaGreatDoorKitBlock
namespace Go.Proofs.YtpdfmpegcejmkaaGreatDoor
open Go.RowKit
set_option maxRecDepth 100000 in
set_option maxHeartbeats 2000000 in
theorem gwunit_any (lo g : Nat) (w : World) (bs : List Int) (h : WrN lo w g bs) (hl : bs.length ≤ 1000000) (k n : Int) :
    Calls Tryz.prog 77 #[.pointer (some ⟨g, 0, none⟩), .int .i64 k, .int .i64 n] w fun e w' => ∃ v, e = .returned (.agg #[.int .i64 k, .int .i64 n, v]) ∧ w'.ownsRow (w.heap.size + 1) 5 1 v bs.length (u8s bs) ∧ Below w.heap.size w w' := by
  have hb := below_new w (.cells #[.int .i64 0, .int .i64 0, .slice none 0 0] 34)
  have HB := Lib.hid (And.intro hb (BlockIs.made w 34 #[.int .i64 0, .int .i64 0, .slice none 0 0]))
  have HY := Lib.hid ((h.below hb).bytes hl)
  have hs : (w.alloc (.cells #[.int .i64 0, .int .i64 0, .slice none 0 0] 34)).heap.size = w.heap.size + 1 := by simp
  have HS := Lib.hid hs
  clear h hl hb hs
  go_enter Tryz.func77, Tryz.ntmps77
  go_wp2_with fail
  refine HY.out.mono ?_
  rintro e w2 ⟨v, rfl, ho, b2⟩
  obtain ⟨X, cap, rfl, _, _⟩ := own_slice ho
  have B2 := HB.out.2.below b2 HB.out.2.lt
  have Z := Lib.hid (B2.put3 (.int .i64 k) (.int .i64 n) (.slice X bs.length cap))
  have G2 := Lib.hid (HB.out.1.trans (b2.mono HB.out.1.size))
  have HO := Lib.hid ho
  obtain ⟨c0, c1, c2, f0, f1, f2⟩ := B2.three
  clear b2 B2 HY ho
  go_wp2_with fail
  clear c0 c1 c2 f0 f1 f2
  obtain ⟨z0, z1, z2, _⟩ := Z.out.1.three
  refine bodyPost_ret (v := .agg #[.int .i64 k, .int .i64 n, .slice X bs.length cap]) (by simp [results, Tryz.results77, go_sem, z0, z1, z2]) rfl ⟨_, rfl, ?_, below_grown G2.out Z.out.2 G2.out.size (Nat.le_refl _)⟩
  have h2 := HO.out
  rw [HS.out] at h2
  exact h2.kept Z.out.2 (.inr (fun e => by have := (h2.lt _ e).1; omega))
theorem lack_err {σ : SenQ} {w : World} (hG : GlQ σ w) {e : Ent} {a : IdentI} (h : (recordR a e).2 ≠ 0) : GErr σ (recordR a e).2 (σ.lack e a) := by
  unfold recordR SenQ.lack at *
  by_cases hr : rightB e = false
  · rw [if_pos hr, if_pos hr]
    exact hG.err_en
  · rw [if_neg hr] at h ⊢
    rw [if_neg hr]
    by_cases ha : aheadI a e.index
    · rw [if_neg (fun x => x ha)] at h
      exact absurd rfl h
    · rw [if_pos ha, if_neg ha]
      exact hG.err_od
theorem lack_none {σ : SenQ} {e : Ent} {a : IdentI} (h : (recordR a e).2 = 0) : σ.lack e a = .nilIface := by
  obtain ⟨h1, h2⟩ := record_zero.1 h
  unfold SenQ.lack
  rw [if_neg (by rw [h1]; decide), if_pos h2]
/-- A record's box, and the box of its unit. -/
structure RuG (W w : World) (e : Ent) (A : Option Addr) (c : Nat) (a : IdentI) : Prop where
  r : BlockIs w W.heap.size 95 #[.int .i64 e.index, .int .i64 e.term, .int .i64 e.kind, .slice A e.body.length c, .int .i64 a.idx, .int .i64 a.term, .int .i64 a.kind]
  u : BlockIs w (W.heap.size + 1) 34 #[.int .i64 0, .int .i64 0, .slice none 0 0]
  bl : Below W.heap.size W w
  sz : W.heap.size + 2 ≤ w.heap.size
section
variable {W w w' : World} {e : Ent} {A : Option Addr} {c : Nat} {a : IdentI}
theorem RuG.on (h : RuG W w e A c a) (hb : Below (W.heap.size + 2) w w') : RuG W w' e A c a := ⟨h.r.below hb (by omega), h.u.below hb (by omega), h.bl.trans (hb.mono (by omega)), Nat.le_trans h.sz hb.size⟩
theorem RuG.grown {q : Nat} (h : RuG W w e A c a) (hg : w.grownBy w' (some q)) (hq : W.heap.size + 2 ≤ q) : RuG W w' e A c a := ⟨h.r.kept hg (fun x => by have := Option.some.inj x; omega), h.u.kept hg (fun x => by have := Option.some.inj x; omega), below_grown h.bl hg h.bl.size (by omega), Nat.le_trans h.sz hg.size⟩
theorem RuG.made (W : World) (e : Ent) (A : Option Addr) (c : Nat) (a : IdentI) : RuG W ((W.alloc (.cells #[.int .i64 e.index, .int .i64 e.term, .int .i64 e.kind, .slice A e.body.length c, .int .i64 a.idx, .int .i64 a.term, .int .i64 a.kind] 95)).alloc (.cells #[.int .i64 0, .int .i64 0, .slice none 0 0] 34)) e A c a := by
  have b1 := below_new W (.cells #[.int .i64 e.index, .int .i64 e.term, .int .i64 e.kind, .slice A e.body.length c, .int .i64 a.idx, .int .i64 a.term, .int .i64 a.kind] 95)
  have B1 := BlockIs.made W 95 #[.int .i64 e.index, .int .i64 e.term, .int .i64 e.kind, .slice A e.body.length c, .int .i64 a.idx, .int .i64 a.term, .int .i64 a.kind]
  have s1 := World.size_alloc W (.cells #[.int .i64 e.index, .int .i64 e.term, .int .i64 e.kind, .slice A e.body.length c, .int .i64 a.idx, .int .i64 a.term, .int .i64 a.kind] 95)
  generalize W.alloc (.cells #[.int .i64 e.index, .int .i64 e.term, .int .i64 e.kind, .slice A e.body.length c, .int .i64 a.idx, .int .i64 a.term, .int .i64 a.kind] 95) = w1 at *
  have b2 := below_new w1 (.cells #[.int .i64 0, .int .i64 0, .slice none 0 0] 34)
  have B2 := BlockIs.made w1 34 #[.int .i64 0, .int .i64 0, .slice none 0 0]
  have s2 := World.size_alloc w1 (.cells #[.int .i64 0, .int .i64 0, .slice none 0 0] 34)
  rw [s1] at B2 s2
  exact ⟨B1.below b2 (by omega), B2, b1.trans (b2.mono (by omega)), by omega⟩
theorem RuG.cells (h : RuG W w e A c a) : w.cell? ⟨W.heap.size, 0, none⟩ = some (.int .i64 e.index) ∧ w.cell? ⟨W.heap.size, 1, none⟩ = some (.int .i64 e.term) ∧ w.cell? ⟨W.heap.size, 2, none⟩ = some (.int .i64 e.kind) ∧ w.cell? ⟨W.heap.size, 3, none⟩ = some (.slice A e.body.length c) ∧ w.cell? ⟨W.heap.size, 4, none⟩ = some (.int .i64 a.idx) ∧ w.cell? ⟨W.heap.size, 5, none⟩ = some (.int .i64 a.term) ∧ w.cell? ⟨W.heap.size, 6, none⟩ = some (.int .i64 a.kind) :=
  ⟨h.r.cell 0, h.r.cell 1, h.r.cell 2, h.r.cell 3, h.r.cell 4, h.r.cell 5, h.r.cell 6⟩
end
set_option maxRecDepth 100000 in
set_option maxHeartbeats 4000000 in
theorem gunit_bad (σ : SenQ) (W : World) (hG : GlQ σ W) (e : Ent) (A : Option Addr) (c : Nat) (hl : e.body.length ≤ 9223372036854775807) (a : IdentI) (hbad : (recordR a e).2 ≠ 0) :
    Calls Tryz.prog 62 #[recV e A c a] W fun r w' => Faults σ (recordR a e).2 r ∧ Below W.heap.size W w' := by
  have M0 := Lib.hid (RuG.made W e A c a)
  have HM := Lib.hid (fun n w => gmust_err σ n _ _ (lack_err hG hbad) w)
  have HE := Lib.hid (lack_err hG hbad)
  have HL := Lib.hid (fun w (hb : Below W.heap.size W w) => rlack_any σ w (hG.below hb) e A c hl a)
  obtain ⟨v, hv⟩ : ∃ v, σ.lack e a = v := ⟨_, rfl⟩
  rw [hv] at HM HE HL
  clear hv hG hl hbad
  unfold recV at *
  go_enter Tryz.func62, Tryz.ntmps62
  go_wp2_with fail
  obtain ⟨w0, hw0⟩ : ∃ w0, ((W.alloc (.cells #[.int .i64 e.index, .int .i64 e.term, .int .i64 e.kind, .slice A e.body.length c, .int .i64 a.idx, .int .i64 a.term, .int .i64 a.kind] 95)).alloc (.cells #[.int .i64 0, .int .i64 0, .slice none 0 0] 34)) = w0 := ⟨_, rfl⟩
  rw [hw0] at M0 ⊢
  have HL0 := Lib.hid (HL.out w0.drew (M0.out.bl.trans ((Below.refl _ _).drew)))
  obtain ⟨c0, c1, c2, c3, c4, c5, c6⟩ := M0.out.cells
  have HS := Lib.hid (fun w1 (b : Below w0.drew.heap.size w0.drew w1) => (M0.out.on ((Below.refl _ _).drew.trans (b.mono M0.out.sz))).cells)
  have HBl := Lib.hid (fun w1 (b : Below w0.drew.heap.size w0.drew w1) => (M0.out.on ((Below.refl _ _).drew.trans (b.mono M0.out.sz))).bl)
  clear hw0 HL
  go_region_with (first
    | (go_at_call 94; refine HL0.out.mono ?_; rintro r w1 ⟨rfl, b1⟩; have hs1 := HS.out _ b1; obtain ⟨d0, d1, d2, d3, d4, d5, d6⟩ := hs1; have hb1 := HBl.out _ b1)
    | (go_at_call 72; refine (HM.out _ _).mono ?_; rintro r w2 ⟨rfl, rfl⟩; refine have _hx : wpAny Tryz.prog .any #[] (fun _ _ _ => True) 0 #[] { tmps := #[], defers := [] } W := ?_; ⟨rfl, ⟨_, _, rfl, HE.out⟩, hb1⟩))
  all_goals trivial
theorem fits_of {e : Ent} {a : IdentI} (h : rightB e = true) (ha : aheadI a e.index) : a.fits ∧ e.ident.fits := by
  obtain ⟨h1, h2, h3, h4⟩ := ent_right h
  obtain ⟨k1, k2, k3⟩ := known_bd ha.1
  exact ⟨⟨k2, by omega⟩, ⟨h3, by show 0 ≤ e.kind ∧ e.kind ≤ 255; omega⟩⟩
set_option maxRecDepth 100000 in
set_option maxHeartbeats 8000000 in
theorem gunit_good (σ : SenQ) (W : World) (hG : GlQ σ W) (e : Ent) (A : Option Addr) (c : Nat) (a : IdentI) (hz : BytesAt W A e.body) (hA : A = none → c = 0) (hr : rightB e = true) (ha : aheadI a e.index) :
    Calls Tryz.prog 62 #[recV e A c a] W fun r w' => ∃ v, r = .returned (.agg #[.int .i64 5, .int .i64 e.index, v]) ∧ w'.ownsRow (W.heap.size + 2) 5 1 v (14 + e.body.length) (u8s (recBody a e)) ∧ Below W.heap.size W w' := by
  obtain ⟨h1, h2, h3, h4⟩ := ent_right hr
  obtain ⟨fa, fe⟩ := fits_of hr ha
  have M0 := Lib.hid (RuG.made W e A c a)
  have HL := Lib.hid (fun w (hb : Below W.heap.size W w) => rlack_any σ w (hG.below hb) e A c (by omega) a)
  rw [show σ.lack e a = .nilIface from lack_none (record_zero.2 ⟨hr, ha⟩)] at HL
  have HI := Lib.hid (fun w => rident_any w e A c a)
  have HB := Lib.hid (fun lo g q w h hlo hq hqg => gidents2 lo g q w [] h hlo a e.ident fa fe hq hqg)
  have HU := Lib.hid (fun lo g w bs (h : WrN lo w g bs) (hl : bs.length = 14) => gwunit_any lo g w bs h (by omega) 5 e.index)
  have HZ := Lib.hid (And.intro hz (And.intro hA h4))
  have HR := Lib.hid (show ([] ++ (le 6 a.term ++ (le 1 a.kind ++ (le 6 e.ident.term ++ le 1 e.ident.kind)))) ++ e.body = recBody a e by unfold recBody Ent.ident; simp [List.append_assoc])
  have HN := Lib.hid (show ([] ++ (le 6 a.term ++ (le 1 a.kind ++ (le 6 e.ident.term ++ le 1 e.ident.kind)))).length = 14 by simp only [List.length_append, le_len]; decide)
  clear hG hz hA hr ha h1 h2 h3 h4 fa fe
  unfold recV IdentI.val Ent.ident at *
  simp only at HI HB HR HN
  generalize ([] ++ (le 6 a.term ++ (le 1 a.kind ++ (le 6 e.term ++ le 1 e.kind)))) = xs at *
  go_enter Tryz.func62, Tryz.ntmps62
  go_wp2_with fail
  obtain ⟨w0, hw0⟩ : ∃ w0, ((W.alloc (.cells #[.int .i64 e.index, .int .i64 e.term, .int .i64 e.kind, .slice A e.body.length c, .int .i64 a.idx, .int .i64 a.term, .int .i64 a.kind] 95)).alloc (.cells #[.int .i64 0, .int .i64 0, .slice none 0 0] 34)) = w0 := ⟨_, rfl⟩
  rw [hw0] at M0 ⊢
  have HL0 := Lib.hid (HL.out w0.drew (M0.out.bl.trans ((Below.refl _ _).drew)))
  obtain ⟨c0, c1, c2, c3, c4, c5, c6⟩ := M0.out.cells
  have HS := Lib.hid (fun w1 (b : Below w0.drew.heap.size w0.drew w1) => (M0.out.on ((Below.refl _ _).drew.trans (b.mono M0.out.sz))))
  clear hw0 HL
  go_region_held3 (fun w' => w'.cell? ⟨W.heap.size, 0, none⟩ = some (.int .i64 e.index) ∧ w'.cell? ⟨W.heap.size, 1, none⟩ = some (.int .i64 e.term) ∧ w'.cell? ⟨W.heap.size, 2, none⟩ = some (.int .i64 e.kind) ∧ w'.cell? ⟨W.heap.size, 3, none⟩ = some (.slice A e.body.length c) ∧ w'.cell? ⟨W.heap.size, 4, none⟩ = some (.int .i64 a.idx) ∧ w'.cell? ⟨W.heap.size, 5, none⟩ = some (.int .i64 a.term) ∧ w'.cell? ⟨W.heap.size, 6, none⟩ = some (.int .i64 a.kind)) (first | exact ⟨c0, c1, c2, c3, c4, c5, c6⟩ | exact hs1) (first
    | (go_at_call 94; refine HL0.out.mono ?_; rintro r w1 ⟨rfl, b1⟩; have hm1 := HS.out _ b1; have hs1 := hm1.cells)
    | (go_at_call 72; refine (gmust_nil _ _).mono ?_; rintro r w2 ⟨rfl, rfl⟩))
  rename_i hHeld
  clear hHeld c0 c1 c2 c3 c4 c5 c6 b1 hs1
  have M1 := Lib.hid hm1
  have N1 := Lib.hid (WrN.new w1 116)
  have hbw := below_new w1 (.cells #[.pointer none, .bool false] 116)
  have M2 := Lib.hid (hm1.on (hbw.mono hm1.sz))
  have HS2 := Lib.hid (show (w1.alloc (.cells #[.pointer none, .bool false] 116)).heap.size = w1.heap.size + 1 by simp)
  clear hm1 HS hbw
  go_wp2_with fail
  obtain ⟨w2, hw2⟩ : ∃ w2, w1.alloc (.cells #[.pointer none, .bool false] 116) = w2 := ⟨_, rfl⟩
  rw [hw2] at N1 M2 HS2 ⊢
  clear hw2
  have L1 := Lib.hid M1.out.sz
  have D2 := Lib.hid (fun w3 (b : Below w2.drew.heap.size w2.drew w3) => (show Below w2.heap.size w2 w3 from (Below.refl _ _).drew.trans b))
  have K3 := Lib.hid (fun w3 (b : Below w2.drew.heap.size w2.drew w3) => M2.out.on ((D2.out _ b).mono M2.out.sz))
  have K4 := Lib.hid (fun w3 (b : Below w2.drew.heap.size w2.drew w3) => (K3.out _ b).on ((below_new w3 (.cells #[.int .i64 a.idx, .int .i64 a.term, .int .i64 a.kind, .int .i64 e.index, .int .i64 e.term, .int .i64 e.kind] 26)).mono (K3.out _ b).sz))
  have HK := Lib.hid (fun w3 (b : Below w2.drew.heap.size w2.drew w3) => HB.out w1.heap.size w1.heap.size w3.heap.size (w3.alloc (.cells #[.int .i64 a.idx, .int .i64 a.term, .int .i64 a.kind, .int .i64 e.index, .int .i64 e.term, .int .i64 e.kind] 26)) ((N1.out.below (D2.out _ b)).below (below_new _ _)) (by have := (D2.out _ b).size; have := HS2.out; have := (below_new w3 (.cells #[.int .i64 a.idx, .int .i64 a.term, .int .i64 a.kind, .int .i64 e.index, .int .i64 e.term, .int .i64 e.kind] 26)).size; omega) (BlockIs.made _ _ _) (by have := (D2.out _ b).size; have := HS2.out; omega))
  have K5 := Lib.hid (fun w3 (b : Below w2.drew.heap.size w2.drew w3) w5 (g : (w3.alloc (.cells #[.int .i64 a.idx, .int .i64 a.term, .int .i64 a.kind, .int .i64 e.index, .int .i64 e.term, .int .i64 e.kind] 26)).grownBy w5 (some w1.heap.size)) => (K4.out _ b).grown g L1.out)
  obtain ⟨c0, c1, c2, c3, c4, c5, c6⟩ := M2.out.cells
  go_region_held3 (fun w' => w'.cell? ⟨W.heap.size, 0, none⟩ = some (.int .i64 e.index) ∧ w'.cell? ⟨W.heap.size, 1, none⟩ = some (.int .i64 e.term) ∧ w'.cell? ⟨W.heap.size, 2, none⟩ = some (.int .i64 e.kind) ∧ w'.cell? ⟨W.heap.size, 3, none⟩ = some (.slice A e.body.length c) ∧ w'.cell? ⟨W.heap.size, 4, none⟩ = some (.int .i64 a.idx) ∧ w'.cell? ⟨W.heap.size, 5, none⟩ = some (.int .i64 a.term) ∧ w'.cell? ⟨W.heap.size, 6, none⟩ = some (.int .i64 a.kind)) (first | exact ⟨c0, c1, c2, c3, c4, c5, c6⟩ | exact hs3 | exact hs4 | exact hm5.cells) (first
    | (go_at_call 68; refine (HI.out _).mono ?_; rintro r w3 ⟨rfl, b3⟩; have hk3 := HK.out _ b3; have hs3 := (K3.out _ b3).cells; have hs4 := (K4.out _ b3).cells)
    | (go_at_call 76; refine hk3.mono ?_; rintro r w5 ⟨rfl, n5, g5⟩; have hm5 := K5.out _ b3 _ g5))
  rename_i hHeld
  clear hHeld c0 c1 c2 c3 c4 c5 c6 hk3 hs3 hs4
  have M5 := Lib.hid hm5
  have HW := Lib.hid (HU.out _ _ _ _ n5 HN.out)
  clear HK K3 K4 K5 D2 HB HL0 HI hm5 g5 n5 b3
  obtain ⟨c0, c1, c2, c3, c4, c5, c6⟩ := M5.out.cells
  go_wp2_with fail
  refine HW.out.mono ?_
  rintro r w6 ⟨v, rfl, ho, b6⟩
  rw [HN.out] at ho
  obtain ⟨g, cap, rfl, hg, hcap, _, _⟩ := own_form ho (by decide)
  have hM6 := M5.out.on (b6.mono M5.out.sz)
  have hgl := (ho.lt g rfl).2
  have hbu := below_new w6 (.cells #[.int .i64 5, .int .i64 e.index, .slice (some ⟨g, 0, none⟩) 14 cap] 34)
  have P7 := Lib.hid (BlockIs.made w6 34 #[.int .i64 5, .int .i64 e.index, .slice (some ⟨g, 0, none⟩) 14 cap])
  have M7 := Lib.hid (hM6.on (hbu.mono hM6.sz))
  have L5 := Lib.hid M5.out.sz
  have O7 := Lib.hid (own_lift (B' := W.heap.size + 2) (ownsRow_below ho hbu) (fun b e => by have := (ho.lt b e).1; have := L5.out; omega))
  have LL := Lib.hid (show g < w6.heap.size ∧ W.heap.size + 2 ≤ g ∧ W.heap.size + 2 ≤ w6.heap.size from by have := L5.out; have := hM6.sz; omega)
  obtain ⟨w7, hw7⟩ : ∃ w7, w6.alloc (.cells #[.int .i64 5, .int .i64 e.index, .slice (some ⟨g, 0, none⟩) 14 cap] 34) = w7 := ⟨_, rfl⟩
  rw [hw7] at P7 M7 O7
  have Hw7 := Lib.hid hw7
  clear hw7 hM6 hgl hbu ho b6 hg hcap c0 c1 c2 c3 c4 c5 c6 HW M5
  have c3 := M7.out.cells.2.2.2.1
  have p2 := P7.out.cell 2
  have HZ7 := Lib.hid (HZ.out.1.below M7.out.bl)
  have LN := Lib.hid (show some w6.heap.size ≠ some g from fun e => by have := LL.out; have := Option.some.inj e; omega)
  have LM := Lib.hid (show some (W.heap.size + 1) ≠ some g from fun e => by have := LL.out; have := Option.some.inj e; omega)
  have lq1 : ¬ W.heap.size + 1 = w6.heap.size := by have := LL.out; omega
  have lq2 : ¬ w6.heap.size = W.heap.size + 1 := by have := LL.out; omega
  rw [← Hw7.out] at c3
  go_wp2_with (at_builtin; rw [Hw7.out]; refine wpList_append_own8 rfl _ _ rfl (W.heap.size + 2) _ 14 xs rfl O7.out _ e.body e.body.length _ rfl rfl HZ7.out HZ.out.2.1 (by have := HZ.out.2.2; omega) M7.out.sz ?_; intro v8 w8 ho8 hg8 hat8; obtain ⟨g8, cap8, rfl, _, _, _, _⟩ := own_form ho8 (by omega); have hp8 := P7.out.kept hg8 LN.out; have hu8 := M7.out.u.kept hg8 LM.out; have x0 := hp8.cell 0; have x1 := hp8.cell 1; have x2 := hp8.cell 2; have xf := hp8.free 2; have r0 := hu8.cell 0; have r1 := hu8.cell 1; have r2 := hu8.cell 2; have rf0 := hu8.free 0; have rf1 := hu8.free 1; have rf2 := hu8.free 2)
  clear x0 x1 x2 xf r0 r1 r2 rf0 rf1 rf2 c3 p2 lq1 lq2
  have gw := hg8
  have hx := hp8.set1 2 (.slice (some ⟨g8, 0, none⟩) (14 + e.body.length) cap8)
  have gx := grown_at (World.grownBy.refl w8 (some w6.heap.size)) 2 (.slice (some ⟨g8, 0, none⟩) (14 + e.body.length) cap8)
  have ux := hu8.kept gx (fun x => by have := LL.out; have := Option.some.inj x; omega)
  have hne : g8 ≠ w6.heap.size := by
    have h7 : w7.heap.size = w6.heap.size + 1 := by rw [← Hw7.out]; simp
    have := LL.out
    rcases hat8 with h | ⟨b, h, hb⟩
    · have h2 : some g8 = some g := h
      have := Option.some.inj h2
      omega
    · have h2 : some g8 = some b := h
      have := Option.some.inj h2
      omega
  have ox := ho8.kept gx (.inr (fun x => hne (Option.some.inj x)))
  have bw := below_grown (below_grown M7.out.bl (show w7.grownBy w8 (some g) from gw) M7.out.bl.size (show W.heap.size ≤ g by have := LL.out; omega)) gx (by have := gw.size; have := M7.out.bl.size; omega) (by have := LL.out; omega)
  have OX := Lib.hid (And.intro ox bw)
  generalize w8.setCell ⟨w6.heap.size, 2, none⟩ (.slice (some ⟨g8, 0, none⟩) (14 + e.body.length) cap8) = w9 at *
  clear ho8 hp8 hu8 gw hx gx ox bw hat8 hg8
  have Z := Lib.hid (ux.put3 (.int .i64 5) (.int .i64 e.index) (.slice (some ⟨g8, 0, none⟩) (14 + e.body.length) cap8))
  obtain ⟨z0, z1, z2, _⟩ := Z.out.1.three
  refine bodyPost_ret (v := .agg #[.int .i64 5, .int .i64 e.index, .slice (some ⟨g8, 0, none⟩) (14 + e.body.length) cap8]) (by simp [results, Tryz.results62, go_sem, z0, z1, z2]) rfl ⟨_, rfl, ?_, below_grown OX.out.2 Z.out.2 OX.out.2.size (by omega)⟩
  rw [← HR.out]
  exact OX.out.1.kept Z.out.2 (.inr (fun x => by have := (OX.out.1.lt _ x).1; omega))
end Go.Proofs.YtpdfmpegcejmkaaGreatDoor
namespace Go.Proofs.YtpdfmpegcejmkaaGreatDoor
open Go.RowKit
def boxes (w : World) : List (TypeId × Array Value) → World
  | [] => w
  | (t, cs) :: l => boxes (w.alloc (.cells cs t)) l
theorem boxes_size : ∀ (l : List (TypeId × Array Value)) (w : World), (boxes w l).heap.size = w.heap.size + l.length
  | [], w => rfl
  | (t, cs) :: l, w => by
    show (boxes (w.alloc (.cells cs t)) l).heap.size = _
    rw [boxes_size l, World.size_alloc, List.length_cons]; omega
theorem boxes_below : ∀ (l : List (TypeId × Array Value)) (w : World), Below w.heap.size w (boxes w l)
  | [], w => Below.refl _ _
  | (t, cs) :: l, w => by
    have h1 := below_new w (.cells cs t)
    exact h1.trans ((boxes_below l (w.alloc (.cells cs t))).mono h1.size)
theorem boxes_at : ∀ (l : List (TypeId × Array Value)) (w : World) (i : Nat) (t : TypeId) (cs : Array Value), l[i]? = some (t, cs) → BlockIs (boxes w l) (w.heap.size + i) t cs
  | (t0, c0) :: l, w, 0, t, cs, h => by
    obtain ⟨rfl, rfl⟩ : t0 = t ∧ c0 = cs := by simpa using h
    have h1 := BlockIs.made w t0 c0
    exact h1.below (boxes_below l (w.alloc (.cells c0 t0))) h1.lt
  | (t0, c0) :: l, w, i + 1, t, cs, h => by
    have h2 := boxes_at l (w.alloc (.cells c0 t0)) i t cs (by simpa using h)
    rw [World.size_alloc] at h2
    rw [show w.heap.size + (i + 1) = w.heap.size + 1 + i by omega]
    exact h2
end Go.Proofs.YtpdfmpegcejmkaaGreatDoor
