/- bytes.Clone. -/
/- What a reader has in memory; its small functions. -/
/- What a field's bytes tell. -/
import Derived.Test.YtpdfmpegcejmkaaGreatDoorCodeField
import Derived.Lib.SliceRun
namespace Go.Proofs.YtpdfmpegcejmkaaGreatDoor
open Go.RowKit
theorem own_mono {w : World} {B B' : Nat} {e : TypeId} {size n : Nat} {v : Value} {xs : List Value} (h : w.ownsRow B e size v n xs) (hB : B' ≤ B) : w.ownsRow B' e size v n xs :=
  ⟨h.1, h.2.imp id fun ⟨g, cap, cur, h1, h2, h3⟩ => ⟨g, cap, cur, h1, Nat.le_trans hB h2, h3⟩⟩
set_option maxRecDepth 100000 in
set_option maxHeartbeats 1000000 in
theorem clone_any (w : World) (zs : List Int) (A : Option Addr) (c : Nat) (hz : BytesAt w A zs) (hl : zs.length ≤ 140737488351232) (hA : A = none → c = 0) :
    Calls Tryz.prog 146 #[.slice A zs.length c] w fun e w' => ∃ v, e = .returned v ∧ w'.ownsRow w.heap.size 5 1 v zs.length (u8s zs) ∧ Below w.heap.size w w' := by
  obtain ⟨i0, hi, hz0, hz1, hz2⟩ := info_parts infoByte
  rcases A with _ | ad
  · obtain rfl : c = 0 := hA rfl
    have hnil : zs = [] := by
      apply Classical.byContradiction
      intro hne
      obtain ⟨b, off, e⟩ := hz.some_ hne
      cases e
    subst hnil
    have he := fun w => Lib.run_eql_slice_nil (P := Tryz.prog) w 27 5 none 0 0 0 0 Tryz.underlying27
    clear hA
    go_enter Tryz.func146, Tryz.ntmps146
    go_wp2_with fail
    go_ret
    exact ⟨_, rfl, World.ownsRow_nil _ _ _ _, Below.refl _ _⟩
  · have hsrc : ∀ (o : Obj), ∀ j u, (u8s zs)[j]? = some u → (w.alloc o).cell? (ad.add j) = some u := fun o j u hj => by
      have hne : zs ≠ [] := by intro e; subst e; simp [u8s] at hj
      obtain ⟨b, off, e, hc⟩ := hz.2 hne
      obtain rfl : ad = ⟨b, off, none⟩ := by simpa using e
      exact src_cells zs b off w o hc j u hj
    have Hsrc := Lib.hid hsrc
    clear hsrc
    have hown0 := Lib.hid (World.ownsRow_lit (base := w.heap.size) (e := 5) (size := 1) w #[] 0 (Nat.le_refl _) (Nat.zero_le _) (by simp))
    have he := fun w => Lib.run_eql_slice_nil (P := Tryz.prog) w 27 5 (some ad) zs.length c 0 0 Tryz.underlying27
    clear hA
    go_enter Tryz.func146, Tryz.ntmps146
    go_wp2_with (at_builtin; refine wpList_append_own _ rfl _ _ 27 rfl w.heap.size 5 i0 (.int .u8 0) 1 1 Tryz.underlying27 hi hz0 hz1 hz2 rfl (by decide) _ _ _ rfl hown0.out ad zs.length c (u8s zs) rfl ?c1 ?c2 ?c3 ?c4 ?c5 ?c6 ?_)
    case c1 => rw [u8s_len]
    case c2 => exact Hsrc.out _
    case c3 => exact u8s_one zs
    case c4 => unfold maxLen; omega
    case c5 => omega
    intro v' w1 hown1 hgrow1 _
    have hb : Below w.heap.size w w1 := (below_new w _).grown hgrow1 (by simp) (fun k e => (hown0.out.lt k e).1)
    have hown2 := own_same (m := zs.length) (ys := u8s zs) hown1 (by omega) (by simp)
    clear hown1
    go_wp2_with fail
    go_ret
    exact ⟨_, rfl, hown2, hb⟩
end Go.Proofs.YtpdfmpegcejmkaaGreatDoor
namespace Go.Proofs.YtpdfmpegcejmkaaGreatDoor
open Go.RowKit
/-- Where the package's own errors lie. -/
structure Sen where
  wd : Addr
  few : Addr
  gr : Addr
  mu : Addr
  en : Addr
def Sen.has (σ : Sen) (a : Addr) : Prop := a = σ.wd ∨ a = σ.few ∨ a = σ.gr ∨ a = σ.mu ∨ a = σ.en
def errV (a : Addr) : Value := .iface 288 (.pointer (some a))
/-- The package-level variables hold what they were laid with. -/
structure GlAt (σ : Sen) (w : World) : Prop where
  wd : w.cell? ⟨6, 0, none⟩ = some (errV σ.wd)
  few : w.cell? ⟨7, 0, none⟩ = some (errV σ.few)
  gr : w.cell? ⟨8, 0, none⟩ = some (errV σ.gr)
  mu : w.cell? ⟨12, 0, none⟩ = some (errV σ.mu)
  ty : w.cell? ⟨10, 0, none⟩ = some (.iface 256 (.agg #[.pointer (some ⟨20, 106, none⟩)]))
  there : ∀ a, σ.has a → ∃ c t, w.heap[a.block]? = some (.cells c t (0, 0))
  ne : σ.wd ≠ σ.mu ∧ σ.few ≠ σ.mu ∧ σ.gr ≠ σ.mu ∧ σ.en ≠ σ.mu
theorem GlAt.below {σ : Sen} {w w' : World} (h : GlAt σ w) (hb : Below w.heap.size w w') : GlAt σ w' :=
  ⟨cell_below h.wd hb, cell_below h.few hb, cell_below h.gr hb, cell_below h.mu hb, cell_below h.ty hb, fun a ha => by
    obtain ⟨c, t, e⟩ := h.there a ha
    exact ⟨c, t, (hb.block _ (Array.getElem?_eq_some_iff.1 e).1).trans e⟩, h.ne⟩
/-- Those of them that a field reads. -/
structure GlF (σ : Sen) (w : World) : Prop where
  wd : w.cell? ⟨6, 0, none⟩ = some (errV σ.wd)
  few : w.cell? ⟨7, 0, none⟩ = some (errV σ.few)
  gr : w.cell? ⟨8, 0, none⟩ = some (errV σ.gr)
  ne : σ.wd ≠ σ.mu ∧ σ.few ≠ σ.mu ∧ σ.gr ≠ σ.mu
theorem GlF.below {σ : Sen} {w w' : World} (h : GlF σ w) (hb : Below w.heap.size w w') : GlF σ w' :=
  ⟨cell_below h.wd hb, cell_below h.few hb, cell_below h.gr hb, h.ne⟩
theorem GlAt.f {σ : Sen} {w : World} (h : GlAt σ w) : GlF σ w := ⟨h.wd, h.few, h.gr, h.ne.1, h.ne.2.1, h.ne.2.2.1⟩
/-- The call began in w0, where the variables that a field reads were laid; g is new since. -/
structure EnvF (σ : Sen) (w0 : World) (g : Nat) (w : World) : Prop where
  gl : GlF σ w0
  bl : Below w0.heap.size w0 w
  lo : w0.heap.size ≤ g
theorem EnvF.at_ {σ : Sen} {w0 w : World} {g : Nat} (h : EnvF σ w0 g w) : GlF σ w := h.gl.below h.bl
theorem EnvF.grown {σ : Sen} {w0 w w' : World} {g : Nat} (h : EnvF σ w0 g w) (hg : w.grownBy w' (some g)) : EnvF σ w0 g w' := ⟨h.gl, below_grown h.bl hg h.bl.size h.lo, h.lo⟩
/-- The call began in w0, where the variables were laid; g is new since. -/
structure Env (σ : Sen) (w0 : World) (g : Nat) (w : World) : Prop where
  gl : GlAt σ w0
  bl : Below w0.heap.size w0 w
  lo : w0.heap.size ≤ g
theorem Env.at_ {σ : Sen} {w0 w : World} {g : Nat} (h : Env σ w0 g w) : GlAt σ w := h.gl.below h.bl
theorem Env.grown {σ : Sen} {w0 w w' : World} {g : Nat} (h : Env σ w0 g w) (hg : w.grownBy w' (some g)) : Env σ w0 g w' := ⟨h.gl, below_grown h.bl hg h.bl.size h.lo, h.lo⟩
theorem Env.below {σ : Sen} {w0 w w' : World} {g : Nat} (h : Env σ w0 g w) (hb : Below w.heap.size w w') : Env σ w0 g w' := ⟨h.gl, h.bl.trans (hb.mono h.bl.size), h.lo⟩
theorem Env.f {σ : Sen} {w0 w : World} {g : Nat} (h : Env σ w0 g w) : EnvF σ w0 g w := ⟨h.gl.f, h.bl, h.lo⟩
def faultV (pos : Nat) (a : Addr) : Value := .iface 213 (.agg #[.int .i64 (pos : Int), errV a])
def RdErr (σ : Sen) : RSt → Nat → Value → Prop
  | .ok j, k, ev => j = k ∧ ev = .nilIface
  | .bad pos long, _, ev => ∃ a, ev = faultV pos a ∧ σ.has a ∧ (long = true ↔ a = σ.mu)
/-- The reader in block g goes through these bytes, and is in this state. -/
structure RdIs (σ : Sen) (w : World) (g : Nat) (bs : List Int) (s : RSt) (x : Option Addr) (cap k : Nat) (ev : Value) : Prop where
  blk : BlockIs w g 165 #[.slice x bs.length cap, .int .i64 (k : Int), .bool true, ev]
  rd : BytesAt w x bs
  off : ∀ a, x = some a → a.block < g
  len : bs.length ≤ cap ∧ cap ≤ 9223372036854775807 ∧ k ≤ bs.length
  err : RdErr σ s k ev
def RdAt (σ : Sen) (w : World) (g : Nat) (bs : List Int) (s : RSt) : Prop := ∃ x cap k ev, RdIs σ w g bs s x cap k ev
theorem RdIs.kept {σ : Sen} {w w' : World} {g : Nat} {bs : List Int} {s : RSt} {x : Option Addr} {cap k : Nat} {ev : Value} {row : Option Nat} (h : RdIs σ w g bs s x cap k ev) (hg : w.grownBy w' row) (h0 : some g ≠ row) (hx : ∀ a, x = some a → some a.block ≠ row) : RdIs σ w' g bs s x cap k ev :=
  ⟨h.blk.kept hg h0, h.rd.far hg hx, h.off, h.len, h.err⟩
theorem RdIs.below {σ : Sen} {w w' : World} {g : Nat} {bs : List Int} {s : RSt} {x : Option Addr} {cap k : Nat} {ev : Value} (h : RdIs σ w g bs s x cap k ev) (hb : Below w.heap.size w w') : RdIs σ w' g bs s x cap k ev :=
  h.kept (grown_below hb none) (by simp) (fun _ _ => by simp)
theorem RdAt.below {σ : Sen} {w w' : World} {g : Nat} {bs : List Int} {s : RSt} (h : RdAt σ w g bs s) (hb : Below w.heap.size w w') : RdAt σ w' g bs s := by
  obtain ⟨x, cap, k, ev, h⟩ := h; exact ⟨x, cap, k, ev, h.below hb⟩
/-- What is newer than the reader may turn. -/
theorem RdAt.newer {σ : Sen} {w w' : World} {g : Nat} {bs : List Int} {s : RSt} {row : Option Nat} (h : RdAt σ w g bs s) (hg : w.grownBy w' row) (hr : ∀ b, row = some b → g < b) : RdAt σ w' g bs s := by
  obtain ⟨x, cap, k, ev, h⟩ := h
  exact ⟨x, cap, k, ev, h.kept hg (fun e => Nat.lt_irrefl g (hr g e.symm)) (fun a ha e => by have := hr _ e.symm; have := h.off a ha; omega)⟩
theorem reader_cells {w : World} {g : Nat} {t : TypeId} {x y z v : Value} (h : BlockIs w g t #[x, y, z, v]) : w.cell? ⟨g, 0, none⟩ = some x ∧ w.cell? ⟨g, 1, none⟩ = some y ∧ w.cell? ⟨g, 2, none⟩ = some z ∧ w.cell? ⟨g, 3, none⟩ = some v :=
  ⟨h.cell 0, h.cell 1, h.cell 2, h.cell 3⟩
set_option maxRecDepth 100000 in
theorem cread_any (σ : Sen) (w : World) (bs : List Int) (A : Option Addr) (c : Nat) (hz : BytesAt w A bs) (hl : bs.length ≤ 140737488351232) (hA : A = none → c = 0) :
    Calls Tryz.prog 106 #[.slice A bs.length c] w fun e w' => ∃ g, e = .returned (.pointer (some ⟨g, 0, none⟩)) ∧ w.heap.size ≤ g ∧ RdAt σ w' g bs (.ok 0) ∧ Below w.heap.size w w' := by
  go_enter Tryz.func106, Tryz.ntmps106
  go_wp2_with fail
  refine (clone_any w bs A c hz hl hA).mono ?_
  rintro e w1 ⟨v, rfl, hown, hb⟩
  obtain ⟨X, cap, rfl, h1, h2⟩ := own_slice hown
  have Hown := Lib.hid hown
  clear hown
  go_wp2_with fail
  go_ret
  have hrd := own_reads Hown.out hz.1
  have hbn := below_new w1 (.cells #[.slice X bs.length cap, .int .i64 0, .bool true, .nilIface] 165)
  exact ⟨w1.heap.size, rfl, hb.size, ⟨X, cap, 0, .nilIface, BlockIs.made _ _ _, hrd.below hbn, fun a e => by
    have := Hown.out.lt a.block (by rw [e]; rfl)
    omega, ⟨h1, h2, Nat.zero_le _⟩, rfl, rfl⟩, hb.trans (hbn.mono hb.size)⟩
theorem going_nil (w : World) :
    Calls Tryz.prog 107 #[.pointer none] w fun e w' => e = .returned (.bool false) ∧ w = w' := by
  go_enter Tryz.func107, Tryz.ntmps107
  go_wp2
  go_ret
  exact ⟨rfl, rfl⟩
theorem going_is (σ : Sen) (w : World) (g : Nat) (bs : List Int) (s : RSt) (h : RdAt σ w g bs s) :
    Calls Tryz.prog 107 #[.pointer (some ⟨g, 0, none⟩)] w fun e w' => e = .returned (.bool (isOk s)) ∧ w = w' := by
  obtain ⟨x, cap, k, ev, h⟩ := h
  obtain ⟨c0, c1, c2, c3⟩ := reader_cells h.blk
  cases s with
  | ok j =>
    obtain ⟨_, rfl⟩ := h.err
    clear h c0 c1
    go_enter Tryz.func107, Tryz.ntmps107
    go_wp2
    go_ret
    exact ⟨rfl, rfl⟩
  | bad pos long =>
    obtain ⟨a, rfl, _⟩ := h.err
    clear h c0 c1
    unfold faultV at c3
    go_enter Tryz.func107, Tryz.ntmps107
    go_wp2
    go_ret
    exact ⟨rfl, rfl⟩
theorem left_is (σ : Sen) (w : World) (g : Nat) (bs : List Int) (j : Nat) (h : RdAt σ w g bs (.ok j)) :
    Calls Tryz.prog 109 #[.pointer (some ⟨g, 0, none⟩)] w fun e w' => e = .returned (.int .i64 ((bs.length : Int) - (j : Int))) ∧ ∃ n, w' = w.drewN n := by
  obtain ⟨x, cap, k, ev, h⟩ := h
  obtain ⟨c0, c1, c2, c3⟩ := reader_cells h.blk
  obtain ⟨h1, h2, h3⟩ := h.len
  obtain ⟨rfl, rfl⟩ := h.err
  clear h c2 c3
  go_enter Tryz.func109, Tryz.ntmps109
  go_wp2_with fail
  go_quiet (fail)
  go_wp2_with fail
  go_ret
  exact ⟨rfl, _, rfl⟩
theorem next_is (σ : Sen) (w : World) (g : Nat) (bs : List Int) (j m : Nat) (x : Option Addr) (cap : Nat) (h : RdIs σ w g bs (.ok j) x cap j .nilIface) (hm : j + m ≤ bs.length) :
    Calls Tryz.prog 111 #[.pointer (some ⟨g, 0, none⟩), .int .i64 (m : Int)] w fun e w' => e = .returned (.slice (cutAt x cap j) m (cap - j)) ∧ ∃ n, w' = w.drewN n := by
  obtain ⟨c0, c1, c2, c3⟩ := reader_cells h.blk
  obtain ⟨h1, h2, h3⟩ := h.len
  clear h c2 c3
  have r1 := fun w => cut_run1 x bs.length j cap w h3
  have q1 : (0 : Int) ≤ (j : Int) := by omega
  have q2 : (j : Int) ≤ (bs.length : Int) := by omega
  have q3 : (0 : Int) ≤ (m : Int) := by omega
  have q4 : (m : Int) ≤ (cap : Int) - (j : Int) := by omega
  have q5 : (m : Int) ≤ ((cap - j : Nat) : Int) := by omega
  go_enter Tryz.func111, Tryz.ntmps111
  go_wp2_with fail
  go_quiet (fail)
  go_wp2_with fail
  go_ret
  exact ⟨rfl, _, rfl⟩
theorem pass_is (σ : Sen) (w : World) (g : Nat) (bs : List Int) (j m : Nat) (h : RdAt σ w g bs (.ok j)) (hm : j + m ≤ bs.length) :
    Calls Tryz.prog 112 #[.pointer (some ⟨g, 0, none⟩), .int .i64 (m : Int)] w fun e w' => e = .returned (.tuple #[]) ∧ RdAt σ w' g bs (.ok (j + m)) ∧ w.grownBy w' (some g) := by
  obtain ⟨x, cap, k, ev, h⟩ := h
  obtain ⟨c0, c1, c2, c3⟩ := reader_cells h.blk
  obtain ⟨h1, h2, h3⟩ := h.len
  obtain ⟨rfl, rfl⟩ := h.err
  have f1 := h.blk.free 1
  have hg : w.grownBy (w.setCell ⟨g, 1, none⟩ (.int .i64 ((j : Int) + (m : Int)))) (some g) := grown_at (World.grownBy.refl _ _) _ _
  have hR : RdAt σ (w.setCell ⟨g, 1, none⟩ (.int .i64 ((j : Int) + (m : Int)))) g bs (.ok (j + m)) :=
    ⟨x, cap, j + m, .nilIface, h.blk.set1 1 _, h.rd.far hg (fun a e he => Nat.ne_of_lt (h.off a e) (by simpa using he)), h.off, ⟨h1, h2, hm⟩, rfl, rfl⟩
  clear h c0 c2 c3
  go_enter Tryz.func112, Tryz.ntmps112
  go_wp2
  go_end0
  exact ⟨rfl, hR, hg⟩
theorem fail_is (σ : Sen) (w : World) (g : Nat) (bs : List Int) (j pos : Nat) (a : Addr) (h : RdAt σ w g bs (.ok j)) (ha : σ.has a) (long : Bool) (hlong : long = true ↔ a = σ.mu) :
    Calls Tryz.prog 108 #[.pointer (some ⟨g, 0, none⟩), .int .i64 (pos : Int), errV a] w fun e w' => e = .returned (.tuple #[]) ∧ RdAt σ w' g bs (.bad pos long) ∧ w.grownBy w' (some g) := by
  obtain ⟨x, cap, k, ev, h⟩ := h
  obtain ⟨c0, c1, c2, c3⟩ := reader_cells h.blk
  obtain ⟨h1, h2, h3⟩ := h.len
  obtain ⟨rfl, rfl⟩ := h.err
  have f3 := h.blk.free 3
  have hg : w.grownBy (w.setCell ⟨g, 3, none⟩ (faultV pos a)) (some g) := grown_at (World.grownBy.refl _ _) _ _
  have hR : RdAt σ (w.setCell ⟨g, 3, none⟩ (faultV pos a)) g bs (.bad pos long) :=
    ⟨x, cap, j, faultV pos a, h.blk.set1 3 _, h.rd.far hg (fun a e he => Nat.ne_of_lt (h.off a e) (by simpa using he)), h.off, ⟨h1, h2, h3⟩, a, rfl, ha, hlong⟩
  clear h c0 c1 c2
  unfold faultV errV at *
  go_enter Tryz.func108, Tryz.ntmps108
  go_wp2
  go_end0
  exact ⟨rfl, hR, hg⟩
end Go.Proofs.YtpdfmpegcejmkaaGreatDoor
namespace Go.Proofs.YtpdfmpegcejmkaaGreatDoor
open Go.RowKit
theorem ofInt64 (a : Nat) (ha : a < 9223372036854775808) : (BitVec.ofInt 64 (a : Int)).toNat = a := by
  rw [BitVec.ofInt_natCast, BitVec.toNat_ofNat]; exact Nat.mod_eq_of_lt (by omega)
/-- Bits that lie apart are added. -/
theorem or_sum (x y : Int) (c m : Nat) (hc : c = 2 ^ m) (hx : 0 ≤ x) (hd : x % (c : Int) = 0) (hy : 0 ≤ y) (hyc : y < (c : Int)) (hs : x + y < 9223372036854775808) : bits .or .i64 x y = x + y := by
  obtain ⟨a, rfl⟩ := Int.eq_ofNat_of_zero_le hx
  obtain ⟨b, rfl⟩ := Int.eq_ofNat_of_zero_le hy
  have hdv : c ∣ a := by
    have : (c : Int) ∣ (a : Int) := Int.dvd_of_emod_eq_zero hd
    exact Int.ofNat_dvd.1 this
  obtain ⟨q, rfl⟩ := hdv
  have hbc : b < 2 ^ m := by omega
  have hor : c * q ||| b = c * q + b := by rw [hc, ← Nat.two_pow_add_eq_or_of_lt hbc]
  show IntKind.i64.wrap ((BitVec.ofInt 64 ((c * q : Nat) : Int) ||| BitVec.ofInt 64 (b : Int)).toNat : Int) = _
  rw [BitVec.toNat_or, ofInt64 _ (by omega), ofInt64 b (by omega), hor]
  exact IntWalk.i64_in _ (by omega)
theorem or_zero (y : Int) (hy : 0 ≤ y) (hs : y < 9223372036854775808) : bits .or .i64 0 y = y := by
  obtain ⟨b, rfl⟩ := Int.eq_ofNat_of_zero_le hy
  show IntKind.i64.wrap ((BitVec.ofInt 64 ((0 : Nat) : Int) ||| BitVec.ofInt 64 (b : Int)).toNat : Int) = _
  rw [BitVec.toNat_or, ofInt64 _ (by omega), ofInt64 b (by omega), Nat.zero_or]
  exact IntWalk.i64_in _ (by omega)
set_option maxRecDepth 100000 in
theorem number_six (w : World) (b o c : Nat) (z0 z1 z2 z3 z4 z5 : Int) (hz : BytesAt w (some ⟨b, o, none⟩) [z0, z1, z2, z3, z4, z5]) :
    Calls Tryz.prog 110 #[.slice (some ⟨b, o, none⟩) 6 c] w fun e w' => e = .returned (.int .i64 (unle [z0, z1, z2, z3, z4, z5])) ∧ ∃ n, w' = w.drewN n := by
  have c0 : w.cell? ⟨b, o, none⟩ = some (.int .u8 z0) := hz.one 0 (by simp)
  have c1 : w.cell? ⟨b, o + 1, none⟩ = some (.int .u8 z1) := hz.one 1 (by simp)
  have c2 : w.cell? ⟨b, o + 2, none⟩ = some (.int .u8 z2) := hz.one 2 (by simp)
  have c3 : w.cell? ⟨b, o + 3, none⟩ = some (.int .u8 z3) := hz.one 3 (by simp)
  have c4 : w.cell? ⟨b, o + 4, none⟩ = some (.int .u8 z4) := hz.one 4 (by simp)
  have c5 : w.cell? ⟨b, o + 5, none⟩ = some (.int .u8 z5) := hz.one 5 (by simp)
  have b0 := hz.1 z0 (by simp)
  have b1 := hz.1 z1 (by simp)
  have b2 := hz.1 z2 (by simp)
  have b3 := hz.1 z3 (by simp)
  have b4 := hz.1 z4 (by simp)
  have b5 := hz.1 z5 (by simp)
  clear hz
  go_enter Tryz.func110, Tryz.ntmps110
  go_wp2_with fail
  go_quiet (fail)
  go_wp2_with fail
  go_quiet (fail)
  go_wp2_with fail
  go_ret
  exact ⟨ret_int (by
    rw [or_sum (z5 * 1099511627776) (z4 * 4294967296) 1099511627776 40 (by decide) (by omega) (by omega) (by omega) (by omega) (by omega), or_zero _ (by omega) (by omega),
      or_sum (z3 * 16777216) (z2 * 65536) 16777216 24 (by decide) (by omega) (by omega) (by omega) (by omega) (by omega),
      or_sum _ (z3 * 16777216 + z2 * 65536) 4294967296 32 (by decide) (by omega) (by omega) (by omega) (by omega) (by omega),
      or_sum _ (z1 * 256) 65536 16 (by decide) (by omega) (by omega) (by omega) (by omega) (by omega),
      or_sum _ z0 256 8 (by decide) (by omega) (by omega) (by omega) (by omega) (by omega)]
    simp only [unle]; omega
    ), _, rfl⟩
set_option maxRecDepth 100000 in
theorem number_four (w : World) (b o c : Nat) (z0 z1 z2 z3 : Int) (hz : BytesAt w (some ⟨b, o, none⟩) [z0, z1, z2, z3]) :
    Calls Tryz.prog 110 #[.slice (some ⟨b, o, none⟩) 4 c] w fun e w' => e = .returned (.int .i64 (unle [z0, z1, z2, z3])) ∧ ∃ n, w' = w.drewN n := by
  have c0 : w.cell? ⟨b, o, none⟩ = some (.int .u8 z0) := hz.one 0 (by simp)
  have c1 : w.cell? ⟨b, o + 1, none⟩ = some (.int .u8 z1) := hz.one 1 (by simp)
  have c2 : w.cell? ⟨b, o + 2, none⟩ = some (.int .u8 z2) := hz.one 2 (by simp)
  have c3 : w.cell? ⟨b, o + 3, none⟩ = some (.int .u8 z3) := hz.one 3 (by simp)
  have b0 := hz.1 z0 (by simp)
  have b1 := hz.1 z1 (by simp)
  have b2 := hz.1 z2 (by simp)
  have b3 := hz.1 z3 (by simp)
  clear hz
  go_enter Tryz.func110, Tryz.ntmps110
  go_wp2_with fail
  go_quiet (fail)
  go_wp2_with fail
  go_ret
  exact ⟨ret_int (by
    rw [or_sum (z3 * 16777216) (z2 * 65536) 16777216 24 (by decide) (by omega) (by omega) (by omega) (by omega) (by omega), or_zero _ (by omega) (by omega),
      or_sum _ (z1 * 256) 65536 16 (by decide) (by omega) (by omega) (by omega) (by omega) (by omega),
      or_sum _ z0 256 8 (by decide) (by omega) (by omega) (by omega) (by omega) (by omega)]
    simp only [unle]; omega
    ), _, rfl⟩
set_option maxRecDepth 100000 in
theorem number_two (w : World) (b o c : Nat) (z0 z1 : Int) (hz : BytesAt w (some ⟨b, o, none⟩) [z0, z1]) :
    Calls Tryz.prog 110 #[.slice (some ⟨b, o, none⟩) 2 c] w fun e w' => e = .returned (.int .i64 (unle [z0, z1])) ∧ ∃ n, w' = w.drewN n := by
  have c0 : w.cell? ⟨b, o, none⟩ = some (.int .u8 z0) := hz.one 0 (by simp)
  have c1 : w.cell? ⟨b, o + 1, none⟩ = some (.int .u8 z1) := hz.one 1 (by simp)
  have b0 := hz.1 z0 (by simp)
  have b1 := hz.1 z1 (by simp)
  clear hz
  go_enter Tryz.func110, Tryz.ntmps110
  go_wp2_with fail
  go_ret
  exact ⟨ret_int (by
    rw [or_zero _ (by omega) (by omega), or_sum _ z0 256 8 (by decide) (by omega) (by omega) (by omega) (by omega) (by omega)]
    simp only [unle]; omega
    ), 0, rfl⟩
set_option maxRecDepth 100000 in
theorem number_one (w : World) (b o c : Nat) (z0 : Int) (hz : BytesAt w (some ⟨b, o, none⟩) [z0]) :
    Calls Tryz.prog 110 #[.slice (some ⟨b, o, none⟩) 1 c] w fun e w' => e = .returned (.int .i64 (unle [z0])) ∧ ∃ n, w' = w.drewN n := by
  have c0 : w.cell? ⟨b, o, none⟩ = some (.int .u8 z0) := hz.one 0 (by simp)
  have b0 := hz.1 z0 (by simp)
  clear hz
  go_enter Tryz.func110, Tryz.ntmps110
  go_wp2_with fail
  go_ret
  exact ⟨ret_int (by
    rw [or_zero _ (by omega) (by omega)]
    simp only [unle]; omega
    ), 0, rfl⟩
/-- In one. -/
theorem number_any (w : World) (A : Option Addr) (c k : Nat) (zs : List Int) (hk : zs.length = k) (ht : 0 ≤ top k) (hz : BytesAt w A zs) :
    Calls Tryz.prog 110 #[.slice A k c] w fun e w' => e = .returned (.int .i64 (unle zs)) ∧ ∃ n, w' = w.drewN n := by
  have hp : 0 < k := by rcases top_cases (k : Int) with ⟨e, _⟩ | ⟨e, _⟩ | ⟨e, _⟩ | ⟨e, _⟩ | ⟨_, _, _, _, t⟩ <;> omega
  obtain ⟨b, o, rfl⟩ := hz.some_ (by intro e; subst e; simp at hk; omega)
  rcases top_cases (k : Int) with ⟨e, t⟩ | ⟨e, t⟩ | ⟨e, t⟩ | ⟨e, t⟩ | ⟨_, _, _, _, t⟩
  · obtain rfl : k = 1 := by omega
    match zs, hk with
    | [z0], _ => exact number_one w b o c z0 hz
  · obtain rfl : k = 2 := by omega
    match zs, hk with
    | [z0, z1], _ => exact number_two w b o c z0 z1 hz
  · obtain rfl : k = 4 := by omega
    match zs, hk with
    | [z0, z1, z2, z3], _ => exact number_four w b o c z0 z1 z2 z3 hz
  · obtain rfl : k = 6 := by omega
    match zs, hk with
    | [z0, z1, z2, z3, z4, z5], _ => exact number_six w b o c z0 z1 z2 z3 z4 z5 hz
  · omega
end Go.Proofs.YtpdfmpegcejmkaaGreatDoor
