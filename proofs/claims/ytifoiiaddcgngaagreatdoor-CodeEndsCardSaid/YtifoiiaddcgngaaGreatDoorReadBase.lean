/- What a reader has in memory; its small functions. -/
import Derived.Test.YtifoiiaddcgngaaGreatDoorCodeClone
namespace Go.Proofs.YtifoiiaddcgngaaGreatDoor
open Go.RowKit
/-- Where the package's own errors lie. -/
structure Sen where
  wd : Addr
  few : Addr
  gr : Addr
  mu : Addr
  en : Addr
def Sen.has (σ : Sen) (a : Addr) : Prop := a = σ.wd ∨ a = σ.few ∨ a = σ.gr ∨ a = σ.mu ∨ a = σ.en
def errV (a : Addr) : Value := .iface 205 (.pointer (some a))
/-- The package-level variables hold what they were laid with. -/
structure GlAt (σ : Sen) (w : World) : Prop where
  wd : w.cell? ⟨0, 0, none⟩ = some (errV σ.wd)
  few : w.cell? ⟨1, 0, none⟩ = some (errV σ.few)
  gr : w.cell? ⟨2, 0, none⟩ = some (errV σ.gr)
  mu : w.cell? ⟨4, 0, none⟩ = some (errV σ.mu)
  en : w.cell? ⟨3, 0, none⟩ = some (errV σ.en)
  ty : w.cell? ⟨5, 0, none⟩ = some (.iface 185 (.agg #[.pointer (some ⟨6, 98, none⟩)]))
  there : ∀ a, σ.has a → ∃ c t, w.heap[a.block]? = some (.cells c t (0, 0))
  ne : σ.wd ≠ σ.mu ∧ σ.few ≠ σ.mu ∧ σ.gr ≠ σ.mu ∧ σ.en ≠ σ.mu
theorem GlAt.below {σ : Sen} {w w' : World} (h : GlAt σ w) (hb : Below w.heap.size w w') : GlAt σ w' :=
  ⟨cell_below h.wd hb, cell_below h.few hb, cell_below h.gr hb, cell_below h.mu hb, cell_below h.en hb, cell_below h.ty hb, fun a ha => by
    obtain ⟨c, t, e⟩ := h.there a ha
    exact ⟨c, t, (hb.block _ (Array.getElem?_eq_some_iff.1 e).1).trans e⟩, h.ne⟩
/-- Those of them that a field reads. -/
structure GlF (σ : Sen) (w : World) : Prop where
  wd : w.cell? ⟨0, 0, none⟩ = some (errV σ.wd)
  few : w.cell? ⟨1, 0, none⟩ = some (errV σ.few)
  gr : w.cell? ⟨2, 0, none⟩ = some (errV σ.gr)
  ne : σ.wd ≠ σ.mu ∧ σ.few ≠ σ.mu ∧ σ.gr ≠ σ.mu
theorem GlF.below {σ : Sen} {w w' : World} (h : GlF σ w) (hb : Below w.heap.size w w') : GlF σ w' :=
  ⟨cell_below h.wd hb, cell_below h.few hb, cell_below h.gr hb, h.ne⟩
theorem GlAt.f {σ : Sen} {w : World} (h : GlAt σ w) : GlF σ w := ⟨h.wd, h.few, h.gr, h.ne.1, h.ne.2.1, h.ne.2.2.1⟩
/-- The call began in w0, where the variables that a field reads were laid; g is new since. -/
structure EnvF (σ : Sen) (w0 : World) (g : Nat) (w : World) : Prop where
  gl : GlF σ w0
  bl : Below w0.heap.size w0 w
  lo : w0.heap.size ≤ g
theorem EnvF.at_ {σ : Sen} {w0 w : World} {g : Nat} (h : EnvF σ w0 g w) : GlF σ w := h.gl.below h.bl
theorem EnvF.grown {σ : Sen} {w0 w w' : World} {g : Nat} (h : EnvF σ w0 g w) (hg : w.grownBy w' (some g)) : EnvF σ w0 g w' := ⟨h.gl, below_grown h.bl hg h.bl.size h.lo, h.lo⟩
/-- The call began in w0, where the variables were laid; g is new since. -/
structure Env (σ : Sen) (w0 : World) (g : Nat) (w : World) : Prop where
  gl : GlAt σ w0
  bl : Below w0.heap.size w0 w
  lo : w0.heap.size ≤ g
theorem Env.at_ {σ : Sen} {w0 w : World} {g : Nat} (h : Env σ w0 g w) : GlAt σ w := h.gl.below h.bl
theorem Env.grown {σ : Sen} {w0 w w' : World} {g : Nat} (h : Env σ w0 g w) (hg : w.grownBy w' (some g)) : Env σ w0 g w' := ⟨h.gl, below_grown h.bl hg h.bl.size h.lo, h.lo⟩
theorem Env.below {σ : Sen} {w0 w w' : World} {g : Nat} (h : Env σ w0 g w) (hb : Below w.heap.size w w') : Env σ w0 g w' := ⟨h.gl, h.bl.trans (hb.mono h.bl.size), h.lo⟩
theorem Env.f {σ : Sen} {w0 w : World} {g : Nat} (h : Env σ w0 g w) : EnvF σ w0 g w := ⟨h.gl.f, h.bl, h.lo⟩
def faultV (pos : Nat) (a : Addr) : Value := .iface 107 (.agg #[.int .i64 (pos : Int), errV a])
def RdErr (σ : Sen) : RSt → Nat → Value → Prop
  | .ok j, k, ev => j = k ∧ ev = .nilIface
  | .bad pos long, _, ev => ∃ a, ev = faultV pos a ∧ σ.has a ∧ (long = true ↔ a = σ.mu)
/-- The reader in block g goes through these bytes, and is in this state. -/
structure RdIs (σ : Sen) (w : World) (g : Nat) (bs : List Int) (s : RSt) (x : Option Addr) (cap k : Nat) (ev : Value) : Prop where
  blk : BlockIs w g 100 #[.slice x bs.length cap, .int .i64 (k : Int), .bool true, ev]
  rd : BytesAt w x bs
  off : ∀ a, x = some a → a.block < g
  len : bs.length ≤ cap ∧ cap ≤ 9223372036854775807 ∧ k ≤ bs.length
  err : RdErr σ s k ev
def RdAt (σ : Sen) (w : World) (g : Nat) (bs : List Int) (s : RSt) : Prop := ∃ x cap k ev, RdIs σ w g bs s x cap k ev
theorem RdIs.kept {σ : Sen} {w w' : World} {g : Nat} {bs : List Int} {s : RSt} {x : Option Addr} {cap k : Nat} {ev : Value} {row : Option Nat} (h : RdIs σ w g bs s x cap k ev) (hg : w.grownBy w' row) (h0 : some g ≠ row) (hx : ∀ a, x = some a → some a.block ≠ row) : RdIs σ w' g bs s x cap k ev :=
  ⟨h.blk.kept hg h0, h.rd.far hg hx, h.off, h.len, h.err⟩
theorem RdIs.below {σ : Sen} {w w' : World} {g : Nat} {bs : List Int} {s : RSt} {x : Option Addr} {cap k : Nat} {ev : Value} (h : RdIs σ w g bs s x cap k ev) (hb : Below w.heap.size w w') : RdIs σ w' g bs s x cap k ev :=
  h.kept (grown_below hb none) (by simp) (fun _ _ => by simp)
theorem RdAt.below {σ : Sen} {w w' : World} {g : Nat} {bs : List Int} {s : RSt} (h : RdAt σ w g bs s) (hb : Below w.heap.size w w') : RdAt σ w' g bs s := by
  obtain ⟨x, cap, k, ev, h⟩ := h; exact ⟨x, cap, k, ev, h.below hb⟩
/-- What is newer than the reader may turn. -/
theorem RdAt.newer {σ : Sen} {w w' : World} {g : Nat} {bs : List Int} {s : RSt} {row : Option Nat} (h : RdAt σ w g bs s) (hg : w.grownBy w' row) (hr : ∀ b, row = some b → g < b) : RdAt σ w' g bs s := by
  obtain ⟨x, cap, k, ev, h⟩ := h
  exact ⟨x, cap, k, ev, h.kept hg (fun e => Nat.lt_irrefl g (hr g e.symm)) (fun a ha e => by have := hr _ e.symm; have := h.off a ha; omega)⟩
theorem reader_cells {w : World} {g : Nat} {t : TypeId} {x y z v : Value} (h : BlockIs w g t #[x, y, z, v]) : w.cell? ⟨g, 0, none⟩ = some x ∧ w.cell? ⟨g, 1, none⟩ = some y ∧ w.cell? ⟨g, 2, none⟩ = some z ∧ w.cell? ⟨g, 3, none⟩ = some v :=
  ⟨h.cell 0, h.cell 1, h.cell 2, h.cell 3⟩
set_option maxRecDepth 100000 in
theorem read_any (σ : Sen) (w : World) (bs : List Int) (A : Option Addr) (c : Nat) (hz : BytesAt w A bs) (hl : bs.length ≤ 140737488351232) (hA : A = none → c = 0) :
    Calls Tryz.prog 29 #[.slice A bs.length c] w fun e w' => ∃ g, e = .returned (.pointer (some ⟨g, 0, none⟩)) ∧ w.heap.size ≤ g ∧ RdAt σ w' g bs (.ok 0) ∧ Below w.heap.size w w' := by
  go_enter Tryz.func29, Tryz.ntmps29
  go_wp2_with fail
  refine (clone_any w bs A c hz hl hA).mono ?_
  rintro e w1 ⟨v, rfl, hown, hb⟩
  obtain ⟨X, cap, rfl, h1, h2⟩ := own_slice hown
  have Hown := Lib.hid hown
  clear hown
  go_wp2_with fail
  go_ret
  have hrd := own_reads Hown.out hz.1
  have hbn := below_new w1 (.cells #[.slice X bs.length cap, .int .i64 0, .bool true, .nilIface] 100)
  exact ⟨w1.heap.size, rfl, hb.size, ⟨X, cap, 0, .nilIface, BlockIs.made _ _ _, hrd.below hbn, fun a e => by
    have := Hown.out.lt a.block (by rw [e]; rfl)
    omega, ⟨h1, h2, Nat.zero_le _⟩, rfl, rfl⟩, hb.trans (hbn.mono hb.size)⟩
theorem going_nil (w : World) :
    Calls Tryz.prog 59 #[.pointer none] w fun e w' => e = .returned (.bool false) ∧ w = w' := by
  go_enter Tryz.func59, Tryz.ntmps59
  go_wp2
  go_ret
  exact ⟨rfl, rfl⟩
theorem going_is (σ : Sen) (w : World) (g : Nat) (bs : List Int) (s : RSt) (h : RdAt σ w g bs s) :
    Calls Tryz.prog 59 #[.pointer (some ⟨g, 0, none⟩)] w fun e w' => e = .returned (.bool (isOk s)) ∧ w = w' := by
  obtain ⟨x, cap, k, ev, h⟩ := h
  obtain ⟨c0, c1, c2, c3⟩ := reader_cells h.blk
  cases s with
  | ok j =>
    obtain ⟨_, rfl⟩ := h.err
    clear h c0 c1
    go_enter Tryz.func59, Tryz.ntmps59
    go_wp2
    go_ret
    exact ⟨rfl, rfl⟩
  | bad pos long =>
    obtain ⟨a, rfl, _⟩ := h.err
    clear h c0 c1
    unfold faultV at c3
    go_enter Tryz.func59, Tryz.ntmps59
    go_wp2
    go_ret
    exact ⟨rfl, rfl⟩
theorem left_is (σ : Sen) (w : World) (g : Nat) (bs : List Int) (j : Nat) (h : RdAt σ w g bs (.ok j)) :
    Calls Tryz.prog 61 #[.pointer (some ⟨g, 0, none⟩)] w fun e w' => e = .returned (.int .i64 ((bs.length : Int) - (j : Int))) ∧ ∃ n, w' = w.drewN n := by
  obtain ⟨x, cap, k, ev, h⟩ := h
  obtain ⟨c0, c1, c2, c3⟩ := reader_cells h.blk
  obtain ⟨h1, h2, h3⟩ := h.len
  obtain ⟨rfl, rfl⟩ := h.err
  clear h c2 c3
  go_enter Tryz.func61, Tryz.ntmps61
  go_wp2_with fail
  go_quiet (fail)
  go_wp2_with fail
  go_ret
  exact ⟨rfl, _, rfl⟩
theorem next_is (σ : Sen) (w : World) (g : Nat) (bs : List Int) (j m : Nat) (x : Option Addr) (cap : Nat) (h : RdIs σ w g bs (.ok j) x cap j .nilIface) (hm : j + m ≤ bs.length) :
    Calls Tryz.prog 63 #[.pointer (some ⟨g, 0, none⟩), .int .i64 (m : Int)] w fun e w' => e = .returned (.slice (cutAt x cap j) m (cap - j)) ∧ ∃ n, w' = w.drewN n := by
  obtain ⟨c0, c1, c2, c3⟩ := reader_cells h.blk
  obtain ⟨h1, h2, h3⟩ := h.len
  clear h c2 c3
  have r1 := fun w => cut_run1 x bs.length j cap w h3
  have q1 : (0 : Int) ≤ (j : Int) := by omega
  have q2 : (j : Int) ≤ (bs.length : Int) := by omega
  have q3 : (0 : Int) ≤ (m : Int) := by omega
  have q4 : (m : Int) ≤ (cap : Int) - (j : Int) := by omega
  have q5 : (m : Int) ≤ ((cap - j : Nat) : Int) := by omega
  go_enter Tryz.func63, Tryz.ntmps63
  go_wp2_with fail
  go_quiet (fail)
  go_wp2_with fail
  go_ret
  exact ⟨rfl, _, rfl⟩
theorem pass_is (σ : Sen) (w : World) (g : Nat) (bs : List Int) (j m : Nat) (h : RdAt σ w g bs (.ok j)) (hm : j + m ≤ bs.length) :
    Calls Tryz.prog 64 #[.pointer (some ⟨g, 0, none⟩), .int .i64 (m : Int)] w fun e w' => e = .returned (.tuple #[]) ∧ RdAt σ w' g bs (.ok (j + m)) ∧ w.grownBy w' (some g) := by
  obtain ⟨x, cap, k, ev, h⟩ := h
  obtain ⟨c0, c1, c2, c3⟩ := reader_cells h.blk
  obtain ⟨h1, h2, h3⟩ := h.len
  obtain ⟨rfl, rfl⟩ := h.err
  have f1 := h.blk.free 1
  have hg : w.grownBy (w.setCell ⟨g, 1, none⟩ (.int .i64 ((j : Int) + (m : Int)))) (some g) := grown_at (World.grownBy.refl _ _) _ _
  have hR : RdAt σ (w.setCell ⟨g, 1, none⟩ (.int .i64 ((j : Int) + (m : Int)))) g bs (.ok (j + m)) :=
    ⟨x, cap, j + m, .nilIface, h.blk.set1 1 _, h.rd.far hg (fun a e he => Nat.ne_of_lt (h.off a e) (by simpa using he)), h.off, ⟨h1, h2, hm⟩, rfl, rfl⟩
  clear h c0 c2 c3
  go_enter Tryz.func64, Tryz.ntmps64
  go_wp2
  go_end0
  exact ⟨rfl, hR, hg⟩
theorem fail_is (σ : Sen) (w : World) (g : Nat) (bs : List Int) (j pos : Nat) (a : Addr) (h : RdAt σ w g bs (.ok j)) (ha : σ.has a) (long : Bool) (hlong : long = true ↔ a = σ.mu) :
    Calls Tryz.prog 60 #[.pointer (some ⟨g, 0, none⟩), .int .i64 (pos : Int), errV a] w fun e w' => e = .returned (.tuple #[]) ∧ RdAt σ w' g bs (.bad pos long) ∧ w.grownBy w' (some g) := by
  obtain ⟨x, cap, k, ev, h⟩ := h
  obtain ⟨c0, c1, c2, c3⟩ := reader_cells h.blk
  obtain ⟨h1, h2, h3⟩ := h.len
  obtain ⟨rfl, rfl⟩ := h.err
  have f3 := h.blk.free 3
  have hg : w.grownBy (w.setCell ⟨g, 3, none⟩ (faultV pos a)) (some g) := grown_at (World.grownBy.refl _ _) _ _
  have hR : RdAt σ (w.setCell ⟨g, 3, none⟩ (faultV pos a)) g bs (.bad pos long) :=
    ⟨x, cap, j, faultV pos a, h.blk.set1 3 _, h.rd.far hg (fun a e he => Nat.ne_of_lt (h.off a e) (by simpa using he)), h.off, ⟨h1, h2, h3⟩, a, rfl, ha, hlong⟩
  clear h c0 c1 c2
  unfold faultV errV at *
  go_enter Tryz.func60, Tryz.ntmps60
  go_wp2
  go_end0
  exact ⟨rfl, hR, hg⟩
end Go.Proofs.YtifoiiaddcgngaaGreatDoor
