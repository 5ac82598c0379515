/- Disks by the page (layer 3): blocks that are stored, writes that wait; what each call makes of them. -/
import Derived.WalkKit
namespace Go.Proofs.YtpdfmpegcejmkaaGreatDoor
/-- A disk: what is stored of each block, and whether it is hurt; writes that wait; what it counts. -/
structure DM where
  cells : List (List Int × Bool)
  waits : List (Nat × List Int)
  armed : Nat
  turns : Nat
  crashes : Nat
  down : Bool
abbrev nought : List Int × Bool := (List.replicate 256 0, false)
def BlkOk (b : List Int) : Prop := b.length = 256 ∧ ∀ z ∈ b, 0 ≤ z ∧ z < 256
structure DM.Ok (D : DM) : Prop where
  some_ : 0 < D.cells.length
  many : D.cells.length ≤ 4096
  bytes : ∀ (n : Nat) (c : List Int × Bool), D.cells[n]? = some c → BlkOk c.1
  wn : ∀ p ∈ D.waits, p.1 < D.cells.length
  wb : ∀ p ∈ D.waits, BlkOk p.2
def padB (bs : List Int) : List Int := bs ++ List.replicate (256 - bs.length) 0
theorem padB_ok {bs : List Int} (h : bs.length ≤ 256) (hb : ∀ z ∈ bs, 0 ≤ z ∧ z < 256) : BlkOk (padB bs) := by
  unfold padB
  refine ⟨by simp; omega, fun z hz => ?_⟩
  rcases List.mem_append.1 hz with hz | hz
  · exact hb z hz
  · rw [List.mem_replicate] at hz; omega
theorem nought_ok : BlkOk (List.replicate 256 (0 : Int)) := ⟨List.length_replicate, fun z hz => by rw [List.mem_replicate] at hz; omega⟩
/-- The number, counted from 1, of the last of the first k writes that is to block n; 0: there is none. -/
def lastAt (ws : List (Nat × List Int)) (n : Nat) : Nat → Nat
  | 0 => 0
  | k + 1 => if (ws[k]?.map (·.1)) = some n then k + 1 else lastAt ws n k
def lastOf (ws : List (Nat × List Int)) (n : Nat) : Nat := lastAt ws n ws.length
theorem lastAt_le (ws : List (Nat × List Int)) (n : Nat) : ∀ k, lastAt ws n k ≤ k
  | 0 => Nat.le_refl 0
  | k + 1 => by
    unfold lastAt
    split
    · exact Nat.le_refl _
    · exact Nat.le_trans (lastAt_le ws n k) (Nat.le_succ k)
theorem lastAt_app (ws : List (Nat × List Int)) (p : Nat × List Int) (n : Nat) : ∀ k, k ≤ ws.length → lastAt (ws ++ [p]) n k = lastAt ws n k
  | 0, _ => rfl
  | k + 1, h => by
    unfold lastAt
    rw [lastAt_app ws p n k (by omega), List.getElem?_append_left (by omega)]
theorem lastOf_app (ws : List (Nat × List Int)) (p : Nat × List Int) (n : Nat) : lastOf (ws ++ [p]) n = if p.1 = n then ws.length + 1 else lastOf ws n := by
  unfold lastOf
  rw [List.length_append, List.length_singleton]
  conv => lhs; unfold lastAt
  rw [lastAt_app ws p n _ (Nat.le_refl _)]
  simp
theorem lastOf_le (ws : List (Nat × List Int)) (n : Nat) : lastOf ws n ≤ ws.length := lastAt_le ws n _
theorem lastOf_nil (n : Nat) : lastOf [] n = 0 := rfl
/-- What is seen behind the first k writes. -/
def seenAt (ws : List (Nat × List Int)) (n : Nat) (b : List Int) : Nat → List Int
  | 0 => b
  | k + 1 => match ws[k]? with
    | some p => if p.1 = n then p.2 else seenAt ws n b k
    | none => seenAt ws n b k
theorem seenAt_last (ws : List (Nat × List Int)) (n : Nat) (b : List Int) : ∀ k, seenAt ws n b k = if lastAt ws n k = 0 then b else (ws.getD (lastAt ws n k - 1) (0, [])).2
  | 0 => rfl
  | k + 1 => by
    unfold seenAt lastAt
    cases h : ws[k]? with
    | none => simp [seenAt_last ws n b k]
    | some p =>
      by_cases hp : p.1 = n
      · simp [hp, List.getD_eq_getElem?_getD, h]
      · simp [hp, seenAt_last ws n b k]
def DM.stored (D : DM) (n : Nat) : List Int := (D.cells.getD n ([], false)).1
def DM.seen (D : DM) (n : Nat) : List Int := seenAt D.waits n (D.stored n) D.waits.length
theorem DM.seen_last (D : DM) (n : Nat) : D.seen n = if lastOf D.waits n = 0 then D.stored n else (D.waits.getD (lastOf D.waits n - 1) (0, [])).2 := seenAt_last _ _ _ _
theorem seenAt_ok {ws : List (Nat × List Int)} {n : Nat} {b : List Int} (hb : BlkOk b) (hw : ∀ p ∈ ws, BlkOk p.2) : ∀ k, BlkOk (seenAt ws n b k)
  | 0 => hb
  | k + 1 => by
    unfold seenAt
    split
    · next p h =>
      split
      · exact hw p (List.mem_of_getElem? h)
      · exact seenAt_ok hb hw k
    · exact seenAt_ok hb hw k
theorem DM.Ok.stored {D : DM} (h : D.Ok) {n : Nat} (hn : n < D.cells.length) : BlkOk (D.stored n) := by
  unfold DM.stored
  rw [List.getD_eq_getElem?_getD, List.getElem?_eq_getElem hn]
  exact h.bytes n _ (List.getElem?_eq_getElem hn)
theorem DM.Ok.seen {D : DM} (h : D.Ok) {n : Nat} (hn : n < D.cells.length) : BlkOk (D.seen n) := seenAt_ok (h.stored hn) h.wb _
/-- The first sectors of a write are stored. -/
def storeS (c : List Int × Bool) (b : List Int) (s : Nat) : List Int × Bool := (b.take (32 * s) ++ c.1.drop (32 * s), if s = 8 then false else c.2)
theorem storeS_zero (c : List Int × Bool) (b : List Int) : storeS c b 0 = c := by unfold storeS; simp
theorem storeS_ok {c : List Int × Bool} {b : List Int} {s : Nat} (hc : BlkOk c.1) (hb : BlkOk b) (hs : s ≤ 8) : BlkOk (storeS c b s).1 := by
  unfold storeS
  refine ⟨by simp [hb.1, hc.1]; omega, fun z hz => ?_⟩
  rcases List.mem_append.1 hz with hz | hz
  · exact hb.2 z (List.mem_of_mem_take hz)
  · exact hc.2 z (List.mem_of_mem_drop hz)
theorem storeS_whole {c : List Int × Bool} {b : List Int} (hc : BlkOk c.1) (hb : BlkOk b) : storeS c b 8 = (b, false) := by
  unfold storeS
  rw [List.take_of_length_le (by have := hb.1; omega), List.drop_eq_nil_of_le (by have := hc.1; omega)]; simp
/-- The first k writes are stored, so many sectors of each. -/
def settleK (cs : List (List Int × Bool)) (ws : List (Nat × List Int)) (f : Nat → Nat) : Nat → List (List Int × Bool)
  | 0 => cs
  | k + 1 => match ws[k]? with
    | some p => (settleK cs ws f k).set p.1 (storeS ((settleK cs ws f k).getD p.1 ([], false)) p.2 (f k))
    | none => settleK cs ws f k
theorem settleK_len (cs : List (List Int × Bool)) (ws : List (Nat × List Int)) (f : Nat → Nat) : ∀ k, (settleK cs ws f k).length = cs.length
  | 0 => rfl
  | k + 1 => by
    unfold settleK
    split
    · rw [List.length_set]; exact settleK_len cs ws f k
    · exact settleK_len cs ws f k
theorem settleK_ok {cs : List (List Int × Bool)} {ws : List (Nat × List Int)} {f : Nat → Nat} (hc : ∀ (n : Nat) c, cs[n]? = some c → BlkOk c.1) (hw : ∀ p ∈ ws, p.1 < cs.length ∧ BlkOk p.2) (hf : ∀ i, f i ≤ 8) :
    ∀ k (n : Nat) c, (settleK cs ws f k)[n]? = some c → BlkOk c.1
  | 0 => hc
  | k + 1 => by
    intro n c
    unfold settleK
    split
    · next p h =>
      have hp := hw p (List.mem_of_getElem? h)
      have hl := settleK_len cs ws f k
      rw [List.getElem?_set]
      split
      · split
        · next hn hlt =>
          intro e
          injection e with e
          subst e
          refine storeS_ok ?_ hp.2 (hf k)
          rw [List.getD_eq_getElem?_getD, List.getElem?_eq_getElem (by omega)]
          exact settleK_ok hc hw hf k p.1 _ (List.getElem?_eq_getElem (by omega))
        · intro e; cases e
      · exact settleK_ok hc hw hf k n c
    · exact settleK_ok hc hw hf k n c
def DM.settle (D : DM) (f : Nat → Nat) : DM := { D with cells := settleK D.cells D.waits f D.waits.length, waits := [] }
theorem DM.Ok.settle {D : DM} (h : D.Ok) {f : Nat → Nat} (hf : ∀ i, f i ≤ 8) : (D.settle f).Ok := by
  have hl := settleK_len D.cells D.waits f D.waits.length
  exact ⟨by have := h.some_; show 0 < (settleK _ _ _ _).length; omega, by have := h.many; show (settleK _ _ _ _).length ≤ _; omega,
    fun n c hc => settleK_ok h.bytes (fun p hp => ⟨h.wn p hp, h.wb p hp⟩) hf _ n c hc, (fun p hp => by cases hp), (fun p hp => by cases hp)⟩
/-- How many blocks are hurt. -/
def hurts (cs : List (List Int × Bool)) : Nat := cs.countP (·.2)
theorem hurts_set {cs : List (List Int × Bool)} {n : Nat} (h : n < cs.length) (x : List Int × Bool) : hurts (cs.set n x) = hurts cs - (if (cs.getD n ([], false)).2 then 1 else 0) + (if x.2 then 1 else 0) := by
  unfold hurts
  rw [List.countP_set h, List.getD_eq_getElem?_getD, List.getElem?_eq_getElem h]; rfl
theorem hurts_pos {cs : List (List Int × Bool)} {n : Nat} (h : (cs.getD n ([], false)).2 = true) : 0 < hurts cs := by
  unfold hurts
  rw [List.countP_pos_iff]
  rw [List.getD_eq_getElem?_getD] at h
  cases hq : cs[n]? with
  | none => rw [hq] at h; cases h
  | some c => rw [hq] at h; exact ⟨c, List.mem_of_getElem? hq, h⟩
theorem hurts_le (cs : List (List Int × Bool)) : hurts cs ≤ cs.length := List.countP_le_length
/-! ### What each call makes -/
def DM.has (D : DM) (n : Int) : Prop := 0 ≤ n ∧ n < D.cells.length
instance (D : DM) (n : Int) : Decidable (D.has n) := by unfold DM.has; exact inferInstance
def DM.trips (D : DM) : DM := { D with armed := 0, down := true, crashes := D.crashes + 1 }
def DM.turned (D : DM) : DM := { D with armed := D.armed - 1, turns := D.turns + 1 }
def DM.write (D : DM) (n : Int) (b : List Int) : Int × DM :=
  if D.down then (11, D) else if ¬ D.has n ∨ 256 < b.length then (2, D) else if D.armed = 1 then (11, D.trips) else (0, { D.turned with waits := D.waits ++ [(n.toNat, padB b)] })
def DM.sync (D : DM) : Int × DM := if D.down then (11, D) else if D.armed = 1 then (11, D.trips) else (0, D.turned.settle fun _ => 8)
def DM.arm (D : DM) (n : Int) : DM := if D.down then D else { D with armed := n.toNat }
def DM.crash (D : DM) : Int × DM := if D.down then (11, D) else (0, { D with down := true, crashes := D.crashes + 1 })
/-- The sectors that are stored of the i-th write. -/
def fate (stay torn sectors : Int) (i : Nat) : Nat :=
  if (i : Int) = torn then (sectors % 9).toNat else if bits .and .i64 (stay / 2 ^ (i % 60)) 1 = 1 then 8 else 0
def DM.wake (D : DM) (stay torn sectors : Int) : Int × DM := if D.down then (0, { D.settle (fate stay torn sectors) with armed := 0, down := false }) else (16, D)
def DM.hurt (D : DM) (n : Nat) (b : List Int) : Int × DM :=
  if b = D.stored n then (2, D) else if (D.cells.getD n ([], false)).2 then (16, D) else (0, { D with cells := D.cells.set n (b, true) })
def flipAt (b : List Int) (bit : Nat) (mask : Nat) (i : Nat) : List Int :=
  if mask.testBit i then b.set ((bit + i) / 8) (((b.getD ((bit + i) / 8) 0).toNat ^^^ (1 <<< ((bit + i) % 8)) : Nat) : Int) else b
def flipK (b : List Int) (bit mask : Nat) : Nat → List Int
  | 0 => b
  | k + 1 => flipAt (flipK b bit mask k) bit mask k
def DM.rot (D : DM) (n bit : Int) (mask : Nat) : Int × DM :=
  if D.has n ∧ 0 ≤ bit ∧ bit < 2048 then D.hurt n.toNat (flipK (D.stored n.toNat) bit.toNat mask (min 32 (2048 - bit.toNat))) else (2, D)
def DM.wipe (D : DM) (n : Int) : Int × DM := if D.has n then D.hurt n.toNat (List.replicate 256 0) else (2, D)
theorem xor_byte {x : Int} (hx : 0 ≤ x ∧ x < 256) {j : Nat} (hj : j < 8) : (0 : Int) ≤ ((x.toNat ^^^ (1 <<< j) : Nat) : Int) ∧ ((x.toNat ^^^ (1 <<< j) : Nat) : Int) < 256 := by
  have h1 : x.toNat < 2 ^ 8 := by omega
  have h2 : 1 <<< j < 2 ^ 8 := by
    rw [Nat.one_shiftLeft]; exact Nat.pow_lt_pow_right (by decide) hj
  have := Nat.xor_lt_two_pow h1 h2
  omega
theorem flipAt_ok {b : List Int} (h : BlkOk b) (bit mask i : Nat) : BlkOk (flipAt b bit mask i) := by
  unfold flipAt
  split
  · refine ⟨by rw [List.length_set]; exact h.1, fun z hz => ?_⟩
    rcases List.mem_or_eq_of_mem_set hz with hz | rfl
    · exact h.2 z hz
    · refine xor_byte ?_ (Nat.mod_lt _ (by decide))
      by_cases hlt : (bit + i) / 8 < b.length
      · rw [List.getD_eq_getElem?_getD, List.getElem?_eq_getElem hlt]
        exact h.2 _ (List.getElem_mem hlt)
      · rw [List.getD_eq_getElem?_getD, List.getElem?_eq_none (by omega)]; exact ⟨by decide, by decide⟩
  · exact h
theorem flipK_ok {b : List Int} (h : BlkOk b) (bit mask : Nat) : ∀ k, BlkOk (flipK b bit mask k)
  | 0 => h
  | k + 1 => flipAt_ok (flipK_ok h bit mask k) bit mask k
theorem DM.Ok.hurt {D : DM} (h : D.Ok) {n : Nat} {b : List Int} (hb : BlkOk b) : (D.hurt n b).2.Ok := by
  unfold DM.hurt
  split
  · exact h
  · split
    · exact h
    · refine ⟨by simpa using h.some_, by simpa using h.many, fun j c hj => ?_, (by simpa using h.wn), h.wb⟩
      rw [List.getElem?_set] at hj
      split at hj
      · split at hj
        · injection hj with hj; subst hj; exact hb
        · cases hj
      · exact h.bytes j c hj
theorem DM.Ok.rot {D : DM} (h : D.Ok) (n bit : Int) (mask : Nat) : (D.rot n bit mask).2.Ok := by
  unfold DM.rot
  split
  · next hc =>
    unfold DM.has at hc
    exact h.hurt (flipK_ok (h.stored (by omega)) _ _ _)
  · exact h
theorem DM.Ok.wipe {D : DM} (h : D.Ok) (n : Int) : (D.wipe n).2.Ok := by
  unfold DM.wipe
  split
  · exact h.hurt nought_ok
  · exact h
theorem DM.Ok.trips {D : DM} (h : D.Ok) : D.trips.Ok := ⟨h.1, h.2, h.3, h.4, h.5⟩
theorem DM.Ok.turned {D : DM} (h : D.Ok) : D.turned.Ok := ⟨h.1, h.2, h.3, h.4, h.5⟩
theorem DM.Ok.write {D : DM} (h : D.Ok) (n : Int) {b : List Int} (hb : ∀ z ∈ b, 0 ≤ z ∧ z < 256) : (D.write n b).2.Ok := by
  unfold DM.write
  split
  · exact h
  · split
    · exact h
    · next hc =>
      split
      · exact h.trips
      · unfold DM.has at hc
        refine ⟨h.1, h.2, h.3, fun p hp => ?_, fun p hp => ?_⟩
        · rcases List.mem_append.1 hp with hp | hp
          · exact h.wn p hp
          · obtain rfl := List.mem_singleton.1 hp
            show n.toNat < D.cells.length
            omega
        · rcases List.mem_append.1 hp with hp | hp
          · exact h.wb p hp
          · obtain rfl := List.mem_singleton.1 hp
            exact padB_ok (by omega) hb
theorem DM.Ok.sync {D : DM} (h : D.Ok) : D.sync.2.Ok := by
  unfold DM.sync
  split
  · exact h
  · split
    · exact h.trips
    · exact h.turned.settle (fun _ => Nat.le_refl 8)
theorem DM.Ok.arm {D : DM} (h : D.Ok) (n : Int) : (D.arm n).Ok := by
  unfold DM.arm
  split
  · exact h
  · exact ⟨h.1, h.2, h.3, h.4, h.5⟩
theorem DM.Ok.crash {D : DM} (h : D.Ok) : D.crash.2.Ok := by
  unfold DM.crash
  split
  · exact h
  · exact ⟨h.1, h.2, h.3, h.4, h.5⟩
theorem fate_le (stay torn sectors : Int) (i : Nat) : fate stay torn sectors i ≤ 8 := by
  unfold fate
  split
  · have := Int.emod_lt_of_pos sectors (show (0 : Int) < 9 by decide); omega
  · split <;> omega
theorem DM.Ok.wake {D : DM} (h : D.Ok) (stay torn sectors : Int) : (D.wake stay torn sectors).2.Ok := by
  unfold DM.wake
  split
  · have := h.settle (fate_le stay torn sectors)
    exact ⟨this.1, this.2, this.3, this.4, this.5⟩
  · exact h
/-- A new disk. -/
def DM.new (n : Nat) : DM := ⟨List.replicate n nought, [], 0, 0, 0, false⟩
theorem DM.new_ok {n : Nat} (h0 : 0 < n) (h1 : n ≤ 4096) : (DM.new n).Ok :=
  ⟨by simpa [DM.new] using h0, by simpa [DM.new] using h1, fun j c hc => by
    have := List.mem_of_getElem? hc
    unfold DM.new at this
    rw [List.mem_replicate] at this
    rw [this.2]; exact nought_ok, (fun p hp => by cases hp), (fun p hp => by cases hp)⟩
end Go.Proofs.YtpdfmpegcejmkaaGreatDoor
