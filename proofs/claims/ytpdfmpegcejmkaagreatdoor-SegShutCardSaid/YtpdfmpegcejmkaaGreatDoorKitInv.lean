/- A region that draws its order, by an invariant over what has come up: each operation is shown once, whatever came before it. -/
import Derived.Test.YtpdfmpegcejmkaaGreatDoorKitSsa
namespace Go.Proofs.YtpdfmpegcejmkaaGreatDoor
open Go
namespace Ssa
def putV (t0 : Array Value) (d : Option Tmp) (v : Value) : Array Value := match d with | some d => t0.setIfInBounds d v | none => t0
theorem putV_size (t0 : Array Value) (d : Option Tmp) (v : Value) : (putV t0 d v).size = t0.size := by
  cases d with
  | none => rfl
  | some d => show (t0.setIfInBounds d v).size = _; simp
theorem putV_other {t0 : Array Value} {d : Option Tmp} {v : Value} {t : Nat} (h : d ≠ some t) : (putV t0 d v)[t]? = t0[t]? := by
  cases d with
  | none => rfl
  | some d =>
    show (t0.setIfInBounds d v)[t]? = _
    rw [getElem?_setDst, if_neg (fun hh => h (by rw [hh.1]))]
/-- The temporaries, each that the region writes by what its operation yielded. -/
def mixV : List Oper → Nat → Array Value → (Nat → Value) → Array Value
  | [], _, t0, _ => t0
  | o :: l, i, t0, V => mixV l (i + 1) (putV t0 o.dst (V i)) V
/-- No temporary is written twice; each is there. -/
def dstsOk (n : Nat) : List Oper → Bool
  | [] => true
  | o :: l => (match o.dst with | some d => decide (d < n) && l.all (fun o' => o'.dst != some d) | none => true) && dstsOk n l
theorem mixV_size (l : List Oper) : ∀ (i : Nat) (t0 : Array Value) (V : Nat → Value), (mixV l i t0 V).size = t0.size := by
  induction l with
  | nil => intros; rfl
  | cons o l ih =>
    intro i t0 V
    show (mixV l (i + 1) _ V).size = _
    rw [ih, putV_size]
theorem mixV_other (l : List Oper) : ∀ (i : Nat) (t0 : Array Value) (V : Nat → Value) (t : Nat), (∀ o ∈ l, o.dst ≠ some t) → (mixV l i t0 V)[t]? = t0[t]? := by
  induction l with
  | nil => intros; rfl
  | cons o l ih =>
    intro i t0 V t h
    show (mixV l (i + 1) _ V)[t]? = _
    rw [ih _ _ _ _ (fun o' ho' => h o' (List.mem_cons_of_mem _ ho')), putV_other (h o List.mem_cons_self)]
theorem mixV_at (l : List Oper) : ∀ (i : Nat) (t0 : Array Value) (V : Nat → Value) (j : Nat) (o : Oper) (t : Nat), dstsOk t0.size l = true → l[j]? = some o → o.dst = some t → (mixV l i t0 V)[t]? = some (V (i + j)) := by
  induction l with
  | nil => intro i t0 V j o t _ hj; simp at hj
  | cons o l ih =>
    intro i t0 V j o' t hok hj ht
    show (mixV l (i + 1) _ V)[t]? = _
    unfold dstsOk at hok
    rw [Bool.and_eq_true] at hok
    cases j with
    | zero =>
      obtain rfl : o = o' := by simpa using hj
      have h1 := hok.1
      rw [ht] at h1
      simp only [Bool.and_eq_true, decide_eq_true_eq] at h1
      rw [mixV_other l (i + 1) _ V t (fun o2 ho2 => by simpa using List.all_eq_true.1 h1.2 o2 ho2), ht]
      show (t0.setIfInBounds t (V i))[t]? = _
      rw [getElem?_setDst, if_pos ⟨rfl, h1.1⟩, Nat.add_zero]
    | succ j =>
      rw [ih (i + 1) _ V j o' t (by rw [putV_size]; exact hok.2) (by simpa using hj) ht, show i + 1 + j = i + (j + 1) by omega]
section
variable {P : Program} {ops : Array Oper} {Q : Exit → Act → World → Prop} {ds : List Deferred}
/-- What an operation yields, over temporaries, in a world. -/
def OpVal (P : Program) (Jp : List PanicEntry → World → Prop) (ρ : Operand → Value) (o : Oper) (w : World) (J : Value → World → Prop) : Prop :=
  match (execOp ρ o).run P w with
  | .ok (.value v) w' => J v w'
  | .ok .skip w' => J undef w'
  | .ok (.enter f args) w' => Calls P f args w' fun e w'' => (∃ v, e = .returned v ∧ J v w'') ∨ (∃ c, e = .panicked c ∧ Jp c w'')
  | _ => False
def upd {α : Type} (f : Nat → α) (i : Nat) (x : α) : Nat → α := fun j => if j = i then x else f j
/-- What is shown of an operation: from what the invariant says, it yields what the invariant says then. -/
def OpInv (P : Program) (Jp : List PanicEntry → World → Prop) (l : List Oper) (t0 : Array Value) (ds : List Deferred) (I : (Nat → Bool) → (Nat → Value) → World → Prop) (i : Nat) (o : Oper) : Prop :=
  ∀ (D : Nat → Bool) (V : Nat → Value) (w : World), D i = false → (∀ e ∈ o.after, Region.binds .any e = true → D e.on = true) → I D V w →
    (Region.wanted o (yielded l.toArray (mixV l 0 t0 V)) = true ∧ OpVal P Jp (Act.eval ⟨mixV l 0 t0 V, ds⟩) o w fun v w' => I (upd D i true) (upd V i v) w') ∨
    (Region.wanted o (yielded l.toArray (mixV l 0 t0 V)) = false ∧ I (upd D i true) (upd V i undef) w)
theorem upon_of {o : Oper} {a : Act} {next : Act → World → Prop} {r : Result Next} {J : Value → World → Prop} {Jp : List PanicEntry → World → Prop}
    (h : match r with | .ok (.value v) w' => J v w' | .ok .skip w' => J undef w' | .ok (.enter f args) w' => Calls P f args w' (fun e w'' => (∃ v, e = .returned v ∧ J v w'') ∨ (∃ c, e = .panicked c ∧ Jp c w'')) | _ => False)
    (hn : ∀ v w', J v w' → next (a.put o.dst v) w') (hp : ∀ c w', Jp c w' → Q (.panic c) a w') : o.upon P a next Q r := by
  unfold Oper.upon
  split at h
  · exact hn _ _ h
  · exact hn _ _ h
  · refine h.mono ?_
    rintro e w' (⟨v, rfl, hJ⟩ | ⟨c, rfl, hJ⟩)
    · exact hn _ _ hJ
    · exact hp _ _ hJ
  · exact h.elim
theorem dsts_lt : ∀ {l : List Oper} {n j : Nat} {o : Oper} {t : Tmp}, dstsOk n l = true → l[j]? = some o → o.dst = some t → t < n := by
  intro l
  induction l with
  | nil => intro n j o t _ hj; simp at hj
  | cons x l ih =>
    intro n j o t hok hj ht
    unfold dstsOk at hok
    rw [Bool.and_eq_true] at hok
    cases j with
    | zero =>
      obtain rfl : x = o := by simpa using hj
      have h1 := hok.1
      rw [ht] at h1
      simp only [Bool.and_eq_true, decide_eq_true_eq] at h1
      exact h1.1
    | succ j => exact ih hok.2 (by simpa using hj) ht
theorem dsts_ne : ∀ {l : List Oper} {n j k : Nat} {o o' : Oper} {t : Tmp}, dstsOk n l = true → j ≠ k → l[j]? = some o → l[k]? = some o' → o.dst = some t → o'.dst ≠ some t := by
  intro l
  induction l with
  | nil => intro n j k o o' t _ _ hj; simp at hj
  | cons x l ih =>
    intro n j k o o' t hok hjk hj hk ht hk'
    unfold dstsOk at hok
    rw [Bool.and_eq_true] at hok
    have first : ∀ {y z : Oper}, (match y.dst with | some d => decide (d < n) && l.all (fun o' => o'.dst != some d) | none => true) = true → z ∈ l → y.dst = some t → z.dst = some t → False := by
      intro y z h1 hz hy hz'
      rw [hy] at h1
      simp only [Bool.and_eq_true, decide_eq_true_eq] at h1
      have h2 := List.all_eq_true.1 h1.2 z hz
      rw [hz'] at h2
      simp at h2
    cases j with
    | zero =>
      obtain rfl : x = o := by simpa using hj
      cases k with
      | zero => exact hjk rfl
      | succ k => exact first hok.1 (List.mem_of_getElem? (by simpa using hk)) ht hk'
    | succ j =>
      cases k with
      | zero =>
        obtain rfl : x = o' := by simpa using hk
        exact first hok.1 (List.mem_of_getElem? (by simpa using hj)) hk' ht
      | succ k => exact ih hok.2 (fun h : j = k => hjk (by omega)) (by simpa using hj) (by simpa using hk) ht hk'
/-- The temporaries as far as the operations have come up. -/
structure InvV (l : List Oper) (t0 : Array Value) (ds : List Deferred) (D : Nat → Bool) (V : Nat → Value) (a : Act) : Prop where
  defers : a.defers = ds
  size : a.tmps.size = t0.size
  done : ∀ j o t, l[j]? = some o → o.dst = some t → D j = true → a.tmps[t]? = some (V j)
  rest : ∀ t, (∀ o ∈ l, o.dst ≠ some t) → a.tmps[t]? = t0[t]?
section
variable {l : List Oper} {t0 : Array Value} {D : Nat → Bool} {V : Nat → Value} {a : Act} {o : Oper}
theorem InvV.looks (h : InvV l t0 ds D V a) (hd : dstsOk t0.size l = true) (hok : looksOk l.toArray o = true) (hall : ∀ e ∈ o.after, Region.binds .any e = true → D e.on = true) (t : Tmp) (ht : t ∈ o.looksAt l.toArray) : a.tmps[t]? = (mixV l 0 t0 V)[t]? := by
  have h1 := List.all_eq_true.1 hok t ht
  rw [Bool.or_eq_true] at h1
  rcases h1 with h1 | h1
  · obtain ⟨e, he, h2⟩ := List.any_eq_true.1 h1
    rw [Bool.and_eq_true] at h2
    have hl := hall e (by simpa using he) h2.1
    have h3 := eq_of_beq h2.2
    cases hj : l[e.on]? with
    | none => simp [hj] at h3
    | some oj =>
      have h4 : oj.dst = some t := by simpa [hj] using h3
      rw [h.done e.on oj t hj h4 hl, mixV_at l 0 t0 V e.on oj t hd hj h4, Nat.zero_add]
  · have h5 : ∀ o' ∈ l, o'.dst ≠ some t := fun o' ho' => by
      have h2 := List.all_eq_true.1 h1 o' (by simpa using ho')
      simpa using h2
    rw [h.rest t h5, mixV_other l 0 t0 V t h5]
theorem InvV.exec (h : InvV l t0 ds D V a) (hd : dstsOk t0.size l = true) (hok : looksOk l.toArray o = true) (hall : ∀ e ∈ o.after, Region.binds .any e = true → D e.on = true) (hs : ∀ cs b, o.op ≠ .select cs b) :
    execOp a.eval o = execOp (Act.eval ⟨mixV l 0 t0 V, ds⟩) o := by
  refine execOp_congr o hs fun x hx => ?_
  cases x with
  | tmp t =>
    have := h.looks hd hok hall t (List.mem_append_left _ (List.mem_filterMap.2 ⟨.tmp t, by simpa using hx, rfl⟩))
    simp only [Act.eval, Array.getD_eq_getD_getElem?, this]
  | _ => rfl
theorem InvV.guard (h : InvV l t0 ds D V a) (hd : dstsOk t0.size l = true) (hok : looksOk l.toArray o = true) (hall : ∀ e ∈ o.after, Region.binds .any e = true → D e.on = true) :
    Region.wanted o (yielded l.toArray a.tmps) = Region.wanted o (yielded l.toArray (mixV l 0 t0 V)) := by
  unfold Region.wanted
  cases hg : o.guard with
  | none => rfl
  | some gw =>
    obtain ⟨g, want⟩ := gw
    have hy : yielded l.toArray a.tmps g = yielded l.toArray (mixV l 0 t0 V) g := by
      unfold yielded
      cases ht : (l.toArray[g]?).bind (·.dst) with
      | none => rfl
      | some t =>
        have := h.looks hd hok hall t (by simp only [Oper.looksAt, hg, ht]; simp)
        simp only [Option.bind_some, this]
    simp only [hy]
theorem InvV.put {i : Nat} {v : Value} (h : InvV l t0 ds D V a) (hd : dstsOk t0.size l = true) (hi : l[i]? = some o) : InvV l t0 ds (upd D i true) (upd V i v) (a.put o.dst v) := by
  have hget : ∀ t, (a.put o.dst v).tmps[t]? = if o.dst = some t then some v else a.tmps[t]? := by
    intro t
    cases hdo : o.dst with
    | none => simp [Act.put]
    | some d =>
      show (a.tmps.setIfInBounds d v)[t]? = _
      rw [getElem?_setDst]
      by_cases ht : d = t
      · subst ht
        rw [if_pos ⟨rfl, by rw [h.size]; exact dsts_lt hd hi hdo⟩, if_pos rfl]
      · rw [if_neg (fun hh => ht hh.1), if_neg (fun hh => ht (Option.some.inj hh))]
  refine ⟨?_, ?_, fun j o' t hj ht hl => ?_, fun t ht => ?_⟩
  · cases hdo : o.dst <;> exact h.defers
  · cases hdo : o.dst with
    | none => exact h.size
    | some d => show (a.tmps.setIfInBounds d v).size = _; simp [h.size]
  · rw [hget]
    by_cases hij : j = i
    · subst hij
      obtain rfl : o = o' := Option.some.inj (hi.symm.trans hj)
      rw [if_pos ht]
      simp [upd]
    · rw [if_neg (fun hh => dsts_ne hd (fun e => hij e.symm) hi hj hh ht)]
      have hl' : D j = true := by simpa [upd, hij] using hl
      rw [h.done j o' t hj ht hl']
      simp [upd, hij]
  · rw [hget, if_neg (ht o (List.mem_of_getElem? hi))]
    exact h.rest t ht
theorem InvV.all (h : InvV l t0 ds D V a) (hd : dstsOk t0.size l = true) (hall : ∀ i, i < l.length → D i = true) : a = ⟨mixV l 0 t0 V, ds⟩ := by
  obtain ⟨tm, de⟩ := a
  have h1 : de = ds := h.defers
  have h2 : tm = mixV l 0 t0 V := by
    refine Array.ext_getElem? fun t => ?_
    by_cases hx : ∀ o ∈ l, o.dst ≠ some t
    · rw [mixV_other l 0 t0 V t hx]; exact h.rest t hx
    · simp only [Classical.not_forall] at hx
      obtain ⟨o, ho, hx⟩ := hx
      have hx : o.dst = some t := Classical.not_not.1 hx
      obtain ⟨j, hj⟩ := List.getElem?_of_mem ho
      rw [mixV_at l 0 t0 V j o t hd hj hx, Nat.zero_add]
      exact h.done j o t hj hx (hall j (List.getElem?_eq_some_iff.1 hj).1)
  rw [h1, h2]
end
theorem upd_listed {listed : Array Bool} {i : Nat} (h : i < listed.size) : upd (fun j => listed.getD j false) i true = fun j => (listed.setIfInBounds i true).getD j false := by
  funext j
  unfold upd
  simp only [Array.getD_eq_getD_getElem?, Array.getElem?_setIfInBounds]
  by_cases hj : j = i
  · subst hj; simp [h]
  · rw [if_neg hj, if_neg (fun e => hj e.symm)]
theorem any_inv {Jp : List PanicEntry → World → Prop} {l : List Oper} {t0 : Array Value} {I : (Nat → Bool) → (Nat → Value) → World → Prop} (hns : Region.noSelect l.toArray = true) (hok : okB l.toArray = true) (hd : dstsOk t0.size l = true)
    (hops : ∀ (i : Nat) (o : Oper), l[i]? = some o → OpInv P Jp l t0 ds I i o) (hQ : ∀ D V w', (∀ i, i < l.length → D i = true) → I D V w' → Q .normal ⟨mixV l 0 t0 V, ds⟩ w') (hP : ∀ c (a : Act) w', a.defers = ds → Jp c w' → Q (.panic c) a w') :
    ∀ (fuel : Nat) (listed : Array Bool) (V : Nat → Value) (a : Act) (w : World), listed.size = l.length → left l.length listed ≤ fuel → InvV l t0 ds (fun j => listed.getD j false) V a → I (fun j => listed.getD j false) V w → wpAny P .any l.toArray Q fuel listed a w := by
  have hend : ∀ (listed : Array Bool) (V : Nat → Value) (a : Act) (w : World), listed.size = l.length → InvV l t0 ds (fun j => listed.getD j false) V a → I (fun j => listed.getD j false) V w → Region.ready .any l.toArray listed = [] → Q .normal a w := by
    intro listed V a w hsz hI hS hr
    have hall := all_listed hok (by simpa using hsz) hr
    have hall' : ∀ i, i < l.length → (fun j => listed.getD j false) i = true := fun i hi => hall i (by simpa using hi)
    rw [hI.all hd hall']
    exact hQ _ V w hall' hS
  intro fuel
  induction fuel with
  | zero =>
    intro listed V a w hsz hf hI hS
    have hr : Region.ready .any l.toArray listed = [] := by
      cases hr : Region.ready .any l.toArray listed with
      | nil => rfl
      | cons i r =>
        exfalso
        have hi : i ∈ Region.ready .any l.toArray listed := by rw [hr]; exact List.mem_cons_self
        obtain ⟨hl, o, ho, _⟩ := mem_ready.1 hi
        have := left_less (n := l.length) (by simpa using (Array.getElem?_eq_some_iff.1 ho).1) hl
        omega
    exact ⟨hr, hend listed V a w hsz hI hS hr⟩
  | succ fuel ih =>
    intro listed V a w hsz hf hI hS
    refine ⟨hend listed V a w hsz hI hS, fun i hi => ?_⟩
    obtain ⟨hl, o, ho, hall⟩ := mem_ready.1 hi
    have hlt : i < l.length := by simpa using (Array.getElem?_eq_some_iff.1 ho).1
    have ho' : l[i]? = some o := by simpa using ho
    have hlook := (okB_spec hok ho).1
    have hless := left_less hlt hl
    have hs := Region.noSelect_spec hns i o
    have hlf : listed.getD i false = false := by
      rw [Array.getD_eq_getD_getElem?] at hl ⊢
      cases hq : listed[i]? with
      | none => rfl
      | some b => rw [hq] at hl; exact hl
    have hex := hI.exec hd hlook hall (fun cs b => hs cs b ho)
    have hgd := hI.guard hd hlook hall
    have next : ∀ v w', I (upd (fun j => listed.getD j false) i true) (upd V i v) w' → wpAny P .any l.toArray Q fuel (listed.setIfInBounds i true) (a.put o.dst v) w' := fun v w' hS' => by
      have hp := hI.put (v := v) hd ho'
      rw [upd_listed (by omega)] at hp hS'
      exact ih _ _ _ w' (by simpa using hsz) (by omega) hp hS'
    unfold wpOp
    simp only [ho]
    rcases hops i o ho' _ V w hlf hall hS with ⟨hw, hv⟩ | ⟨hw, hv⟩
    · rw [hgd, if_pos hw]
      refine .inl ?_
      unfold Oper.wp
      rw [hex]
      exact upon_of hv next (fun c w' h => hP c a w' hI.defers h)
    · rw [hgd, if_neg (by rw [hw]; decide)]
      exact next undef w hv
/-- THE LAW: of a region of such operations all come up, whatever the order; the invariant holds then. -/
theorem wp_region_inv {Jp : List PanicEntry → World → Prop} {l : List Oper} {id : Nat} {t0 : Array Value} {w : World} (I : (Nat → Bool) → (Nat → Value) → World → Prop) (hm : P.follows .mixedOrders = true) (hns : Region.noSelect l.toArray = true) (hok : okB l.toArray = true) (hd : dstsOk t0.size l = true)
    (h0 : ∀ V, I (fun _ => false) V w.drew) (hops : ∀ (i : Nat) (o : Oper), l[i]? = some o → OpInv P Jp l t0 ds I i o) (hQ : ∀ D V w', (∀ i, i < l.length → D i = true) → I D V w' → Q .normal ⟨mixV l 0 t0 V, ds⟩ w') (hP : ∀ c (a : Act) w', a.defers = ds → Jp c w' → Q (.panic c) a w') :
    (Code.region id l.toArray true).wp P Q ⟨t0, ds⟩ w := by
  have hD : (fun j => (Array.replicate l.length false).getD j false) = fun _ : Nat => false := by
    funext j
    by_cases h : j < l.length <;> simp [h]
  refine wp_region_any hm ?_
  have hstart : InvV l t0 ds (fun j => (Array.replicate l.length false).getD j false) (fun _ => undef) ⟨t0, ds⟩ := by
    rw [hD]
    exact ⟨rfl, rfl, fun j o t _ _ hl => absurd hl (by decide), fun t _ => rfl⟩
  have h := any_inv (Q := Q) (P := P) hns hok hd hops hQ hP l.length (Array.replicate l.length false) (fun _ => undef) ⟨t0, ds⟩ w.drew (by simp) (Nat.le_trans (List.length_filter_le _ _) (by simp)) hstart (by rw [hD]; exact h0 _)
  have hs : l.toArray.size = l.length := by simp
  rw [hs]
  exact h
end
/-! ### The operations' shapes -/
section
variable {P : Program} {ρ : Operand → Value} {o : Oper} {w w' : World} {J : Value → World → Prop} {Jp : List PanicEntry → World → Prop}
theorem ov_val {v : Value} (hr : (execOp ρ o).run P w = .ok (.value v) w') (hJ : J v w') : OpVal P Jp ρ o w J := by unfold OpVal; rw [hr]; exact hJ
theorem ov_skip (hr : (execOp ρ o).run P w = .ok .skip w') (hJ : J undef w') : OpVal P Jp ρ o w J := by unfold OpVal; rw [hr]; exact hJ
theorem ov_call {f : FuncId} {args : Array Value} (hr : (execOp ρ o).run P w = .ok (.enter f args) w') (hc : Calls P f args w' fun e w'' => ∃ v, e = .returned v ∧ J v w'') : OpVal P Jp ρ o w J := by unfold OpVal; rw [hr]; exact hc.mono fun _ _ h => .inl h
theorem ov_callP {f : FuncId} {args : Array Value} (hr : (execOp ρ o).run P w = .ok (.enter f args) w') (hc : Calls P f args w' fun e w'' => (∃ v, e = .returned v ∧ J v w'') ∨ (∃ c, e = .panicked c ∧ Jp c w'')) : OpVal P Jp ρ o w J := by unfold OpVal; rw [hr]; exact hc
theorem evM {l : List Oper} {t0 : Array Value} {V : Nat → Value} {ds : List Deferred} (hd : dstsOk t0.size l = true) (j : Nat) {o : Oper} {t : Tmp} (hj : l[j]? = some o) (ht : o.dst = some t) : Act.eval ⟨mixV l 0 t0 V, ds⟩ (.tmp t) = V j := by
  have h := mixV_at l 0 t0 V j o t hd hj ht
  rw [Nat.zero_add] at h
  exact ev h
theorem evT {l : List Oper} {t0 : Array Value} {V : Nat → Value} {ds : List Deferred} {t : Tmp} {v : Value} (hn : (l.all fun o => o.dst != some t) = true) (h : t0[t]? = some v) : Act.eval ⟨mixV l 0 t0 V, ds⟩ (.tmp t) = v := by
  refine ev ?_
  rw [mixV_other l 0 t0 V t (fun o ho => by simpa using List.all_eq_true.1 hn o ho)]
  exact h
theorem exec_alloc {t : TypeId} {v : Value} (ho : o.op = .alloc t) (hr : (Instr.alloc t true (.tuple #[])).run P w = .ok v w') : (execOp ρ o).run P w = .ok (.value v) w' := by
  unfold execOp
  simp only [ho, Sem.run_bind, hr, Result.andThen_ok, Sem.run_pure]
theorem exec_field {s : TypeId} {x : Operand} {f : Nat} {g v : Value} (ho : o.op = .fieldAddr s x f) (hx : ρ x = g) (hr : (Instr.fieldAt s g f).run P w = .ok v w) : (execOp ρ o).run P w = .ok (.value v) w := by
  subst hx
  unfold execOp
  simp only [ho, Sem.run_bind, hr, Result.andThen_ok, Sem.run_pure]
theorem exec_store {t : TypeId} {x y : Operand} {g v : Value} (ho : o.op = .store t x y) (hx : ρ x = g) (hy : ρ y = v) (hr : (Instr.storeAt t g v).run P w = .ok () w') : (execOp ρ o).run P w = .ok .skip w' := by
  subst hx
  subst hy
  unfold execOp
  simp only [ho, Sem.run_bind, hr, Result.andThen_ok, Sem.run_pure]
theorem exec_add {t u : TypeId} {x y : Operand} {k : IntKind} {n m z : Int} (ho : o.op = .binOp .add t x y u) (hx : ρ x = .int k n) (hy : ρ y = .int k m) (hz : k.wrap (n + m) = z) : (execOp ρ o).run P w = .ok (.value (.int k z)) w := by
  subst hz
  unfold execOp
  simp only [ho, hx, hy]
  go_simp
/-- That an operation waits for has come up. -/
theorem dep {D : Nat → Bool} (hall : ∀ e ∈ o.after, Region.binds .any e = true → D e.on = true) (k : Nat) {e} (h : o.after[k]? = some e) (hb : Region.binds .any e = true) : D e.on = true := hall e (Array.mem_of_getElem? h) hb
/-- The operations of a list, one after another. -/
def OpsInv (P : Program) (Jp : List PanicEntry → World → Prop) (L : List Oper) (t0 : Array Value) (ds : List Deferred) (I : (Nat → Bool) → (Nat → Value) → World → Prop) : Nat → List Oper → Prop
  | _, [] => True
  | i, o :: l => OpInv P Jp L t0 ds I i o ∧ OpsInv P Jp L t0 ds I (i + 1) l
theorem OpsInv.cons {Jp : List PanicEntry → World → Prop} {L : List Oper} {t0 : Array Value} {ds : List Deferred} {I : (Nat → Bool) → (Nat → Value) → World → Prop} {i : Nat} {o : Oper} {l : List Oper} (h : OpInv P Jp L t0 ds I i o) (t : OpsInv P Jp L t0 ds I (i + 1) l) : OpsInv P Jp L t0 ds I i (o :: l) := ⟨h, t⟩
theorem OpsInv.nil {Jp : List PanicEntry → World → Prop} {L : List Oper} {t0 : Array Value} {ds : List Deferred} {I : (Nat → Bool) → (Nat → Value) → World → Prop} {i : Nat} : OpsInv P Jp L t0 ds I i [] := trivial
theorem OpsInv.at {Jp : List PanicEntry → World → Prop} {L : List Oper} {t0 : Array Value} {ds : List Deferred} {I : (Nat → Bool) → (Nat → Value) → World → Prop} : ∀ {l : List Oper} {i : Nat}, OpsInv P Jp L t0 ds I i l → ∀ (j : Nat) (o : Oper), l[j]? = some o → OpInv P Jp L t0 ds I (i + j) o
  | [], _, _, _, _, h => by simp at h
  | x :: l, i, h, 0, o, hj => by
    obtain rfl : x = o := by simpa using hj
    exact h.1
  | x :: l, i, h, j + 1, o, hj => by
    have := OpsInv.at h.2 j o (by simpa using hj)
    rw [show i + (j + 1) = i + 1 + j by omega]
    exact this
theorem OpsInv.all {Jp : List PanicEntry → World → Prop} {L : List Oper} {t0 : Array Value} {ds : List Deferred} {I : (Nat → Bool) → (Nat → Value) → World → Prop} (h : OpsInv P Jp L t0 ds I 0 L) (j : Nat) (o : Oper) (hj : L[j]? = some o) : OpInv P Jp L t0 ds I j o := by
  have := h.at j o hj
  rwa [Nat.zero_add] at this
/-- An operation that is wanted. -/
theorem opInv {Jp : List PanicEntry → World → Prop} {L : List Oper} {t0 : Array Value} {ds : List Deferred} {I : (Nat → Bool) → (Nat → Value) → World → Prop} {i : Nat} (hg : o.guard = none)
    (h : ∀ (D : Nat → Bool) (V : Nat → Value) (w : World), D i = false → (∀ e ∈ o.after, Region.binds .any e = true → D e.on = true) → I D V w → OpVal P Jp (Act.eval ⟨mixV L 0 t0 V, ds⟩) o w fun v w' => I (upd D i true) (upd V i v) w') : OpInv P Jp L t0 ds I i o :=
  fun D V w h1 h2 h3 => .inl ⟨by unfold Region.wanted; rw [hg], h D V w h1 h2 h3⟩
theorem exec_extract {x : Operand} {i : Nat} {vs : Array Value} {v : Value} (ho : o.op = .extract x i) (hx : ρ x = .tuple vs) (hv : vs[i]? = some v) : (execOp ρ o).run P w = .ok (.value v) w := by
  unfold execOp
  simp only [ho, hx]
  obtain ⟨hlt, rfl⟩ := Array.getElem?_eq_some_iff.1 hv
  go_simp
/-- The same, the operations one after another. -/
theorem wp_region_ops {P : Program} {Q : Exit → Act → World → Prop} {ds : List Deferred} {l : List Oper} {id : Nat} {t0 : Array Value} {w : World} (I : (Nat → Bool) → (Nat → Value) → World → Prop) (hm : P.follows .mixedOrders = true) (hns : Region.noSelect l.toArray = true) (hok : okB l.toArray = true) (hd : dstsOk t0.size l = true)
    (h0 : ∀ V, I (fun _ => false) V w.drew) (hops : dstsOk t0.size l = true → OpsInv P (fun _ _ => False) l t0 ds I 0 l) (hQ : ∀ D V w', (∀ i, i < l.length → D i = true) → I D V w' → Q .normal ⟨mixV l 0 t0 V, ds⟩ w') :
    (Code.region id l.toArray true).wp P Q ⟨t0, ds⟩ w := wp_region_inv I hm hns hok hd h0 (hops hd).all hQ (fun _ _ _ _ h => h.elim)
/-- The same, of calls that may panic. -/
theorem wp_region_opsP {P : Program} {Q : Exit → Act → World → Prop} {ds : List Deferred} {l : List Oper} {id : Nat} {t0 : Array Value} {w : World} (I : (Nat → Bool) → (Nat → Value) → World → Prop) (Jp : List PanicEntry → World → Prop) (hm : P.follows .mixedOrders = true) (hns : Region.noSelect l.toArray = true) (hok : okB l.toArray = true) (hd : dstsOk t0.size l = true)
    (h0 : ∀ V, I (fun _ => false) V w.drew) (hops : dstsOk t0.size l = true → OpsInv P Jp l t0 ds I 0 l) (hQ : ∀ D V w', (∀ i, i < l.length → D i = true) → I D V w' → Q .normal ⟨mixV l 0 t0 V, ds⟩ w') (hP : ∀ c (a : Act) w', a.defers = ds → Jp c w' → Q (.panic c) a w') :
    (Code.region id l.toArray true).wp P Q ⟨t0, ds⟩ w := wp_region_inv I hm hns hok hd h0 (hops hd).all hQ hP
end
attribute [irreducible] OpVal
end Ssa
end Go.Proofs.YtpdfmpegcejmkaaGreatDoor
