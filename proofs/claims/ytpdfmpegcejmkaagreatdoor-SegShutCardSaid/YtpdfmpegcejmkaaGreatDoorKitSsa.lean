/- A region that draws its order, each operation of which yields one value whatever came before it: walked once, in the text's order, whatever the draw. -/
import Derived.Orders
import Derived.Below
import Derived.Laws.Rows
import Derived.WalkKit
namespace Go.Proofs.YtpdfmpegcejmkaaGreatDoor
open Go
namespace Ssa
/-- Each temporary that o looks at is written by an operation that it waits for, or by none of the region; o waits for earlier ones alone. -/
def looksOk (ops : Array Oper) (o : Oper) : Bool :=
  (o.looksAt ops).all fun t => (o.after.toList.any fun e => Region.binds .any e && (((ops[e.on]?).bind (·.dst)) == some t)) || ops.toList.all fun o' => o'.dst != some t
def okB (ops : Array Oper) : Bool :=
  (List.range ops.size).all fun i => match ops[i]? with
    | none => true
    | some o => looksOk ops o && o.after.toList.all fun e => !Region.binds .any e || decide (e.on < i)
/-- The temporaries at the end, out of those at the start. -/
def mixStep (fin acc : Array Value) (x : Option Tmp) : Array Value := match x with | some d => acc.setIfInBounds d (fin.getD d undef) | none => acc
def mix (l : List Oper) (t0 fin : Array Value) : Array Value := l.foldl (fun acc o => mixStep fin acc o.dst) t0
def DstIs (fin : Array Value) (o : Oper) (v : Value) : Prop := ∀ d, o.dst = some d → fin[d]? = some v
section
variable {P : Program} {ops : Array Oper} {Q : Exit → Act → World → Prop} {S : World → Prop} {fin : Array Value} {ds : List Deferred}
/-- What an operation yields, in each world that meets S, over the temporaries of the end. -/
def OpFin (P : Program) (Y : Nat → Option Bool) (S : World → Prop) (fin : Array Value) (ds : List Deferred) (o : Oper) : Prop :=
  (Region.wanted o Y = true ∧
    ((∃ v, (∀ w, S w → (execOp (Act.eval ⟨fin, ds⟩) o).run P w = .ok (.value v) w) ∧ DstIs fin o v) ∨
     (∃ f args v, (∀ w, S w → (execOp (Act.eval ⟨fin, ds⟩) o).run P w = .ok (.enter f args) w) ∧ (∀ w, S w → Calls P f args w fun e w' => e = .returned v ∧ S w') ∧ DstIs fin o v))) ∨
  (Region.wanted o Y = false ∧ DstIs fin o undef)
theorem getElem?_setDst (x : Array Value) (d t : Nat) (v : Value) : (x.setIfInBounds d v)[t]? = if d = t ∧ t < x.size then some v else x[t]? := by
  rw [Array.getElem?_setIfInBounds]
  by_cases h : d = t
  · subst h
    by_cases h2 : d < x.size
    · simp [h2]
    · simp [h2]
  · simp [h]
theorem mix_size (l : List Oper) (t0 fin : Array Value) : (mix l t0 fin).size = t0.size := by
  induction l generalizing t0 with
  | nil => rfl
  | cons o l ih =>
    show (mix l (mixStep fin t0 o.dst) fin).size = _
    rw [ih]
    cases o.dst with
    | none => rfl
    | some d => show (t0.setIfInBounds d _).size = _; simp
theorem mix_other (l : List Oper) (t0 fin : Array Value) (t : Nat) (h : ∀ o ∈ l, o.dst ≠ some t) : (mix l t0 fin)[t]? = t0[t]? := by
  induction l generalizing t0 with
  | nil => rfl
  | cons o l ih =>
    show (mix l (mixStep fin t0 o.dst) fin)[t]? = _
    rw [ih _ (fun o' ho' => h o' (List.mem_cons_of_mem _ ho'))]
    have h1 := h o List.mem_cons_self
    cases hd : o.dst with
    | none => rfl
    | some d =>
      have hne : d ≠ t := fun e => h1 (by rw [hd, e])
      show (t0.setIfInBounds d _)[t]? = _
      rw [getElem?_setDst, if_neg (fun hh => hne hh.1)]
/-- The temporaries as far as the operations have come up. -/
structure Inv (ops : Array Oper) (fin : Array Value) (ds : List Deferred) (listed : Array Bool) (a : Act) : Prop where
  defers : a.defers = ds
  size : a.tmps.size = fin.size
  done : ∀ j o t, ops[j]? = some o → o.dst = some t → listed.getD j false = true → a.tmps[t]? = fin[t]?
  rest : ∀ t, (∀ o ∈ ops.toList, o.dst ≠ some t) → a.tmps[t]? = fin[t]?
theorem Inv.start {a : Act} {n : Nat} (hmix : mix ops.toList a.tmps fin = fin) : Inv ops fin a.defers (Array.replicate n false) a := by
  refine ⟨rfl, by rw [← hmix, mix_size], fun j o t _ _ hl => ?_, fun t ht => by rw [← mix_other ops.toList a.tmps fin t ht, hmix]⟩
  exfalso
  by_cases h : j < n <;> simp [h] at hl
theorem Inv.put {listed : Array Bool} {a : Act} {i : Nat} {o : Oper} {v : Value} (h : Inv ops fin ds listed a) (hi : ops[i]? = some o) (hv : DstIs fin o v) : Inv ops fin ds (listed.setIfInBounds i true) (a.put o.dst v) := by
  cases hd : o.dst with
  | none =>
    refine ⟨h.defers, h.size, fun j o' t hj ht hl => ?_, h.rest⟩
    by_cases hij : i = j
    · subst hij
      rw [hi] at hj
      obtain rfl := Option.some.inj hj
      rw [hd] at ht; cases ht
    · refine h.done j o' t hj ht ?_
      simp only [Array.getD_eq_getD_getElem?, Array.getElem?_setIfInBounds_ne hij] at hl ⊢
      exact hl
  | some d =>
    have hfd := hv d hd
    have hput : ∀ t, (a.put (some d) v).tmps[t]? = if d = t then fin[t]? else a.tmps[t]? := by
      intro t
      show (a.tmps.setIfInBounds d v)[t]? = _
      rw [getElem?_setDst]
      by_cases ht : d = t
      · subst ht
        have hlt : d < a.tmps.size := by rw [h.size]; exact (Array.getElem?_eq_some_iff.1 hfd).1
        rw [if_pos ⟨rfl, hlt⟩, if_pos rfl, hfd]
      · rw [if_neg (fun hh => ht hh.1), if_neg ht]
    refine ⟨h.defers, by show (a.tmps.setIfInBounds d v).size = _; simp [h.size], fun j o' t hj ht hl => ?_, fun t ht => ?_⟩
    · rw [hput]
      by_cases hdt : d = t
      · rw [if_pos hdt]
      · rw [if_neg hdt]
        by_cases hij : i = j
        · subst hij
          rw [hi] at hj
          obtain rfl := Option.some.inj hj
          rw [hd] at ht
          exact absurd (Option.some.inj ht) hdt
        · refine h.done j o' t hj ht ?_
          simp only [Array.getD_eq_getD_getElem?, Array.getElem?_setIfInBounds_ne hij] at hl ⊢
          exact hl
    · rw [hput]
      split
      · rfl
      · exact h.rest t ht
theorem okB_spec (h : okB ops = true) {i : Nat} {o : Oper} (hi : ops[i]? = some o) : looksOk ops o = true ∧ ∀ e ∈ o.after, Region.binds .any e = true → e.on < i := by
  have hlt : i < ops.size := (Array.getElem?_eq_some_iff.1 hi).1
  have h1 := List.all_eq_true.1 h i (List.mem_range.2 hlt)
  simp only [hi, Bool.and_eq_true] at h1
  refine ⟨h1.1, fun e he hb => ?_⟩
  have h2 := List.all_eq_true.1 h1.2 e (by simpa using he)
  simpa [hb] using h2
/-- What an operation that may come up looks at is as at the end. -/
theorem Inv.looks {listed : Array Bool} {a : Act} {o : Oper} (h : Inv ops fin ds listed a) (hok : looksOk ops o = true) (hall : ∀ e ∈ o.after, Region.binds .any e = true → listed.getD e.on false = true) (t : Tmp) (ht : t ∈ o.looksAt ops) : a.tmps[t]? = fin[t]? := by
  have h1 := List.all_eq_true.1 hok t ht
  rw [Bool.or_eq_true] at h1
  rcases h1 with h1 | h1
  · obtain ⟨e, he, h2⟩ := List.any_eq_true.1 h1
    rw [Bool.and_eq_true] at h2
    have hl := hall e (by simpa using he) h2.1
    have h3 := eq_of_beq h2.2
    cases hj : ops[e.on]? with
    | none => rw [hj] at h3; cases h3
    | some oj =>
      rw [hj] at h3
      exact h.done e.on oj t hj h3 hl
  · refine h.rest t (fun o' ho' => ?_)
    have h2 := List.all_eq_true.1 h1 o' ho'
    simpa using h2
theorem Inv.exec {listed : Array Bool} {a : Act} {o : Oper} (h : Inv ops fin ds listed a) (hok : looksOk ops o = true) (hall : ∀ e ∈ o.after, Region.binds .any e = true → listed.getD e.on false = true) (hs : ∀ cs b, o.op ≠ .select cs b) :
    execOp a.eval o = execOp (Act.eval ⟨fin, ds⟩) o := by
  refine execOp_congr o hs fun x hx => ?_
  cases x with
  | tmp t =>
    have := h.looks hok hall t (List.mem_append_left _ (List.mem_filterMap.2 ⟨.tmp t, by simpa using hx, rfl⟩))
    simp only [Act.eval, Array.getD_eq_getD_getElem?, this]
  | _ => rfl
theorem Inv.guard {listed : Array Bool} {a : Act} {o : Oper} (h : Inv ops fin ds listed a) (hok : looksOk ops o = true) (hall : ∀ e ∈ o.after, Region.binds .any e = true → listed.getD e.on false = true) :
    Region.wanted o (yielded ops a.tmps) = Region.wanted o (yielded ops fin) := by
  unfold Region.wanted
  cases hg : o.guard with
  | none => rfl
  | some gw =>
    obtain ⟨g, want⟩ := gw
    have hy : yielded ops a.tmps g = yielded ops fin g := by
      unfold yielded
      cases ht : (ops[g]?).bind (·.dst) with
      | none => rfl
      | some t =>
        have := h.looks hok hall t (by simp [Oper.looksAt, hg, ht])
        simp only [Option.bind_some, this]
    simp only [hy]
/-- How many have not come up. -/
def left (n : Nat) (listed : Array Bool) : Nat := ((List.range n).filter fun i => !listed.getD i true).length
theorem filter_less {p q : Nat → Bool} : ∀ (l : List Nat), (∀ x ∈ l, q x = true → p x = true) → ((l.filter q).length ≤ (l.filter p).length ∧ ((∃ x ∈ l, p x = true ∧ q x = false) → (l.filter q).length < (l.filter p).length))
  | [], _ => ⟨Nat.le_refl _, fun ⟨x, hx, _⟩ => by cases hx⟩
  | y :: l, h => by
    obtain ⟨h1, h2⟩ := filter_less l (fun x hx => h x (List.mem_cons_of_mem _ hx))
    have hy := h y List.mem_cons_self
    cases hq : q y <;> cases hp : p y <;> simp only [List.filter_cons, hq, hp] <;> try simp only [Bool.false_eq_true, if_false, if_true, List.length_cons]
    · refine ⟨h1, fun ⟨x, hx, hpx, hqx⟩ => ?_⟩
      rcases List.mem_cons.1 hx with rfl | hx
      · rw [hp] at hpx; cases hpx
      · exact h2 ⟨x, hx, hpx, hqx⟩
    · exact ⟨by omega, fun _ => by omega⟩
    · exact absurd (hy hq) (by rw [hp]; decide)
    · refine ⟨by omega, fun ⟨x, hx, hpx, hqx⟩ => ?_⟩
      rcases List.mem_cons.1 hx with rfl | hx
      · rw [hq] at hqx; cases hqx
      · have := h2 ⟨x, hx, hpx, hqx⟩; omega
theorem left_less {n : Nat} {listed : Array Bool} {i : Nat} (hi : i < n) (hl : listed.getD i true = false) : left n (listed.setIfInBounds i true) < left n listed := by
  have hsz : i < listed.size := by
    rcases Nat.lt_or_ge i listed.size with h | h
    · exact h
    · rw [Array.getD_eq_getD_getElem?, Array.getElem?_eq_none h] at hl; cases hl
  refine (filter_less (List.range n) (fun x _ hx => ?_)).2 ⟨i, List.mem_range.2 hi, by rw [hl]; rfl, ?_⟩
  · by_cases hix : i = x
    · subst hix; rw [hl]; rfl
    · rw [Array.getD_eq_getD_getElem?, Array.getElem?_setIfInBounds_ne hix, ← Array.getD_eq_getD_getElem?] at hx; exact hx
  · rw [Array.getD_eq_getD_getElem?, Array.getElem?_setIfInBounds_self_of_lt hsz]; rfl
theorem all_listed {listed : Array Bool} (hok : okB ops = true) (hsz : listed.size = ops.size) (hr : Region.ready .any ops listed = []) : ∀ i, i < ops.size → listed.getD i false = true := by
  intro i
  induction i using Nat.strongRecOn with
  | _ i ih =>
    intro hi
    cases hl : listed.getD i false with
    | true => rfl
    | false =>
      exfalso
      have hmem : i ∈ Region.ready .any ops listed := by
        refine mem_ready.2 ⟨?_, ops[i], Array.getElem?_eq_getElem hi, fun e he hb => ?_⟩
        · rw [Array.getD_eq_getD_getElem?, Array.getElem?_eq_getElem (by omega)] at hl ⊢
          exact hl
        · have := (okB_spec hok (Array.getElem?_eq_getElem hi)).2 e he hb
          exact ih e.on this (by omega)
      rw [hr] at hmem; cases hmem
theorem any_ssa (hns : Region.noSelect ops = true) (hok : okB ops = true) (hops : ∀ (i : Nat) (o : Oper), ops[i]? = some o → OpFin P (yielded ops fin) S fin ds o) (hQ : ∀ w', S w' → Q .normal ⟨fin, ds⟩ w') :
    ∀ (fuel : Nat) (listed : Array Bool) (a : Act) (w : World), listed.size = ops.size → left ops.size listed ≤ fuel → Inv ops fin ds listed a → S w → wpAny P .any ops Q fuel listed a w := by
  have hend : ∀ (listed : Array Bool) (a : Act) (w : World), listed.size = ops.size → Inv ops fin ds listed a → S w → Region.ready .any ops listed = [] → Q .normal a w := by
    intro listed a w hsz hI hS hr
    have hall := all_listed hok hsz hr
    have ha : a = ⟨fin, ds⟩ := by
      obtain ⟨tm, de⟩ := a
      have h1 := hI.defers
      have h2 : tm = fin := by
        refine Array.ext_getElem? fun t => ?_
        by_cases hd : ∀ o ∈ ops.toList, o.dst ≠ some t
        · exact hI.rest t hd
        · simp only [Classical.not_forall] at hd
          obtain ⟨o, ho, hd⟩ := hd
          have hd : o.dst = some t := Classical.not_not.1 hd
          obtain ⟨j, hj⟩ := Array.getElem?_of_mem (by simpa using ho)
          exact hI.done j o t hj hd (hall j (Array.getElem?_eq_some_iff.1 hj).1)
      simp only at h1
      rw [h1, h2]
    rw [ha]
    exact hQ w hS
  intro fuel
  induction fuel with
  | zero =>
    intro listed a w hsz hf hI hS
    have hr : Region.ready .any ops listed = [] := by
      cases hr : Region.ready .any ops listed with
      | nil => rfl
      | cons i l =>
        exfalso
        have hi : i ∈ Region.ready .any ops listed := by rw [hr]; exact List.mem_cons_self
        obtain ⟨hl, o, ho, _⟩ := mem_ready.1 hi
        have := left_less (Array.getElem?_eq_some_iff.1 ho).1 hl
        omega
    exact ⟨hr, hend listed a w hsz hI hS hr⟩
  | succ fuel ih =>
    intro listed a w hsz hf hI hS
    refine ⟨hend listed a w hsz hI hS, fun i hi => ?_⟩
    obtain ⟨hl, o, ho, hall⟩ := mem_ready.1 hi
    have hlt := (Array.getElem?_eq_some_iff.1 ho).1
    have hlook := (okB_spec hok ho).1
    have hless := left_less hlt hl
    have hs := Region.noSelect_spec hns i o
    have hex := hI.exec hlook hall (fun cs b => hs cs b ho)
    have hgd := hI.guard hlook hall
    have next : ∀ v w', DstIs fin o v → S w' → wpAny P .any ops Q fuel (listed.setIfInBounds i true) (a.put o.dst v) w' := fun v w' hv hS' =>
      ih _ _ w' (by simpa using hsz) (by omega) (hI.put ho hv) hS'
    unfold wpOp
    simp only [ho]
    rcases hops i o ho with ⟨hw, ⟨v, hrun, hv⟩ | ⟨f, args, v, hrun, hcall, hv⟩⟩ | ⟨hw, hv⟩
    · rw [hgd, if_pos hw]
      refine .inl ?_
      unfold Oper.wp
      rw [hex, hrun w hS]
      exact next v w hv hS
    · rw [hgd, if_pos hw]
      refine .inl ?_
      unfold Oper.wp
      rw [hex, hrun w hS]
      refine (hcall w hS).mono ?_
      rintro e w' ⟨rfl, hS'⟩
      exact next v w' hv hS'
    · rw [hgd, if_neg (by rw [hw]; decide)]
      exact next undef w hv hS
/-- Facts on all operations of a list. -/
def AllFin (P : Program) (Y : Nat → Option Bool) (S : World → Prop) (fin : Array Value) (ds : List Deferred) : List Oper → Prop
  | [] => True
  | o :: l => OpFin P Y S fin ds o ∧ AllFin P Y S fin ds l
theorem AllFin.mem {Y : Nat → Option Bool} {l : List Oper} (h : AllFin P Y S fin ds l) : ∀ o ∈ l, OpFin P Y S fin ds o := by
  induction l with
  | nil => intro o ho; cases ho
  | cons x l ih =>
    intro o ho
    rcases List.mem_cons.1 ho with rfl | ho
    · exact h.1
    · exact ih h.2 o ho
/-- THE LAW: a region of such operations ends with the temporaries 'fin', in a world that meets S. -/
theorem wp_region_ssa {id : Nat} {a : Act} {w : World} (fin : Array Value) (S : World → Prop) (hm : P.follows .mixedOrders = true) (hns : Region.noSelect ops = true) (hok : okB ops = true) (hmix : mix ops.toList a.tmps fin = fin) (hS : S w.drew)
    (hops : AllFin P (yielded ops fin) S fin a.defers ops.toList) (hQ : ∀ w', S w' → Q .normal ⟨fin, a.defers⟩ w') : (Code.region id ops true).wp P Q a w := by
  refine wp_region_any hm (any_ssa hns hok (fun i o ho => hops.mem o (by simpa using Array.mem_of_getElem? ho)) hQ ops.size _ a _ (by simp) ?_ (Inv.start hmix) hS)
  exact Nat.le_trans (List.length_filter_le _ _) (by simp)
/-- The same, of a region that is written out; the temporaries of the end and the guards under names. -/
theorem wp_region_list {l : List Oper} {id : Nat} {a : Act} {w : World} (fin : Array Value) (S : World → Prop) (Y : Nat → Option Bool) (hY : Y = yielded l.toArray fin) (hm : P.follows .mixedOrders = true) (hns : Region.noSelect l.toArray = true) (hok : okB l.toArray = true) (hmix : mix l a.tmps fin = fin) (hS : S w.drew)
    (hops : AllFin P Y S fin a.defers l) (hQ : ∀ w', S w' → Q .normal ⟨fin, a.defers⟩ w') : (Code.region id l.toArray true).wp P Q a w := by
  subst hY
  exact wp_region_ssa fin S hm hns hok hmix hS hops hQ
theorem AllFin.cons {Y : Nat → Option Bool} {o : Oper} {l : List Oper} (h : OpFin P Y S fin ds o) (t : AllFin P Y S fin ds l) : AllFin P Y S fin ds (o :: l) := ⟨h, t⟩
theorem AllFin.nil {Y : Nat → Option Bool} : AllFin P Y S fin ds [] := trivial
end
/-! ### The operations' shapes -/
section
variable {P : Program} {Y : Nat → Option Bool} {S : World → Prop} {fin : Array Value} {ds : List Deferred} {o : Oper}
theorem fin_val (hw : Region.wanted o Y = true) (v : Value) (hr : ∀ w, S w → (execOp (Act.eval ⟨fin, ds⟩) o).run P w = .ok (.value v) w) (hd : DstIs fin o v) : OpFin P Y S fin ds o := .inl ⟨hw, .inl ⟨v, hr, hd⟩⟩
theorem fin_call (hw : Region.wanted o Y = true) (f : FuncId) (args : Array Value) (v : Value) (hr : ∀ w, S w → (execOp (Act.eval ⟨fin, ds⟩) o).run P w = .ok (.enter f args) w) (hc : ∀ w, S w → Calls P f args w fun e w' => e = .returned v ∧ S w') (hd : DstIs fin o v) : OpFin P Y S fin ds o :=
  .inl ⟨hw, .inr ⟨f, args, v, hr, hc, hd⟩⟩
theorem want {g : Nat} {b : Bool} (ho : o.guard = some (g, b)) (hy : Y g = some b) : Region.wanted o Y = true := by
  unfold Region.wanted
  rw [ho]
  simp [hy]
theorem ev {fin : Array Value} {ds : List Deferred} {t : Tmp} {v : Value} (h : fin[t]? = some v) : Act.eval ⟨fin, ds⟩ (.tmp t) = v := by simp [Act.eval, h]
theorem pick_true {ρ : Operand → Value} {x y : Operand} {v : Value} (h : ρ x = v) : (if (true : Bool) then ρ x else ρ y) = v := h
theorem evs_nil {ρ : Operand → Value} : ([] : List Operand).map ρ = [] := rfl
theorem evs_cons {ρ : Operand → Value} {x : Operand} {xs : List Operand} {v : Value} {vs : List Value} (h : ρ x = v) (t : xs.map ρ = vs) : (x :: xs).map ρ = v :: vs := by rw [List.map_cons, h, t]
theorem dst_is {d : Tmp} {v : Value} (ho : o.dst = some d) (hv : fin[d]? = some v) : DstIs fin o v := fun d' h => by
  rw [ho] at h
  obtain rfl := Option.some.inj h
  exact hv
theorem exec_move {ρ : Operand → Value} {w : World} {x : Operand} {v : Value} (ho : o.op = .move x ∨ o.op = .assign x) (hx : ρ x = v) : (execOp ρ o).run P w = .ok (.value v) w := by
  subst hx
  unfold execOp
  rcases ho with ho | ho <;> simp only [ho] <;> rfl
theorem exec_eql {ρ : Operand → Value} {w : World} {x y : Operand} {t u : TypeId} {k : IntKind} {n : Int} (ho : o.op = .binOp .eql t x y u) (hx : ρ x = .int k n) (hy : ρ y = .int k n) : (execOp ρ o).run P w = .ok (.value (.bool true)) w := by
  unfold execOp
  simp only [ho, hx, hy]
  go_simp
theorem exec_eqb {ρ : Operand → Value} {w : World} {x y : Operand} {t u : TypeId} {b : Bool} (ho : o.op = .binOp .eql t x y u) (hx : ρ x = .bool b) (hy : ρ y = .bool b) (hr : (binOp .eql t (.bool b) (.bool b)).run P w = .ok (.bool true) w) : (execOp ρ o).run P w = .ok (.value (.bool true)) w := by
  unfold execOp
  simp only [ho, hx, hy]
  go_simp
theorem exec_pick {ρ : Operand → Value} {w : World} {c x y : Operand} {b : Bool} {v : Value} (ho : o.op = .pick c x y) (hc : ρ c = .bool b) (hv : (if b then ρ x else ρ y) = v) : (execOp ρ o).run P w = .ok (.value v) w := by
  subst hv
  unfold execOp
  simp only [ho, hc]
  go_simp
theorem exec_load {ρ : Operand → Value} {w : World} {t : TypeId} {x : Operand} {g : Value} {v : Value} (ho : o.op = .load t x) (hx : ρ x = g) (hr : (Instr.loadAt t g).run P w = .ok v w) : (execOp ρ o).run P w = .ok (.value v) w := by
  subst hx
  unfold execOp
  simp only [ho, Sem.run_bind, hr, Result.andThen_ok, Sem.run_pure]
theorem exec_call {ρ : Operand → Value} {w : World} {f : FuncId} {args : Array Operand} {ts : Array TypeId} {vs : List Value} {fn : Func} (ho : o.op = .call { callee := .value (.func f), args := args, argTypes := ts }) (hf : ρ (.func f) = .func (.func f) #[] #[]) (hargs : args.toList.map ρ = vs)
    (hfn : P.funcs[f]? = some fn) (hn : (fn.name == "runtime.NumGoroutine") = false) (hb : fn.body.isNone = false) : (execOp ρ o).run P w = .ok (.enter f vs.toArray) w := by
  subst hargs
  have e : args.map ρ = (args.toList.map ρ).toArray := by cases args; simp
  unfold execOp
  simp only [ho]
  rw [← e]
  have hn' : ¬fn.name = "runtime.NumGoroutine" := by simpa using hn
  have hb' : ¬fn.body = none := by intro e; rw [e] at hb; cases hb
  simp [resolve, invoke, hf, go_sem, callFunc, hfn]
  rw [if_neg hn', if_neg hb']
end
end Ssa
end Go.Proofs.YtpdfmpegcejmkaaGreatDoor
