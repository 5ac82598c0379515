/- Records that follow each other: what their blocks tell, and that a foot is made of them. -/
import Derived.Test.YtpdfmpegcejmkaaGreatDoorRef8Rec
namespace Go.Proofs.YtpdfmpegcejmkaaGreatDoor
/-- Right entries from an index on, each behind the one before, the first behind an ident. -/
def ChainE : Int → IdentI → List Ent → Prop
  | _, _, [] => True
  | f, a, e :: l => rightB e = true ∧ e.index = f ∧ aheadI a f ∧ ChainE (f + 1) e.ident l
def rowsE : IdentI → List Ent → List (List Int)
  | _, [] => []
  | a, e :: l => sealB (recU a e) :: rowsE e.ident l
def pairsE : IdentI → List Ent → List (Ent × IdentI)
  | _, [] => []
  | a, e :: l => (e, a) :: pairsE e.ident l
theorem rowsE_len (a : IdentI) (l : List Ent) : (rowsE a l).length = l.length := by
  induction l generalizing a with
  | nil => rfl
  | cons e l ih => show (rowsE e.ident l).length + 1 = _; rw [ih]; rfl
theorem ents_rowsE : ∀ (l : List Ent) (f : Int) (a : IdentI), ChainE f a l → entsR f (rowsE a l) = .ok (pairsE a l)
  | [], _, _, _ => rfl
  | e :: l, f, a, h => by
    obtain ⟨hr, rfl, ha, hc⟩ := h
    show (if (ofR (sealB (recU a e)) e.index).2.2 ≠ 0 then _ else _) = _
    rw [of_rec hr ha]
    rw [if_neg (fun x => x rfl)]
    rw [ents_rowsE l (e.index + 1) e.ident hc]
    rfl
theorem chain_pairsE : ∀ (l : List Ent) (a : IdentI), chainR (pairsE a l) = true
  | [], _ => rfl
  | [_], _ => rfl
  | e :: e' :: l, a => by
    show (decide (e.ident.idx = e.index ∧ e.ident.term = e.term ∧ e.ident.kind = e.kind) && chainR (pairsE e.ident (e' :: l))) = true
    rw [chain_pairsE (e' :: l) e.ident]
    simp [Ent.ident]
/-- The ident of the last one. -/
def lastE : IdentI → List Ent → IdentI
  | a, [] => a
  | _, e :: l => lastE e.ident l
theorem last_pairsE : ∀ (l : List Ent) (a : IdentI), l ≠ [] → (match (pairsE a l).getLast? with | some x => x.1.ident | none => noIdent) = lastE a l
  | [], _, h => absurd rfl h
  | [e], _, _ => rfl
  | e :: e' :: l, a, _ => by
    have h := last_pairsE (e' :: l) e.ident (by simp)
    show (match ((e, a) :: (e', e.ident) :: pairsE e'.ident l).getLast? with | some x => x.1.ident | none => noIdent) = lastE e.ident (e' :: l)
    rw [List.getLast?_cons_cons]
    exact h
/-- A foot of such records. -/
theorem foot_chainE {l : List Ent} {f g : Int} {a : IdentI} (h : ChainE f a l) (hf : 0 ≤ f) (hl : l ≠ []) : footR f g l.length (rowsE a l) = (⟨6, g, footBody (rowsE a l) (lastE a l)⟩, 0) := by
  unfold footR
  rw [if_neg (by rw [rowsE_len]; rintro (x | x); · omega
                 · exact x rfl), ents_rowsE l f a h]
  simp only
  rw [if_neg (by rw [chain_pairsE]; decide)]
  exact congrArg (fun i => ((⟨6, g, footBody (rowsE a l) i⟩ : UnitV), (0 : Int))) (last_pairsE l a hl)
theorem footBody_len (rows : List (List Int)) (i : IdentI) : (footBody rows i).length = 11 := by unfold footBody; simp only [List.length_append, le_len]
/-- A foot's own block has its body. -/
theorem as_foot {g : Int} (h0 : 0 ≤ g) (h1 : g ≤ 1099511627776) (rows : List (List Int)) (i : IdentI) : asB (sealB ⟨6, g, footBody rows i⟩) 6 g = (footBody rows i, 0) := by
  have hr : UnitV.right ⟨6, g, footBody rows i⟩ := ⟨by show (1 : Int) ≤ 6 ∧ (6 : Int) ≤ 8; decide, ⟨h0, h1⟩, by show (footBody rows i).length ≤ 239; rw [footBody_len]; decide⟩
  unfold asB
  rw [open_seal hr, if_neg (fun hn => hn rfl), if_neg]
  rintro (h5 | h5)
  · exact h5 rfl
  · exact h5.2 rfl
/-- A foot fits the records that it was made of. -/
theorem shut_chainE {l : List Ent} {f g : Int} {a : IdentI} (h : ChainE f a l) (hf : 0 ≤ f) (hl : l ≠ []) (h0 : 0 ≤ g) (h1 : g ≤ 1099511627776) : shutR (sealB (footR f g l.length (rowsE a l)).1) f g l.length (rowsE a l) = 0 := by
  unfold shutR
  rw [foot_chainE h hf hl]
  simp only [as_foot h0 h1]
  rw [if_neg (by decide), if_neg (by decide), if_neg (fun hn => hn rfl)]
end Go.Proofs.YtpdfmpegcejmkaaGreatDoor
