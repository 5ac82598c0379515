/- Is an entry right? -/
import Derived.Test.YtpaikolnampcfaaGreatDoorCodeLay
import Derived.Test.YtpaikolnampcfaaGreatDoorMarkV
namespace Go.Proofs.YtpaikolnampcfaaGreatDoor
set_option maxRecDepth 100000
set_option maxHeartbeats 1000000
open Go.RowKit
theorem right_any (w:World) (e:Ent) (A:Option Addr) (c:Nat) (hl:e.body.length≤9223372036854775807):
 Calls Tryz.prog 48 #[.agg #[.int .i64 e.index,.int .i64 e.term,.int .i64 e.kind,.slice A e.body.length c]] w fun r w'=>r= .returned (.bool (rightB e))∧Below w.heap.size w w':=by
 obtain⟨x,t,k,body⟩:=e
 simp only at hl ⊢
 have hn:=below_new w (.cells #[.int .i64 x,.int .i64 t,.int .i64 k,.slice A body.length c] 101)
 by_cases hk:1≤k∧k≤3
 · go_enter Tryz.func48,Tryz.ntmps48
   go_wp2
   all_goals
    go_ret
    refine⟨ret_bool ?_,hn⟩
    simp only [beq_iff_eq]at *
    unfold rightB
    first | exact(decide_eq_false (by simp only;omega)).symm | (rw [decide_eq_decide];simp only;omega)
 · go_enter Tryz.func48,Tryz.ntmps48
   go_wp2
   all_goals
    go_ret
    refine⟨ret_bool ?_,hn⟩
    unfold rightB
    first | exact(decide_eq_false (by simp only;omega)).symm | (rw [decide_eq_decide];simp only;omega)
open Go.RowKit
def identV (i t k:Int):Value:= .agg #[.int .i64 i,.int .i64 t,.int .i64 k]
theorem right_known (i t k:Int):rightB ⟨i,t,k,[]⟩=decide (1≤i∧i≤1099511627776∧0≤t∧t≤1099511627776∧1≤k∧k≤3):=by
 unfold rightB
 rw [decide_eq_decide]
 simp only [List.length_nil]
 omega
theorem known_right (i t k:Int) (h: ¬(i=0∧t=0∧k=0)):rightB ⟨i,t,k,[]⟩=decide (knownI i t k):=by
 rw [right_known,decide_eq_decide]
 unfold knownI
 omega
theorem known_any (w:World) (i t k:Int):
 Calls Tryz.prog 14 #[identV i t k] w fun e w'=>e= .returned (.bool (decide (knownI i t k)))∧Below w.heap.size w w':=by
 unfold identV
 by_cases h0:i=0∧t=0∧k=0
 · obtain⟨rfl,rfl,rfl⟩:=h0
   go_enter Tryz.func14,Tryz.ntmps14
   go_wp2_with fail
   go_ret
   exact⟨rfl,(below_new _ _).alloc (below_new w _).size _⟩
 · have HR:=qh (fun(w1:World)=>show Calls Tryz.prog 48 #[.agg #[.int .i64 i,.int .i64 t,.int .i64 k,.slice none 0 0]] w1 fun r w'=>r= .returned (.bool (decide (knownI i t k)))∧Below w1.heap.size w1 w' from by
    rw [← known_right i t k h0]
    exact right_any w1 ⟨i,t,k,[]⟩ none 0 (Nat.zero_le _))
   have hb2:=qh ((below_new w (.cells #[.int .i64 i,.int .i64 t,.int .i64 k] 24)).alloc (below_new w _).size (.cells #[.int .i64 0,.int .i64 0,.int .i64 0] 24))
   have HN:=qh h0
   clear h0
   go_enter Tryz.func14,Tryz.ntmps14
   go_wp2_with fail
   all_goals
    first
    | exact absurd (And.intro (by assumption) (And.intro (by assumption) (by assumption))) HN.out
    | (try subst i
       try subst t
       refine(HR.out _).mono ?_
       rintro e w1 ⟨rfl,hb1⟩
       have Hb:=qh (hb2.out.trans (hb1.mono hb2.out.size))
       clear hb1
       go_wp2_with fail
       go_ret
       exact⟨rfl,Hb.out⟩)
theorem rknown_any (w:World) (i t k:Int):
 Calls Tryz.prog 15 #[identV i t k] w fun e w'=>e= .returned (.bool (decide (knownI i t k)))∧Below w.heap.size w w':=by
 unfold identV
 go_enter Tryz.func15,Tryz.ntmps15
 go_wp2
 all_goals
  go_ret
  refine⟨ret_bool ?_,below_new _ _⟩
  first
  | exact(decide_eq_false (by unfold knownI;omega)).symm
  | (refine decide_eq_decide.2 ?_;unfold knownI;omega)
  | (rw [Bool.eq_iff_iff];simp only [beq_iff_eq,beq_eq_false_iff_ne,ne_eq,decide_eq_true_eq,Bool.false_eq_true,false_iff]at *;unfold knownI;omega)
theorem kright_any (w:World) (m:MarkV):
 Calls Tryz.prog 12 #[m.val] w fun e w'=>e= .returned (.bool (decide m.right))∧Below w.heap.size w w':=by
 have Hd:Hid (decide m.right=(decide ((0≤m.ver∧m.ver≤1099511627776)∧(0≤m.void∧m.void≤1099511627776))&&decide (knownI m.idx m.term m.kind))):=qh (by rw [← Bool.decide_and];exact decide_eq_decide.2 (by unfold MarkV.right;exact and_assoc.symm))
 obtain⟨v,i,t,k,o⟩:=m
 have HK:=qh (fun w1=>known_any w1 i t k)
 have Hbn:=qh (below_new w (.cells #[.int .i64 v,.int .i64 i,.int .i64 t,.int .i64 k,.int .i64 o] 26))
 unfold MarkV.val
 simp only at Hd ⊢
 rw [Hd.out]
 obtain⟨r,hr⟩: ∃r,decide (knownI i t k)=r:=⟨_,rfl⟩
 rw [hr]at HK ⊢
 clear Hd hr
 unfold identV at HK
 by_cases h:(0≤v∧v≤1099511627776)∧(0≤o∧o≤1099511627776)
 · rw [decide_eq_true h,Bool.true_and]
   obtain⟨⟨h1,h2⟩,h3,h4⟩:=h
   go_enter Tryz.func12,Tryz.ntmps12
   go_wp2_with fail
   refine(HK.out _).mono ?_
   rintro e w1 ⟨rfl,hb1⟩
   have Hb:=qh (Hbn.out.trans (hb1.mono Hbn.out.size))
   clear hb1
   go_wp2_with fail
   go_ret
   exact⟨rfl,Hb.out⟩
 · rw [decide_eq_false h,Bool.false_and]
   by_cases h1:0≤v
   · by_cases h2:v≤1099511627776
     · by_cases h3:0≤o
       · have h4: ¬o≤1099511627776:=fun h4=>h ⟨⟨h1,h2⟩,h3,h4⟩
         clear h
         go_enter Tryz.func12,Tryz.ntmps12
         go_wp2_with fail
         go_ret
         exact⟨rfl,Hbn.out⟩
       · clear h
         go_enter Tryz.func12,Tryz.ntmps12
         go_wp2_with fail
         go_ret
         exact⟨rfl,Hbn.out⟩
     · clear h
       go_enter Tryz.func12,Tryz.ntmps12
       go_wp2_with fail
       go_ret
       exact⟨rfl,Hbn.out⟩
   · clear h
     go_enter Tryz.func12,Tryz.ntmps12
     go_wp2_with fail
     go_ret
     exact⟨rfl,Hbn.out⟩
theorem rkright_any (w:World) (m:MarkV):
 Calls Tryz.prog 13 #[m.val] w fun e w'=>e= .returned (.bool (decide m.right))∧Below w.heap.size w w':=by
 have Hd:Hid (decide m.right=(decide ((0≤m.ver∧m.ver≤1099511627776)∧(0≤m.void∧m.void≤1099511627776))&&decide (knownI m.idx m.term m.kind))):=qh (by rw [← Bool.decide_and];exact decide_eq_decide.2 (by unfold MarkV.right;exact and_assoc.symm))
 obtain⟨v,i,t,k,o⟩:=m
 have HK:=qh (fun w1=>rknown_any w1 i t k)
 have Hbn:=qh (below_new w (.cells #[.int .i64 v,.int .i64 i,.int .i64 t,.int .i64 k,.int .i64 o] 26))
 unfold MarkV.val
 simp only at Hd ⊢
 rw [Hd.out]
 obtain⟨r,hr⟩: ∃r,decide (knownI i t k)=r:=⟨_,rfl⟩
 rw [hr]at HK ⊢
 clear Hd hr
 unfold identV at HK
 by_cases h:(0≤v∧v≤1099511627776)∧(0≤o∧o≤1099511627776)
 · rw [decide_eq_true h,Bool.true_and]
   obtain⟨⟨h1,h2⟩,h3,h4⟩:=h
   go_enter Tryz.func13,Tryz.ntmps13
   go_wp2_with fail
   refine(HK.out _).mono ?_
   rintro e w1 ⟨rfl,hb1⟩
   have Hb:=qh (Hbn.out.trans (hb1.mono Hbn.out.size))
   clear hb1
   go_wp2_with fail
   go_ret
   exact⟨rfl,Hb.out⟩
 · rw [decide_eq_false h,Bool.false_and]
   by_cases h1:0≤v
   · by_cases h2:v≤1099511627776
     · by_cases h3:0≤o
       · have h4: ¬o≤1099511627776:=fun h4=>h ⟨⟨h1,h2⟩,h3,h4⟩
         clear h
         go_enter Tryz.func13,Tryz.ntmps13
         go_wp2_with fail
         go_ret
         exact⟨rfl,Hbn.out⟩
       · clear h
         go_enter Tryz.func13,Tryz.ntmps13
         go_wp2_with fail
         go_ret
         exact⟨rfl,Hbn.out⟩
     · clear h
       go_enter Tryz.func13,Tryz.ntmps13
       go_wp2_with fail
       go_ret
       exact⟨rfl,Hbn.out⟩
   · clear h
     go_enter Tryz.func13,Tryz.ntmps13
     go_wp2_with fail
     go_ret
     exact⟨rfl,Hbn.out⟩
end Go.Proofs.YtpaikolnampcfaaGreatDoor
