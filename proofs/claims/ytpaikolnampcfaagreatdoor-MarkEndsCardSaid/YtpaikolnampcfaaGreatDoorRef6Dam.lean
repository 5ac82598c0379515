/- The page's own: Damaged. -/
import Derived.Test.YtpaikolnampcfaaGreatDoorRef6Open
import Derived.Test.YtpaikolnampcfaaGreatDoorLaw06Base
namespace Go.Proofs.YtpaikolnampcfaaGreatDoor
set_option maxRecDepth 100000
set_option maxHeartbeats 4000000
open Go.RowKit
def kindR (n:Nat):Int:=if n < 2 then 2 else 3
def badR (D:DM):Nat→List Int
 | 0=> []
 | n+1=>badR D n++(if(markB (kindR n) (D.read ((n:Int)+2)).1).2≠0 then [(n:Int)+2]else [])
def seenB (D:DM) (j:Nat):Prop:= ∀i:Nat,i < j→(D.read ((i:Int)+2)).2=0
theorem seenB_snoc {D:DM} {j:Nat} (h:seenB D j) (he:(D.read ((j:Int)+2)).2=0):seenB D (j+1):=fun i hi=>by
 by_cases e:i=j
 · subst e;exact he
 · exact h i (by omega)
theorem seenK_two (D:DM):seenK D 2=(if(D.read 2).2≠0 then(D.read 2).2 else(D.read 3).2)∧seenK D 3=(if(D.read 4).2≠0 then(D.read 4).2 else(D.read 5).2):=⟨rfl,rfl⟩
theorem badR_all {D:DM} (h:seenB D 4):badK D=badR D 4:=by
 have h0:(D.read 2).2=0:=h 0 (by decide)
 have h1:(D.read 3).2=0:=h 1 (by decide)
 have h2:(D.read 4).2=0:=h 2 (by decide)
 have h3:(D.read 5).2=0:=h 3 (by decide)
 obtain⟨s2,s3⟩:=seenK_two D
 rw [bad_some (by rw [s2,if_neg (fun e=>e h0)];exact h1) (by rw [s3,if_neg (fun e=>e h2)];exact h3)]
 show _=(((([]:List Int)++(if(markB 2 (D.read 2).1).2≠0 then [2]else []))++(if(markB 2 (D.read 3).1).2≠0 then [3]else []))++(if(markB 3 (D.read 4).1).2≠0 then [4]else []))++(if(markB 3 (D.read 5).1).2≠0 then [5]else [])
 rw [List.nil_append,List.append_assoc,List.append_assoc,List.append_assoc]
theorem badR_err {D:DM} {j:Nat} (hj:j < 4) (he:(D.read ((j:Int)+2)).2≠0):badK D= []:=by
 obtain⟨s2,s3⟩:=seenK_two D
 refine bad_none ?_
 obtain rfl | rfl | rfl | rfl:j=0∨j=1∨j=2∨j=3:=by omega
 · have he:(D.read 2).2≠0:=he
   left;rw [s2,if_pos he];exact he
 · have he:(D.read 3).2≠0:=he
   left;rw [s2]
   split
   · next h1=>exact h1
   · exact he
 · have he:(D.read 4).2≠0:=he
   right;rw [s3,if_pos he];exact he
 · have he:(D.read 5).2≠0:=he
   right;rw [s3]
   split
   · next h1=>exact h1
   · exact he
structure DamR (w w1:World) (T:Nat→Prop) (h:Nat) (D:DM) (v:Value) (n:Nat) (xs:List Int) (wx:World):Prop where
 out:OutB w1 wx v n xs
 rf:RefAt3 wx T h D
 kinds:BlockIs wx w.heap.size 27 #[.int .i64 2,.int .i64 2,.int .i64 3,.int .i64 3]
 lt:w.heap.size < w1.heap.size
 foot: ∀j,T j→j < w.heap.size
section
variable {w w1 wx w2 : World} {T : Nat → Prop} {h : Nat} {D : DM} {v : Value} {n : Nat} {xs : List Int}
theorem DamR.below (k:DamR w w1 T h D v n xs wx) (hb:Below wx.heap.size wx w2):DamR w w1 T h D v n xs w2:=⟨k.out.below hb,k.rf.below hb,k.kinds.below hb k.kinds.lt,k.lt,k.foot⟩
theorem DamR.put {v':Value} {z:Int} (k:DamR w w1 T h D v n xs wx) (ho:w2.ownsRow w1.heap.size 3 1 v' (n+1) (i64s xs++ [.int .i64 z])) (hg:wx.grownBy w2 v.ownBlock):DamR w w1 T h D v' (n+1) (xs++ [z]) w2:=by
 have hlo:=fun b e=>(k.out.own.lt b e).1
 exact⟨k.out.put ho hg,k.rf.keep hg.size (fun b hb=>hg.block b (k.rf.foot b hb) (fun e=>by have:=hlo b e.symm;have:=k.foot b hb;have:=k.lt;omega)),k.kinds.keep (hg.block _ k.kinds.lt (fun e=>by have:=hlo _ e.symm;have:=k.lt;omega)),k.lt,k.foot⟩
end
section
variable {w : World} {T : Nat → Prop} {h : Nat} {D : DM}
theorem rdam_any (k:RefAt3 w T h D) {q:Nat} (hF:D.Few q) (hq:q≤990000):
 Calls Tryz.prog 23 #[.pointer (some ⟨h,0,none⟩)] w fun e w'=> ∃v,e= .returned v∧w'.ownsRow w.heap.size 3 1 v (badK D).length (i64s (badK D))∧Below w.heap.size w w':=by
 obtain⟨i0,hi,hz0,hz1,hz2⟩:=info_parts infoInt
 have HT:=qh (And.intro hi (And.intro hz0 (And.intro hz1 hz2)))
 have hbk:=below_new w (.cells #[.int .i64 2,.int .i64 2,.int .i64 3,.int .i64 3] 27)
 have hkd:=BlockIs.made w 27 #[.int .i64 2,.int .i64 2,.int .i64 3,.int .i64 3]
 have HF:=qh (few6 hF (by omega))
 have Hbk:=qh hbk
 have S0:Hid (DamR w (w.alloc (.cells #[.int .i64 2,.int .i64 2,.int .i64 3,.int .i64 3] 27)) T h D (.slice none 0 0) 0 [] (w.alloc (.cells #[.int .i64 2,.int .i64 2,.int .i64 3,.int .i64 3] 27))):=qh ⟨OutB.nil _,k.below hbk,hkd,hkd.lt,k.foot⟩
 have HO:=qh (fun W kk A b c hb hbc hm=>rOf_any W kk A b c hb hbc hm)
 have HAll:=qh (badR_all (D:=D))
 have HErr:=qh (fun j hj he=>badR_err (D:=D) (j:=j) hj he)
 have HStep:=qh (fun n=>show badR D (n+1)=badR D n++(if(markB (kindR n) (D.read ((n:Int)+2)).1).2≠0 then [(n:Int)+2]else [])from rfl)
 obtain⟨w1,hw1⟩: ∃w1,w.alloc (.cells #[.int .i64 2,.int .i64 2,.int .i64 3,.int .i64 3] 27)=w1:=⟨_,rfl⟩
 rw [hw1]at Hbk S0
 have Hw1:=qh hw1
 clear hi hz0 hz1 hz2 hbk hkd k hF hq hw1
 go_enter Tryz.func23,Tryz.ntmps23
 go_wp2_with fail
 rw [Hw1.out]
 go_loopg [3,5] 4 (fun gk out i wx=> ∃(j:Nat) (z:Int) (xs:List Int),gk=4 - j∧j≤4∧i= .int .i64 z∧Hid (z=(j:Int)+2)∧Hid (badR D j=xs∧seenB D j)∧xs.length≤j∧Hid (DamR w w1 T h D out xs.length xs wx))
 case atStart=>exact⟨0,2,[],rfl,by decide,rfl,qh rfl,qh ⟨rfl,fun i hi=>absurd hi (Nat.not_lt_zero _)⟩,Nat.le_refl _,S0⟩
 case round=>
  obtain⟨j,z,xs,hgk,hj,rfl,hz,hB,hxl,hS⟩:=hrel
  have Hgk:=qh hgk
  clear hgk S0
  by_cases hlt:j < 4
  · have HRd:=qh (read3_any hS.out.rf HF.out ((j:Int)+2))
    have HEj:=qh (HErr.out j hlt)
    have HSn:=qh (seenB_snoc hB.out.2)
    have HSt:=qh (HStep.out j)
    obtain⟨rd,hrd⟩: ∃r,D.read ((j:Int)+2)=r:=⟨_,rfl⟩
    rw [hrd]at HRd HEj HSn HSt
    rw [← hz.out]at HRd
    obtain⟨bs,er⟩:=rd
    simp only at HRd HEj HSn HSt
    clear hrd HErr HStep HAll
    obtain rfl | rfl | rfl | rfl:j=0∨j=1∨j=2∨j=3:=by omega
    · obtain rfl:z=2:=hz.out
      by_cases he:er=0
      rotate_left
      · have hne:(er != 0)=true:=by simpa using he
        have Hg:=qh (HEj.out he)
        clear he
        go_wp2_with fail
        refine HRd.out.mono ?_
        rintro e w2 ⟨v,rfl,hv,hb2⟩
        have S2:=qh (hS.out.below hb2)
        clear hv hb2 HRd
        go_wp2_with fail
        go_ret
        exact⟨_,rfl,by rw [Hg.out];exact World.ownsRow_nil _ _ _ _,Hbk.out.trans (S2.out.out.bl.mono Hbk.out.size)⟩
      · subst he
        obtain⟨mm,hmm⟩: ∃mm,markB 2 bs=mm:=⟨_,rfl⟩
        have HO2:=qh (fun W A c hb hbc hm=>HO.out W 2 A bs c hb hbc hm)
        have HSt2:=HSt.out
        rw [show kindR 0=2 from rfl,hmm]at HSt2
        clear HSt
        have HSt:=qh HSt2
        clear HSt2
        rw [hmm]at HO2
        obtain⟨⟨v1,i1,t1,k1,o1⟩,f1⟩:=mm
        unfold MarkV.val at HO2
        simp only at HO2 HSt
        clear hmm
        go_wp2_with fail
        refine HRd.out.mono ?_
        rintro e w2 ⟨v,rfl,⟨A,c,rfl,hzA,hcA,hmA,_,_⟩,hb2⟩
        have S2:=qh (hS.out.below hb2)
        have HO3:=qh (HO2.out w2 A c hzA hcA hmA)
        have ck:w2.cell? ⟨w.heap.size,0,none⟩=some (.int .i64 2):=S2.out.kinds.cell 0
        clear hzA hcA hmA hb2 HRd HO2 hS
        go_wp2_with fail
        refine HO3.out.mono ?_
        rintro e w3 ⟨rfl,hb3⟩
        have hb4:=hb3.trans ((below_new w3 (.cells #[.int .i64 v1,.int .i64 i1,.int .i64 t1,.int .i64 k1,.int .i64 o1] 26)).mono hb3.size)
        have S3:=qh (S2.out.below hb4)
        obtain⟨w4,hw4⟩: ∃w4,w3.alloc (.cells #[.int .i64 v1,.int .i64 i1,.int .i64 t1,.int .i64 k1,.int .i64 o1] 26)=w4:=⟨_,rfl⟩
        rw [hw4]at S3
        have Hw4:=qh hw4
        clear hb3 hb4 HO3 ck hw4
        by_cases hf1:f1=0
        · subst hf1
          go_wp2_with fail
          go_roundg (4 - (0+1))
          case measure=>rw [Hgk.out];omega
          case rel=>exact⟨0+1,0+3,xs,rfl,by decide,by go_num,qh (by decide),qh ⟨by rw [HSt.out,hB.out.1];simp,HSn.out (by first | rfl | trivial)⟩,(by first | omega | (simp only [List.length_append,List.length_cons,List.length_nil];omega)),by rw [Hw4.out];exact S3⟩
        · have hf2:(f1 != 0)=true:=by simpa using hf1
          have HK:=qh (show DamR w w1 T h D _ _ _ ((w3.alloc (.cells #[.int .i64 v1,.int .i64 i1,.int .i64 t1,.int .i64 k1,.int .i64 o1] 26)).alloc (.cells #[.int .i64 2] 3)) by rw [Hw4.out];exact S3.out.below (below_new w4 (.cells #[.int .i64 2] 3)))
          go_wp2_with (at_builtin;refine wpList_append_own _ rfl _ _ 56 rfl w1.heap.size 3 i0 (.int .i64 0) 1 8 Tryz.underlying56 HT.out.1 HT.out.2.1 HT.out.2.2.1 HT.out.2.2.2 rfl (by decide) _ _ _ rfl HK.out.out.own ⟨w3.heap.size+1,0,none⟩ 1 1 [.int .i64 2] rfl rfl (cell_one_new1 w3 _ _ _) (by decide) (by unfold maxLen;omega) (by omega) HK.out.out.bl.size ?_)
          intro u2 W2 hown hgrow _
          have O2:=qh (HK.out.put hown hgrow)
          clear hown hgrow HK
          go_wp2_with fail
          go_roundg (4 - (0+1))
          case measure=>rw [Hgk.out];omega
          case rel=>exact⟨0+1,0+3,xs++ [2],rfl,by decide,by go_num,qh (by decide),qh ⟨by rw [HSt.out,hB.out.1];simp [hf1],HSn.out (by first | rfl | trivial)⟩,(by first | omega | (simp only [List.length_append,List.length_cons,List.length_nil];omega)),by rw [List.length_append];exact O2⟩
    · obtain rfl:z=3:=hz.out
      by_cases he:er=0
      rotate_left
      · have hne:(er != 0)=true:=by simpa using he
        have Hg:=qh (HEj.out he)
        clear he
        go_wp2_with fail
        refine HRd.out.mono ?_
        rintro e w2 ⟨v,rfl,hv,hb2⟩
        have S2:=qh (hS.out.below hb2)
        clear hv hb2 HRd
        go_wp2_with fail
        go_ret
        exact⟨_,rfl,by rw [Hg.out];exact World.ownsRow_nil _ _ _ _,Hbk.out.trans (S2.out.out.bl.mono Hbk.out.size)⟩
      · subst he
        obtain⟨mm,hmm⟩: ∃mm,markB 2 bs=mm:=⟨_,rfl⟩
        have HO2:=qh (fun W A c hb hbc hm=>HO.out W 2 A bs c hb hbc hm)
        have HSt2:=HSt.out
        rw [show kindR 1=2 from rfl,hmm]at HSt2
        clear HSt
        have HSt:=qh HSt2
        clear HSt2
        rw [hmm]at HO2
        obtain⟨⟨v1,i1,t1,k1,o1⟩,f1⟩:=mm
        unfold MarkV.val at HO2
        simp only at HO2 HSt
        clear hmm
        go_wp2_with fail
        refine HRd.out.mono ?_
        rintro e w2 ⟨v,rfl,⟨A,c,rfl,hzA,hcA,hmA,_,_⟩,hb2⟩
        have S2:=qh (hS.out.below hb2)
        have HO3:=qh (HO2.out w2 A c hzA hcA hmA)
        have ck:w2.cell? ⟨w.heap.size,1,none⟩=some (.int .i64 2):=S2.out.kinds.cell 1
        clear hzA hcA hmA hb2 HRd HO2 hS
        go_wp2_with fail
        refine HO3.out.mono ?_
        rintro e w3 ⟨rfl,hb3⟩
        have hb4:=hb3.trans ((below_new w3 (.cells #[.int .i64 v1,.int .i64 i1,.int .i64 t1,.int .i64 k1,.int .i64 o1] 26)).mono hb3.size)
        have S3:=qh (S2.out.below hb4)
        obtain⟨w4,hw4⟩: ∃w4,w3.alloc (.cells #[.int .i64 v1,.int .i64 i1,.int .i64 t1,.int .i64 k1,.int .i64 o1] 26)=w4:=⟨_,rfl⟩
        rw [hw4]at S3
        have Hw4:=qh hw4
        clear hb3 hb4 HO3 ck hw4
        by_cases hf1:f1=0
        · subst hf1
          go_wp2_with fail
          go_roundg (4 - (1+1))
          case measure=>rw [Hgk.out];omega
          case rel=>exact⟨1+1,1+3,xs,rfl,by decide,by go_num,qh (by decide),qh ⟨by rw [HSt.out,hB.out.1];simp,HSn.out (by first | rfl | trivial)⟩,(by first | omega | (simp only [List.length_append,List.length_cons,List.length_nil];omega)),by rw [Hw4.out];exact S3⟩
        · have hf2:(f1 != 0)=true:=by simpa using hf1
          have HK:=qh (show DamR w w1 T h D _ _ _ ((w3.alloc (.cells #[.int .i64 v1,.int .i64 i1,.int .i64 t1,.int .i64 k1,.int .i64 o1] 26)).alloc (.cells #[.int .i64 3] 3)) by rw [Hw4.out];exact S3.out.below (below_new w4 (.cells #[.int .i64 3] 3)))
          go_wp2_with (at_builtin;refine wpList_append_own _ rfl _ _ 56 rfl w1.heap.size 3 i0 (.int .i64 0) 1 8 Tryz.underlying56 HT.out.1 HT.out.2.1 HT.out.2.2.1 HT.out.2.2.2 rfl (by decide) _ _ _ rfl HK.out.out.own ⟨w3.heap.size+1,0,none⟩ 1 1 [.int .i64 3] rfl rfl (cell_one_new1 w3 _ _ _) (by decide) (by unfold maxLen;omega) (by omega) HK.out.out.bl.size ?_)
          intro u2 W2 hown hgrow _
          have O2:=qh (HK.out.put hown hgrow)
          clear hown hgrow HK
          go_wp2_with fail
          go_roundg (4 - (1+1))
          case measure=>rw [Hgk.out];omega
          case rel=>exact⟨1+1,1+3,xs++ [3],rfl,by decide,by go_num,qh (by decide),qh ⟨by rw [HSt.out,hB.out.1];simp [hf1],HSn.out (by first | rfl | trivial)⟩,(by first | omega | (simp only [List.length_append,List.length_cons,List.length_nil];omega)),by rw [List.length_append];exact O2⟩
    · obtain rfl:z=4:=hz.out
      by_cases he:er=0
      rotate_left
      · have hne:(er != 0)=true:=by simpa using he
        have Hg:=qh (HEj.out he)
        clear he
        go_wp2_with fail
        refine HRd.out.mono ?_
        rintro e w2 ⟨v,rfl,hv,hb2⟩
        have S2:=qh (hS.out.below hb2)
        clear hv hb2 HRd
        go_wp2_with fail
        go_ret
        exact⟨_,rfl,by rw [Hg.out];exact World.ownsRow_nil _ _ _ _,Hbk.out.trans (S2.out.out.bl.mono Hbk.out.size)⟩
      · subst he
        obtain⟨mm,hmm⟩: ∃mm,markB 3 bs=mm:=⟨_,rfl⟩
        have HO2:=qh (fun W A c hb hbc hm=>HO.out W 3 A bs c hb hbc hm)
        have HSt2:=HSt.out
        rw [show kindR 2=3 from rfl,hmm]at HSt2
        clear HSt
        have HSt:=qh HSt2
        clear HSt2
        rw [hmm]at HO2
        obtain⟨⟨v1,i1,t1,k1,o1⟩,f1⟩:=mm
        unfold MarkV.val at HO2
        simp only at HO2 HSt
        clear hmm
        go_wp2_with fail
        refine HRd.out.mono ?_
        rintro e w2 ⟨v,rfl,⟨A,c,rfl,hzA,hcA,hmA,_,_⟩,hb2⟩
        have S2:=qh (hS.out.below hb2)
        have HO3:=qh (HO2.out w2 A c hzA hcA hmA)
        have ck:w2.cell? ⟨w.heap.size,2,none⟩=some (.int .i64 3):=S2.out.kinds.cell 2
        clear hzA hcA hmA hb2 HRd HO2 hS
        go_wp2_with fail
        refine HO3.out.mono ?_
        rintro e w3 ⟨rfl,hb3⟩
        have hb4:=hb3.trans ((below_new w3 (.cells #[.int .i64 v1,.int .i64 i1,.int .i64 t1,.int .i64 k1,.int .i64 o1] 26)).mono hb3.size)
        have S3:=qh (S2.out.below hb4)
        obtain⟨w4,hw4⟩: ∃w4,w3.alloc (.cells #[.int .i64 v1,.int .i64 i1,.int .i64 t1,.int .i64 k1,.int .i64 o1] 26)=w4:=⟨_,rfl⟩
        rw [hw4]at S3
        have Hw4:=qh hw4
        clear hb3 hb4 HO3 ck hw4
        by_cases hf1:f1=0
        · subst hf1
          go_wp2_with fail
          go_roundg (4 - (2+1))
          case measure=>rw [Hgk.out];omega
          case rel=>exact⟨2+1,2+3,xs,rfl,by decide,by go_num,qh (by decide),qh ⟨by rw [HSt.out,hB.out.1];simp,HSn.out (by first | rfl | trivial)⟩,(by first | omega | (simp only [List.length_append,List.length_cons,List.length_nil];omega)),by rw [Hw4.out];exact S3⟩
        · have hf2:(f1 != 0)=true:=by simpa using hf1
          have HK:=qh (show DamR w w1 T h D _ _ _ ((w3.alloc (.cells #[.int .i64 v1,.int .i64 i1,.int .i64 t1,.int .i64 k1,.int .i64 o1] 26)).alloc (.cells #[.int .i64 4] 3)) by rw [Hw4.out];exact S3.out.below (below_new w4 (.cells #[.int .i64 4] 3)))
          go_wp2_with (at_builtin;refine wpList_append_own _ rfl _ _ 56 rfl w1.heap.size 3 i0 (.int .i64 0) 1 8 Tryz.underlying56 HT.out.1 HT.out.2.1 HT.out.2.2.1 HT.out.2.2.2 rfl (by decide) _ _ _ rfl HK.out.out.own ⟨w3.heap.size+1,0,none⟩ 1 1 [.int .i64 4] rfl rfl (cell_one_new1 w3 _ _ _) (by decide) (by unfold maxLen;omega) (by omega) HK.out.out.bl.size ?_)
          intro u2 W2 hown hgrow _
          have O2:=qh (HK.out.put hown hgrow)
          clear hown hgrow HK
          go_wp2_with fail
          go_roundg (4 - (2+1))
          case measure=>rw [Hgk.out];omega
          case rel=>exact⟨2+1,2+3,xs++ [4],rfl,by decide,by go_num,qh (by decide),qh ⟨by rw [HSt.out,hB.out.1];simp [hf1],HSn.out (by first | rfl | trivial)⟩,(by first | omega | (simp only [List.length_append,List.length_cons,List.length_nil];omega)),by rw [List.length_append];exact O2⟩
    · obtain rfl:z=5:=hz.out
      by_cases he:er=0
      rotate_left
      · have hne:(er != 0)=true:=by simpa using he
        have Hg:=qh (HEj.out he)
        clear he
        go_wp2_with fail
        refine HRd.out.mono ?_
        rintro e w2 ⟨v,rfl,hv,hb2⟩
        have S2:=qh (hS.out.below hb2)
        clear hv hb2 HRd
        go_wp2_with fail
        go_ret
        exact⟨_,rfl,by rw [Hg.out];exact World.ownsRow_nil _ _ _ _,Hbk.out.trans (S2.out.out.bl.mono Hbk.out.size)⟩
      · subst he
        obtain⟨mm,hmm⟩: ∃mm,markB 3 bs=mm:=⟨_,rfl⟩
        have HO2:=qh (fun W A c hb hbc hm=>HO.out W 3 A bs c hb hbc hm)
        have HSt2:=HSt.out
        rw [show kindR 3=3 from rfl,hmm]at HSt2
        clear HSt
        have HSt:=qh HSt2
        clear HSt2
        rw [hmm]at HO2
        obtain⟨⟨v1,i1,t1,k1,o1⟩,f1⟩:=mm
        unfold MarkV.val at HO2
        simp only at HO2 HSt
        clear hmm
        go_wp2_with fail
        refine HRd.out.mono ?_
        rintro e w2 ⟨v,rfl,⟨A,c,rfl,hzA,hcA,hmA,_,_⟩,hb2⟩
        have S2:=qh (hS.out.below hb2)
        have HO3:=qh (HO2.out w2 A c hzA hcA hmA)
        have ck:w2.cell? ⟨w.heap.size,3,none⟩=some (.int .i64 3):=S2.out.kinds.cell 3
        clear hzA hcA hmA hb2 HRd HO2 hS
        go_wp2_with fail
        refine HO3.out.mono ?_
        rintro e w3 ⟨rfl,hb3⟩
        have hb4:=hb3.trans ((below_new w3 (.cells #[.int .i64 v1,.int .i64 i1,.int .i64 t1,.int .i64 k1,.int .i64 o1] 26)).mono hb3.size)
        have S3:=qh (S2.out.below hb4)
        obtain⟨w4,hw4⟩: ∃w4,w3.alloc (.cells #[.int .i64 v1,.int .i64 i1,.int .i64 t1,.int .i64 k1,.int .i64 o1] 26)=w4:=⟨_,rfl⟩
        rw [hw4]at S3
        have Hw4:=qh hw4
        clear hb3 hb4 HO3 ck hw4
        by_cases hf1:f1=0
        · subst hf1
          go_wp2_with fail
          go_roundg (4 - (3+1))
          case measure=>rw [Hgk.out];omega
          case rel=>exact⟨3+1,3+3,xs,rfl,by decide,by go_num,qh (by decide),qh ⟨by rw [HSt.out,hB.out.1];simp,HSn.out (by first | rfl | trivial)⟩,(by first | omega | (simp only [List.length_append,List.length_cons,List.length_nil];omega)),by rw [Hw4.out];exact S3⟩
        · have hf2:(f1 != 0)=true:=by simpa using hf1
          have HK:=qh (show DamR w w1 T h D _ _ _ ((w3.alloc (.cells #[.int .i64 v1,.int .i64 i1,.int .i64 t1,.int .i64 k1,.int .i64 o1] 26)).alloc (.cells #[.int .i64 5] 3)) by rw [Hw4.out];exact S3.out.below (below_new w4 (.cells #[.int .i64 5] 3)))
          go_wp2_with (at_builtin;refine wpList_append_own _ rfl _ _ 56 rfl w1.heap.size 3 i0 (.int .i64 0) 1 8 Tryz.underlying56 HT.out.1 HT.out.2.1 HT.out.2.2.1 HT.out.2.2.2 rfl (by decide) _ _ _ rfl HK.out.out.own ⟨w3.heap.size+1,0,none⟩ 1 1 [.int .i64 5] rfl rfl (cell_one_new1 w3 _ _ _) (by decide) (by unfold maxLen;omega) (by omega) HK.out.out.bl.size ?_)
          intro u2 W2 hown hgrow _
          have O2:=qh (HK.out.put hown hgrow)
          clear hown hgrow HK
          go_wp2_with fail
          go_roundg (4 - (3+1))
          case measure=>rw [Hgk.out];omega
          case rel=>exact⟨3+1,3+3,xs++ [5],rfl,by decide,by go_num,qh (by decide),qh ⟨by rw [HSt.out,hB.out.1];simp [hf1],HSn.out (by first | rfl | trivial)⟩,(by first | omega | (simp only [List.length_append,List.length_cons,List.length_nil];omega)),by rw [List.length_append];exact O2⟩
  · obtain rfl:j=4:=by omega
    obtain rfl:z=6:=hz.out
    have Hfin:=qh (HAll.out hB.out.2)
    go_wp2_with fail
    go_ret
    exact⟨_,rfl,by rw [Hfin.out,hB.out.1];exact own_mono hS.out.out.own Hbk.out.size,Hbk.out.trans (hS.out.out.bl.mono Hbk.out.size)⟩
end
end Go.Proofs.YtpaikolnampcfaaGreatDoor
