/- What the rows of law 06 share: the listed variables as they are laid. -/
import Derived.Test.YtpaikolnampcfaaGreatDoorKitInts
import Derived.Test.YtpaikolnampcfaaGreatDoorUnitErr
import Derived.Test.YtpaikolnampcfaaGreatDoorDevErr
import Derived.Test.YtpaikolnampcfaaGreatDoorMarkErr
namespace Go.Proofs.YtpaikolnampcfaaGreatDoor
set_option maxRecDepth 100000
open Go.ChangeShapes Go.WideShapes Go.RowKit Go.Deep
theorem g_dev_errNil :Tryz.prog.globalNamed "limpet/dev.errNil" =some 4:=by kernel_rfl
theorem tg_dev_errNil :(Tryz.prog.globals[4]?).map (·.type)=some 84:=by kernel_rfl
theorem g_dev_errDown :Tryz.prog.globalNamed "limpet/dev.errDown" =some 5:=by kernel_rfl
theorem tg_dev_errDown :(Tryz.prog.globals[5]?).map (·.type)=some 84:=by kernel_rfl
theorem g_dev_errBlock :Tryz.prog.globalNamed "limpet/dev.errBlock" =some 7:=by kernel_rfl
theorem tg_dev_errBlock :(Tryz.prog.globals[7]?).map (·.type)=some 84:=by kernel_rfl
theorem g_dev_errLong :Tryz.prog.globalNamed "limpet/dev.errLong" =some 10:=by kernel_rfl
theorem tg_dev_errLong :(Tryz.prog.globals[10]?).map (·.type)=some 84:=by kernel_rfl
theorem g_dev_errSame :Tryz.prog.globalNamed "limpet/dev.errSame" =some 8:=by kernel_rfl
theorem tg_dev_errSame :(Tryz.prog.globals[8]?).map (·.type)=some 84:=by kernel_rfl
theorem g_dev_errHurt :Tryz.prog.globalNamed "limpet/dev.errHurt" =some 6:=by kernel_rfl
theorem tg_dev_errHurt :(Tryz.prog.globals[6]?).map (·.type)=some 84:=by kernel_rfl
theorem g_code_errWidth :Tryz.prog.globalNamed "limpet/code.errWidth" =some 12:=by kernel_rfl
theorem tg_code_errWidth :(Tryz.prog.globals[12]?).map (·.type)=some 84:=by kernel_rfl
theorem g_code_errFew :Tryz.prog.globalNamed "limpet/code.errFew" =some 13:=by kernel_rfl
theorem tg_code_errFew :(Tryz.prog.globals[13]?).map (·.type)=some 84:=by kernel_rfl
theorem g_code_errGreat :Tryz.prog.globalNamed "limpet/code.errGreat" =some 14:=by kernel_rfl
theorem tg_code_errGreat :(Tryz.prog.globals[14]?).map (·.type)=some 84:=by kernel_rfl
theorem g_code_errMuch :Tryz.prog.globalNamed "limpet/code.errMuch" =some 19:=by kernel_rfl
theorem tg_code_errMuch :(Tryz.prog.globals[19]?).map (·.type)=some 84:=by kernel_rfl
theorem g_unit_errBytes :Tryz.prog.globalNamed "limpet/unit.errBytes" =some 15:=by kernel_rfl
theorem tg_unit_errBytes :(Tryz.prog.globals[15]?).map (·.type)=some 84:=by kernel_rfl
theorem g_unit_errKind :Tryz.prog.globalNamed "limpet/unit.errKind" =some 16:=by kernel_rfl
theorem tg_unit_errKind :(Tryz.prog.globals[16]?).map (·.type)=some 84:=by kernel_rfl
theorem g_unit_errSum :Tryz.prog.globalNamed "limpet/unit.errSum" =some 17:=by kernel_rfl
theorem tg_unit_errSum :(Tryz.prog.globals[17]?).map (·.type)=some 84:=by kernel_rfl
theorem g_unit_errNum :Tryz.prog.globalNamed "limpet/unit.errNum" =some 18:=by kernel_rfl
theorem tg_unit_errNum :(Tryz.prog.globals[18]?).map (·.type)=some 84:=by kernel_rfl
theorem g_unit_errBody :Tryz.prog.globalNamed "limpet/unit.errBody" =some 20:=by kernel_rfl
theorem tg_unit_errBody :(Tryz.prog.globals[20]?).map (·.type)=some 84:=by kernel_rfl
theorem g_unit_errNought :Tryz.prog.globalNamed "limpet/unit.errNought" =some 22:=by kernel_rfl
theorem tg_unit_errNought :(Tryz.prog.globals[22]?).map (·.type)=some 84:=by kernel_rfl
theorem g_unit_errEnd :Tryz.prog.globalNamed "limpet/unit.errEnd" =some 21:=by kernel_rfl
theorem tg_unit_errEnd :(Tryz.prog.globals[21]?).map (·.type)=some 84:=by kernel_rfl
theorem g_unit_errOther :Tryz.prog.globalNamed "limpet/unit.errOther" =some 11:=by kernel_rfl
theorem tg_unit_errOther :(Tryz.prog.globals[11]?).map (·.type)=some 84:=by kernel_rfl
theorem g_mark_errSort :Tryz.prog.globalNamed "limpet/mark.errSort" =some 1:=by kernel_rfl
theorem tg_mark_errSort :(Tryz.prog.globals[1]?).map (·.type)=some 84:=by kernel_rfl
theorem g_mark_errWrong :Tryz.prog.globalNamed "limpet/mark.errWrong" =some 0:=by kernel_rfl
theorem tg_mark_errWrong :(Tryz.prog.globals[0]?).map (·.type)=some 84:=by kernel_rfl
theorem g_mark_errBody :Tryz.prog.globalNamed "limpet/mark.errBody" =some 2:=by kernel_rfl
theorem tg_mark_errBody :(Tryz.prog.globals[2]?).map (·.type)=some 84:=by kernel_rfl
theorem g_mark_errLost :Tryz.prog.globalNamed "limpet/mark.errLost" =some 3:=by kernel_rfl
theorem tg_mark_errLost :(Tryz.prog.globals[3]?).map (·.type)=some 84:=by kernel_rfl
abbrev laidKS :List (String × DataW Unit):= [("limpet/dev.errNil",Rows.laid_limpet_dev_errNil),("limpet/dev.errDown",Rows.laid_limpet_dev_errDown),("limpet/dev.errBlock",Rows.laid_limpet_dev_errBlock),("limpet/dev.errLong",Rows.laid_limpet_dev_errLong),("limpet/dev.errSame",Rows.laid_limpet_dev_errSame),("limpet/dev.errHurt",Rows.laid_limpet_dev_errHurt),("limpet/code.errWidth",Rows.laid_limpet_code_errWidth),("limpet/code.errFew",Rows.laid_limpet_code_errFew),("limpet/code.errGreat",Rows.laid_limpet_code_errGreat),("limpet/code.errMuch",Rows.laid_limpet_code_errMuch),("limpet/unit.errBytes",Rows.laid_limpet_unit_errBytes),("limpet/unit.errKind",Rows.laid_limpet_unit_errKind),("limpet/unit.errSum",Rows.laid_limpet_unit_errSum),("limpet/unit.errNum",Rows.laid_limpet_unit_errNum),("limpet/unit.errBody",Rows.laid_limpet_unit_errBody),("limpet/unit.errNought",Rows.laid_limpet_unit_errNought),("limpet/unit.errEnd",Rows.laid_limpet_unit_errEnd),("limpet/unit.errOther",Rows.laid_limpet_unit_errOther),("limpet/mark.errSort",Rows.laid_limpet_mark_errSort),("limpet/mark.errWrong",Rows.laid_limpet_mark_errWrong),("limpet/mark.errBody",Rows.laid_limpet_mark_errBody),("limpet/mark.errLost",Rows.laid_limpet_mark_errLost)]
abbrev laidK :List (String × DataW Unit):=("errors.errorType",Rows.laid_errors_errorType)::laidKS
theorem gTy :Tryz.prog.globalNamed "errors.errorType" =some 9:=by kernel_rfl
theorem rtRow :(Tryz.prog.cutTypes.find? (·.1== "internal/reflectlite.rtype")).map (·.2)=some 202:=by kernel_rfl
theorem typesSize :Tryz.prog.types.size=294:=by kernel_rfl
theorem oneRow :((List.range 294).filter fun t=>Tryz.prog.rowNamed t [101,114,114,111,114])= [84]:=by kernel_rfl
theorem gl_laidK {W:World} (h:laidMetH Tryz.prog laidK W): ∃(σ:Sen) (τ:SenU) (δ:SenD) (κ:SenK),GlAt σ W∧GlU τ W∧GlD δ W∧GlS δ W∧GlK κ W:=by
 have h':laidMet Tryz.prog laidKS W∧handlesMet Tryz.prog [("errors.errorType",Rows.laid_errors_errorType)] W:=h
 obtain⟨⟨ps,hL,hnd,hrows⟩,hh⟩:=h'
 obtain⟨a0,X0,q0,c0,b0,h0,rfl,m0⟩:=sent_step hL hrows g_dev_errNil tg_dev_errNil
 have r0:=rows_tail hrows
 have n0:=(List.nodup_append.1 hnd).2.1
 obtain⟨a1,X1,q1,c1,b1,h1,rfl,m1⟩:=sent_step h0 r0 g_dev_errDown tg_dev_errDown
 have r1:=rows_tail r0
 have n1:=(List.nodup_append.1 n0).2.1
 obtain⟨a2,X2,q2,c2,b2,h2,rfl,m2⟩:=sent_step h1 r1 g_dev_errBlock tg_dev_errBlock
 have r2:=rows_tail r1
 have n2:=(List.nodup_append.1 n1).2.1
 obtain⟨a3,X3,q3,c3,b3,h3,rfl,m3⟩:=sent_step h2 r2 g_dev_errLong tg_dev_errLong
 have r3:=rows_tail r2
 have n3:=(List.nodup_append.1 n2).2.1
 obtain⟨a4,X4,q4,c4,b4,h4,rfl,m4⟩:=sent_step h3 r3 g_dev_errSame tg_dev_errSame
 have r4:=rows_tail r3
 have n4:=(List.nodup_append.1 n3).2.1
 obtain⟨a5,X5,q5,c5,b5,h5,rfl,m5⟩:=sent_step h4 r4 g_dev_errHurt tg_dev_errHurt
 have r5:=rows_tail r4
 have n5:=(List.nodup_append.1 n4).2.1
 obtain⟨a6,X6,q6,c6,b6,h6,rfl,m6⟩:=sent_step h5 r5 g_code_errWidth tg_code_errWidth
 have r6:=rows_tail r5
 have n6:=(List.nodup_append.1 n5).2.1
 obtain⟨a7,X7,q7,c7,b7,h7,rfl,m7⟩:=sent_step h6 r6 g_code_errFew tg_code_errFew
 have r7:=rows_tail r6
 have n7:=(List.nodup_append.1 n6).2.1
 obtain⟨a8,X8,q8,c8,b8,h8,rfl,m8⟩:=sent_step h7 r7 g_code_errGreat tg_code_errGreat
 have r8:=rows_tail r7
 have n8:=(List.nodup_append.1 n7).2.1
 obtain⟨a9,X9,q9,c9,b9,h9,rfl,m9⟩:=sent_step h8 r8 g_code_errMuch tg_code_errMuch
 have r9:=rows_tail r8
 have n9:=(List.nodup_append.1 n8).2.1
 obtain⟨a10,X10,q10,c10,b10,h10,rfl,m10⟩:=sent_step h9 r9 g_unit_errBytes tg_unit_errBytes
 have r10:=rows_tail r9
 have n10:=(List.nodup_append.1 n9).2.1
 obtain⟨a11,X11,q11,c11,b11,h11,rfl,m11⟩:=sent_step h10 r10 g_unit_errKind tg_unit_errKind
 have r11:=rows_tail r10
 have n11:=(List.nodup_append.1 n10).2.1
 obtain⟨a12,X12,q12,c12,b12,h12,rfl,m12⟩:=sent_step h11 r11 g_unit_errSum tg_unit_errSum
 have r12:=rows_tail r11
 have n12:=(List.nodup_append.1 n11).2.1
 obtain⟨a13,X13,q13,c13,b13,h13,rfl,m13⟩:=sent_step h12 r12 g_unit_errNum tg_unit_errNum
 have r13:=rows_tail r12
 have n13:=(List.nodup_append.1 n12).2.1
 obtain⟨a14,X14,q14,c14,b14,h14,rfl,m14⟩:=sent_step h13 r13 g_unit_errBody tg_unit_errBody
 have r14:=rows_tail r13
 have n14:=(List.nodup_append.1 n13).2.1
 obtain⟨a15,X15,q15,c15,b15,h15,rfl,m15⟩:=sent_step h14 r14 g_unit_errNought tg_unit_errNought
 have r15:=rows_tail r14
 have n15:=(List.nodup_append.1 n14).2.1
 obtain⟨a16,X16,q16,c16,b16,h16,rfl,m16⟩:=sent_step h15 r15 g_unit_errEnd tg_unit_errEnd
 have r16:=rows_tail r15
 have n16:=(List.nodup_append.1 n15).2.1
 obtain⟨a17,X17,q17,c17,b17,h17,rfl,m17⟩:=sent_step h16 r16 g_unit_errOther tg_unit_errOther
 have r17:=rows_tail r16
 have n17:=(List.nodup_append.1 n16).2.1
 obtain⟨a18,X18,q18,c18,b18,h18,rfl,m18⟩:=sent_step h17 r17 g_mark_errSort tg_mark_errSort
 have r18:=rows_tail r17
 have n18:=(List.nodup_append.1 n17).2.1
 obtain⟨a19,X19,q19,c19,b19,h19,rfl,m19⟩:=sent_step h18 r18 g_mark_errWrong tg_mark_errWrong
 have r19:=rows_tail r18
 have n19:=(List.nodup_append.1 n18).2.1
 obtain⟨a20,X20,q20,c20,b20,h20,rfl,m20⟩:=sent_step h19 r19 g_mark_errBody tg_mark_errBody
 have r20:=rows_tail r19
 have n20:=(List.nodup_append.1 n19).2.1
 obtain⟨a21,X21,q21,c21,b21,h21,rfl,m21⟩:=sent_step h20 r20 g_mark_errLost tg_mark_errLost
 obtain⟨name,u,ty,e1,e2,e3,e4,e5⟩:=hh _ (List.mem_singleton.2 rfl)
 have en:name= [101,114,114,111,114]:=(Option.some.inj e1).symm
 subst en
 obtain rfl:=Option.some.inj (rtRow.symm.trans e2)
 have hm:ty∈(List.range 294).filter fun t=>Tryz.prog.rowNamed t [101,114,114,111,114]:=List.mem_filter.2 ⟨List.mem_range.2 (by rw [← typesSize];exact e3),e4⟩
 rw [oneRow]at hm
 obtain rfl:=List.mem_singleton.1 hm
 have hth:typeHandle Tryz.prog 84= .pointer (some ⟨23,84,none⟩):=by kernel_rfl
 rw [hth]at e5
 have cty0:=World.var?_cell gTy e5 0
 have cty:W.cell? ⟨9,0,none⟩=some (.iface 202 (.agg #[.pointer (some ⟨23,84,none⟩)])):=by simpa using cty0
 have GC:GlAt ⟨a6,a7,a8,a9,a7⟩ W:=by
  refine⟨c6,c7,c8,c9,cty,?_,places_ne n5 m6 (List.mem_append_right _ (List.mem_append_right _ (List.mem_append_left _ m9))),places_ne n6 m7 (List.mem_append_right _ (List.mem_append_left _ m9)),places_ne n7 m8 (List.mem_append_left _ m9),places_ne n6 m7 (List.mem_append_right _ (List.mem_append_left _ m9))⟩
  rintro a (rfl | rfl | rfl | rfl | rfl)
  · exact b6
  · exact b7
  · exact b8
  · exact b9
  · exact b7
 have GU:GlU ⟨a10,a11,a12,a13,a14,a15,a16,a17⟩ W:=by
  refine⟨c10,c11,c12,c13,c14,c15,c16,c17,cty,?_,⟨places_ne n9 m10 (List.mem_append_right _ (List.mem_append_left _ m12)),places_ne n10 m11 (List.mem_append_left _ m12),(places_ne n11 m12 (List.mem_append_left _ m13)).symm,(places_ne n11 m12 (List.mem_append_right _ (List.mem_append_left _ m14))).symm,(places_ne n11 m12 (List.mem_append_right _ (List.mem_append_right _ (List.mem_append_left _ m15)))).symm,(places_ne n11 m12 (List.mem_append_right _ (List.mem_append_right _ (List.mem_append_right _ (List.mem_append_left _ m16))))).symm,(places_ne n11 m12 (List.mem_append_right _ (List.mem_append_right _ (List.mem_append_right _ (List.mem_append_right _ (List.mem_append_left _ m17)))))).symm⟩,⟨places_ne n9 m10 (List.mem_append_right _ (List.mem_append_right _ (List.mem_append_right _ (List.mem_append_right _ (List.mem_append_right _ (List.mem_append_right _ (List.mem_append_left _ m17))))))),places_ne n10 m11 (List.mem_append_right _ (List.mem_append_right _ (List.mem_append_right _ (List.mem_append_right _ (List.mem_append_right _ (List.mem_append_left _ m17)))))),places_ne n12 m13 (List.mem_append_right _ (List.mem_append_right _ (List.mem_append_right _ (List.mem_append_left _ m17)))),places_ne n13 m14 (List.mem_append_right _ (List.mem_append_right _ (List.mem_append_left _ m17))),places_ne n14 m15 (List.mem_append_right _ (List.mem_append_left _ m17)),places_ne n15 m16 (List.mem_append_left _ m17)⟩⟩
  rintro a (rfl | rfl | rfl | rfl | rfl | rfl | rfl | rfl)
  · exact b10
  · exact b11
  · exact b12
  · exact b13
  · exact b14
  · exact b15
  · exact b16
  · exact b17
 have GD:GlD ⟨a0,a1,a2,a3,a5,a4⟩ W:=⟨c0,c1,c2,c3,c5,b0,b1,b2,b3,b5,(places_ne hnd m0 (List.mem_append_left _ m1)).symm,(places_ne hnd m0 (List.mem_append_right _ (List.mem_append_right _ (List.mem_append_right _ (List.mem_append_right _ (List.mem_append_left _ m5)))))).symm,(places_ne n0 m1 (List.mem_append_right _ (List.mem_append_right _ (List.mem_append_right _ (List.mem_append_left _ m5))))).symm,⟨(places_ne hnd m0 (List.mem_append_right _ (List.mem_append_left _ m2))).symm,(places_ne n0 m1 (List.mem_append_left _ m2)).symm,places_ne n1 m2 (List.mem_append_right _ (List.mem_append_right _ (List.mem_append_left _ m5)))⟩,⟨(places_ne hnd m0 (List.mem_append_right _ (List.mem_append_right _ (List.mem_append_left _ m3)))).symm,(places_ne n0 m1 (List.mem_append_right _ (List.mem_append_left _ m3))).symm,places_ne n2 m3 (List.mem_append_right _ (List.mem_append_left _ m5))⟩⟩
 have GS:GlS ⟨a0,a1,a2,a3,a5,a4⟩ W:=⟨c4,b4,⟨(places_ne hnd m0 (List.mem_append_right _ (List.mem_append_right _ (List.mem_append_right _ (List.mem_append_left _ m4))))).symm,(places_ne n0 m1 (List.mem_append_right _ (List.mem_append_right _ (List.mem_append_left _ m4)))).symm,places_ne n3 m4 (List.mem_append_left _ m5)⟩⟩
 have GK:GlK ⟨a18,a19,a20,a21⟩ W:=⟨c18,c19,c20,c21,cty,b18,b19,b20,b21,places_ne n17 m18 (List.mem_append_left _ m19),places_ne n17 m18 (List.mem_append_right _ (List.mem_append_left _ m20)),places_ne n17 m18 (List.mem_append_right _ (List.mem_append_right _ (List.mem_append_left _ m21))),places_ne n18 m19 (List.mem_append_left _ m20),places_ne n18 m19 (List.mem_append_right _ (List.mem_append_left _ m21)),places_ne n19 m20 (List.mem_append_left _ m21)⟩
 exact⟨_,_,_,_,GC,GU,GD,GS,GK⟩
theorem door_laidK (os:Os) (args:Array Value):laidMetH Tryz.prog laidK ((World.doorLaid Tryz.prog 800 os).forCall (fun _ _=>0) ⟨#[],args,[]⟩).memory:=
 laidMetH_of_parts3 (fuel:=8) (laidMet_of_run' 8 (by kernel_rfl) (by kernel_rfl)) (by kernel_rfl) (by kernel_rfl)
theorem list3 {α:Type} (l:List α) (h:l.length=3): ∃a b c,l= [a,b,c]:=by
 match l,h with
 | [a,b,c],_=>exact⟨a,b,c,rfl⟩
end Go.Proofs.YtpaikolnampcfaaGreatDoor
