/- The statements' own helpers: a row of bytes lent out, with marks behind its end; is it, with its marks, as it was. -/
import Derived.Test.YtpaikolnampcfaaGreatDoorKitInts
import Derived.Laws.AppendOwnNone
import Derived.Maps.AppendAt
import Derived.Test.YtpaikolnampcfaaGreatDoorCodeLay
import Derived.Test.YtpaikolnampcfaaGreatDoorUnitErr
import Derived.IntWalk
namespace Go.Proofs.YtpaikolnampcfaaGreatDoor
set_option maxRecDepth 100000
set_option maxHeartbeats 4000000
open Go.RowKit
def mk (i:Nat):Int:=IntKind.u64.wrap ((8000024+(i:Int)) * 11400714819323198485) / 72057594037927936 % 256
def marksTo (k:Nat):List Int:=(List.range k).map mk
theorem marksTo_succ (k:Nat):marksTo (k+1)=marksTo k++ [mk k]:=by unfold marksTo;rw [List.range_succ,List.map_append];rfl
theorem marksTo_len (k:Nat):(marksTo k).length=k:=by unfold marksTo;simp
theorem markByte_at (i:Nat) (w:World) (_hi:i < 12):
 Calls Tryz.prog 39 #[.int .i64 1,.int .i64 (i:Int)] w fun e w'=>e= .returned (.int .u8 (mk i))∧w=w':=by
 go_enter Tryz.func39,Tryz.ntmps39
 go_wp2
 go_ret
 exact⟨rfl,rfl⟩
def LentAt (w:World) (v:Value) (zs:List Int):Prop:=
 ∃g cap cs,v= .slice (some ⟨g,0,none⟩) zs.length cap∧zs.length+12≤cap∧cap≤9223372036854775807∧w.heap[g]? =some (.cells cs 5 (0,0))∧cs.toList.take (zs.length+12)=u8s (zs++marksTo 12)∧ ∀z∈zs,0≤z∧z < 256
theorem lent_of_own {w:World} {B g cap:Nat} {zs:List Int} (h:w.ownsRow B 5 1 (.slice (some ⟨g,0,none⟩) (zs.length+12) cap) (zs.length+12) (u8s (zs++marksTo 12))) (hz: ∀z∈zs,0≤z∧z < 256):
 LentAt w (.slice (some ⟨g,0,none⟩) zs.length cap) zs:=by
 rcases h.2 with⟨h',_⟩ | ⟨g',cap',cs,h',_,hg,hc,hm,_,ht⟩
 · cases h'
 · obtain⟨rfl,rfl⟩:g=g'∧cap=cap':=by simpa using h'
   exact⟨g,cap,cs,rfl,hc,hm,hg,by simpa using ht,hz⟩
theorem lentBytes_new (zs:List Int) (A:Option Addr) (c:Nat) (w:World) (hz:BytesAt w A zs) (hl:zs.length≤140737488351232) (hA:A=none→c=0):
 Calls Tryz.prog 9 #[.slice A zs.length c] w fun e w'=> ∃v,e= .returned v∧LentAt w' v zs∧Below w.heap.size w w'∧ ∀b,v.ownBlock=some b→w.heap.size≤b:=by
 obtain⟨i0,hi,hz0,hz1,hz2⟩:=info_parts infoByte
 rcases A with _ | ad
 · obtain rfl:c=0:=hA rfl
   have hnil:zs= []:=by
    apply Classical.byContradiction
    intro hne
    obtain⟨b,off,e⟩:=hz.some_ hne
    cases e
   subst hnil
   clear hA
   go_enter Tryz.func9,Tryz.ntmps9
   go_wp2_with (refine wpList_make_own _ rfl _ _ _ rfl w.heap.size 5 i0 (.int .u8 0) 1 Tryz.underlying28 hi hz0 hz1 .i64 .i64 _ 12 rfl rfl rfl (by rw [hz2];decide) (by decide) (Nat.le_refl _) ?_;intro w1 hown1 hgrow1)
   have hb2:=(Below.refl w.heap.size w).grown hgrow1 (Nat.le_refl _) (fun j e=>by cases e)
   have hown2:=hown1
   go_wp2_with (at_builtin;refine wpList_append_own_none rfl _ _ 28 rfl w.heap.size 5 i0 1 Tryz.underlying28 hi _ _ _ rfl hown1 rfl ?_)
   · skip
     go_wp2_with fail
     go_loopg [3,4] 12 (fun g v i wx=> ∃k:Nat,g=12 - k∧k≤12∧i= .int .i64 (k:Int)∧wx.ownsRow w.heap.size 5 1 v (0+k) (u8s ([]++marksTo k))∧Below w.heap.size w wx)
     case atStart=>exact⟨0,rfl,by omega,rfl,own_same hown2 (by simp) (by simp [marksTo,u8s]),hb2⟩
     case round=>
      obtain⟨k,hgk,hk,rfl,hown3,hb3⟩:=hrel
      have Hgk:=qh hgk;clear hgk
      by_cases hlt:k < 12
      · go_wp2_with fail
        refine(markByte_at k _ hlt).mono ?_
        rintro e w' ⟨rfl,rfl⟩
        have hsz:=hb3.size
        go_wp2_with (at_builtin;refine wpList_append_own _ rfl _ _ 28 rfl w.heap.size 5 i0 (.int .u8 0) 1 1 Tryz.underlying28 hi hz0 hz1 hz2 rfl (by decide) _ _ _ rfl (hown3.alloc _) ⟨wr.heap.size,0,none⟩ 1 1 [.int .u8 (mk k)] rfl rfl (cell_one_new _ _ _) ?c3 ?c4 ?c5 ?c6 ?_)
        case c3=>intro u hu;rw [List.mem_singleton.1 hu];rfl
        case c4=>unfold maxLen;omega
        case c5=>omega
        case c6=>simp;omega
        intro v3 w3 hown4 hgrow3 _
        go_wp2_with fail
        go_roundg (12 - (k+1))
        case measure=>rw [Hgk.out];omega
        case rel=>exact⟨k+1,rfl,by omega,by go_num,own_same hown4 (by omega) (by rw [marksTo_succ];simp [u8s]),(hb3.alloc hb3.size _).grown hgrow3 (by simp;omega) (fun j e=>(hown3.lt j e).1)⟩
      · obtain rfl:k=12:=by omega
        obtain⟨g,cap,hv,hgb,hglt,hncap,hcapm⟩:=own_form hown3 (by omega)
        rw [hv]at hown3 ⊢
        have hcm:cap≤9223372036854775807:=hcapm
        have hlt2:0≤cap:=by omega
        clear hv
        go_wp2_with fail
        go_ret
        exact⟨_,rfl,lent_of_own hown3 hz.1,hb3,fun b e=>by cases e;exact hgb⟩
 · have hsrc: ∀j u,(u8s zs)[j]? =some u→w.cell? (ad.add j)=some u:=fun j u hj=>by
    have hne:zs≠ []:=by intro e;subst e;simp [u8s]at hj
    obtain⟨b,off,e,hc⟩:=hz.2 hne
    obtain rfl:ad=⟨b,off,none⟩:=by simpa using e
    simp only [u8s,List.getElem?_map]at hj
    cases hq:zs[j]? with
    | none=>simp [hq]at hj
    | some z=>
      obtain rfl:Value.int .u8 z=u:=by simpa [hq] using hj
      have h1:=hc j (List.getElem?_eq_some_iff.1 hq).1
      rw [List.getD_eq_getElem?_getD,hq]at h1
      have hadd:(⟨b,off,none⟩:Addr).add j=⟨b,off+j,none⟩:=by unfold Addr.add;split<;>simp_all
      rw [hadd];exact h1
   have Hsrc:=qh hsrc
   clear hA hsrc
   go_enter Tryz.func9,Tryz.ntmps9
   go_wp2_with (first | (refine wpList_make_own _ rfl _ _ _ rfl w.heap.size 5 i0 (.int .u8 0) 1 Tryz.underlying28 hi hz0 hz1 .i64 .i64 _ (zs.length+12) rfl rfl (by omega) (by rw [hz2];omega) (by unfold maxLen;omega) (Nat.le_refl _) ?_;intro w1 hown1 hgrow1) | (at_builtin;refine wpList_append_own _ rfl _ _ 28 rfl w.heap.size 5 i0 (.int .u8 0) 1 1 Tryz.underlying28 hi hz0 hz1 hz2 rfl (by decide) _ _ _ rfl hown1 ad zs.length c (u8s zs) rfl ?c1 ?c2 ?c3 ?c4 ?c5 ?c6 ?_))
   case c1=>rw [u8s_len];omega
   case c2=>
    intro j u hj
    have h1:=Hsrc.out j u hj
    exact(World.cell?_of_block (hgrow1.block _ (World.block_lt_of_cell? _ _ h1) (by simp))).trans h1
   case c3=>exact u8s_one zs
   case c4=>unfold maxLen;omega
   case c5=>omega
   case c6=>exact hgrow1.size
   intro v2 w2 hown2 hgrow2 _
   · have hb1:=(Below.refl w.heap.size w).grown hgrow1 (Nat.le_refl _) (fun j e=>by cases e)
     have hb2:=hb1.grown hgrow2 hgrow1.size (fun j e=>by simp [Value.ownBlock]at e;omega)
     go_wp2_with fail
     go_loopg [3,4] 12 (fun g v i wx=> ∃k:Nat,g=12 - k∧k≤12∧i= .int .i64 (k:Int)∧wx.ownsRow w.heap.size 5 1 v (zs.length+k) (u8s (zs++marksTo k))∧Below w.heap.size w wx)
     case atStart=>exact⟨0,rfl,by omega,rfl,own_same hown2 (by simp) (by simp [marksTo,u8s]),hb2⟩
     case round=>
      obtain⟨k,hgk,hk,rfl,hown3,hb3⟩:=hrel
      have Hgk:=qh hgk;clear hgk
      by_cases hlt:k < 12
      · go_wp2_with fail
        refine(markByte_at k _ hlt).mono ?_
        rintro e w' ⟨rfl,rfl⟩
        have hsz:=hb3.size
        go_wp2_with (at_builtin;refine wpList_append_own _ rfl _ _ 28 rfl w.heap.size 5 i0 (.int .u8 0) 1 1 Tryz.underlying28 hi hz0 hz1 hz2 rfl (by decide) _ _ _ rfl (hown3.alloc _) ⟨wr.heap.size,0,none⟩ 1 1 [.int .u8 (mk k)] rfl rfl (cell_one_new _ _ _) ?c3 ?c4 ?c5 ?c6 ?_)
        case c3=>intro u hu;rw [List.mem_singleton.1 hu];rfl
        case c4=>unfold maxLen;omega
        case c5=>omega
        case c6=>simp;omega
        intro v3 w3 hown4 hgrow3 _
        go_wp2_with fail
        go_roundg (12 - (k+1))
        case measure=>rw [Hgk.out];omega
        case rel=>exact⟨k+1,rfl,by omega,by go_num,own_same hown4 (by omega) (by rw [marksTo_succ];simp [u8s]),(hb3.alloc hb3.size _).grown hgrow3 (by simp;omega) (fun j e=>(hown3.lt j e).1)⟩
      · obtain rfl:k=12:=by omega
        obtain⟨g,cap,hv,hgb,hglt,hncap,hcapm⟩:=own_form hown3 (by omega)
        rw [hv]at hown3 ⊢
        have hcm:cap≤9223372036854775807:=hcapm
        have hlt2:zs.length≤cap:=by omega
        clear hv
        go_wp2_with fail
        go_ret
        exact⟨_,rfl,lent_of_own hown3 hz.1,hb3,fun b e=>by cases e;exact hgb⟩
theorem lentBytes_any (zs:List Int) (A:Option Addr) (c:Nat) (w:World) (hz:BytesAt w A zs) (hl:zs.length≤140737488351232) (hA:A=none→c=0):
 Calls Tryz.prog 9 #[.slice A zs.length c] w fun e w'=> ∃v,e= .returned v∧LentAt w' v zs∧Below w.heap.size w w':=
 (lentBytes_new zs A c w hz hl hA).mono fun _ _ ⟨v,h1,h2,h3,_⟩=>⟨v,h1,h2,h3⟩
open Go.RowKit
theorem lent_cell {w:World} {g n:Nat} {cs:Array Value} {zs:List Int} {t:TypeId} (hg:w.heap[g]? =some (.cells cs t (0,0))) (ht:cs.toList.take n=u8s zs) (i:Nat) (hi:i < zs.length):w.cell? ⟨g,i,none⟩=some (.int .u8 (zs.getD i 0)):=by
 rw [cell_of_row _ _ _ _ _ _ hg]
 have hl:(u8s zs)[i]? =some (.int .u8 (zs.getD i 0)):=by
  simp [u8s,List.getD_eq_getElem?_getD,List.getElem?_eq_getElem hi]
 rw [← ht]at hl
 have hn:i < n:=by
  rcases Nat.lt_or_ge i n with h | h
  · exact h
  · rw [List.getElem?_take_eq_none h]at hl;cases hl
 rw [List.getElem?_take_of_lt hn,Array.getElem?_toList]at hl
 exact hl
theorem marks_at (zs:List Int) (k:Nat) (hk:k < 12):(zs++marksTo 12).getD (zs.length+k) 0=mk k:=by
 rw [List.getD_eq_getElem?_getD,List.getElem?_append_right (Nat.le_add_right _ _),Nat.add_sub_cancel_left]
 unfold marksTo
 simp [hk]
theorem front_at (zs ms:List Int) (i:Nat) (hi:i < zs.length):(zs++ms).getD i 0=zs.getD i 0:=by
 rw [List.getD_eq_getElem?_getD,List.getD_eq_getElem?_getD,List.getElem?_append_left hi]
theorem markByte_quiet (x:Int) (i:Nat) (w:World) (hi:i < 12) (hx:x=(i:Int)):
 Calls Tryz.prog 39 #[.int .i64 1,.int .i64 x] w fun e w'=>e= .returned (.int .u8 (mk i))∧w'=w:=by
 subst hx
 exact(markByte_at i w hi).mono fun _ _ h=>⟨h.1,h.2.symm⟩
theorem keptBytes_any (zs:List Int) (v:Value) (A:Option Addr) (c:Nat) (w:World) (hv:LentAt w v zs) (hz:BytesAt w A zs) (hl:zs.length≤140737488351232):
 Calls Tryz.prog 16 #[v,.slice A zs.length c] w fun e w'=>e= .returned (.bool true)∧ ∃n,w'=w.drewN n:=by
 obtain⟨g,cap,cs,rfl,hcap,hcm,hg,ht,hr⟩:=hv
 have hne:((zs.length:Int) != (zs.length:Int))=false:=by simp
 go_enter Tryz.func16,Tryz.ntmps16
 go_wp2_with fail
 go_loopg [6] (zs.length+12) (fun gg i wx=>(∃nq,wx=w.drewN nq)∧ ∃k:Nat,gg=zs.length+12 - k∧k≤zs.length+12∧i= .int .i64 (k:Int))
 case atStart=>exact⟨⟨0,rfl⟩,0,rfl,by omega,rfl⟩
 case round=>
  obtain⟨⟨nq,rfl⟩,k,hgk,hk,rfl⟩:=hrel
  have Hgk:=qh hgk;clear hgk
  by_cases hlt:k < zs.length
  · obtain⟨b,off,rfl⟩:=hz.some_ (by intro e;simp [e]at hlt)
    have c1:=lent_cell hg ht k (by rw [List.length_append,marksTo_len];omega)
    have c2:=hz.one k hlt
    rw [front_at _ _ _ hlt]at c1
    generalize zs.getD k 0=z at c1 c2
    have hge: ¬zs.length≤k:=by omega
    have hlt12:k < zs.length+12:=by omega
    go_wp2_with fail
    go_quiet (fail)
    go_wp2_with fail
    go_roundg (zs.length+12 - (k+1))
    case measure=>rw [Hgk.out];omega
    case rel=>exact⟨⟨_,rfl⟩,k+1,rfl,by omega,by go_num⟩
  · by_cases hlt12:k < zs.length+12
    · obtain⟨j,rfl⟩: ∃j,k=zs.length+j:=⟨k - zs.length,by omega⟩
      have hj:j < 12:=by omega
      have hgW:(w.drewN nq).heap[g]? =some (.cells cs 5 (0,0)):=hg
      obtain⟨W,hW⟩: ∃W,w.drewN nq=W:=⟨_,rfl⟩
      rw [hW]at hgW ⊢
      have HW:=qh hW
      clear hW hg hz
      have c1:=lent_cell hgW ht (zs.length+j) (by rw [List.length_append,marksTo_len];omega)
      rw [marks_at _ _ hj]at c1
      have hge:decide ((zs.length:Int)≤(zs.length:Int)+(j:Int))=true:=decide_eq_true (by omega)
      have hnl:decide ((zs.length:Int)+(j:Int) < (zs.length:Int))=false:=decide_eq_false (by omega)
      go_wp2_with fail
      go_quiet ((go_at_call 39;exact Calls.quiet_of_same (markByte_quiet _ j _ hj (by omega))))
      go_wp2_with fail
      go_roundg (zs.length+12 - (zs.length+j+1))
      case measure=>rw [Hgk.out];omega
      case rel=>exact⟨⟨_,by rw [← HW.out];exact World.drewN_drewN _ _ _⟩,zs.length+j+1,rfl,by omega,by go_num⟩
    · obtain rfl:k=zs.length+12:=by omega
      go_wp2_with fail
      go_ret
      exact⟨rfl,_,rfl⟩
open Go.RowKit
theorem step_append_own8 {w:World} {ops:Array Oper} {o:Oper} {a:Act} {K:Act→World→Prop} {Q:Exit→Act→World→Prop} {E:Prop} (hgd:o.guard=none) (s x:Operand)
 (ho:o.op= .call { callee:= .builtin .append,args:= #[s,x],argTypes:= #[28,28] }) (base:Nat) (v:Value) (n:Nat) (xs:List Int) (hs:a.eval s=v) (hown:w.ownsRow base 5 1 v n (u8s xs))
 (A:Option Addr) (zs:List Int) (m c:Nat) (hx:a.eval x= .slice A m c) (hm:zs.length=m) (hz:BytesAt w A zs) (hA:A=none→c=0) (hb:n+m≤140737488355328) (hbase:base≤w.heap.size)
 (h: ∀v' w',w'.ownsRow base 5 1 v' (n+m) (u8s (xs++zs))→w.grownBy w' v.ownBlock→(v'.ownBlock=v.ownBlock∨ ∃b,v'.ownBlock=some b∧w.heap.size≤b)→K (a.put o.dst v') w'):
 if Region.wanted o (yielded ops a.tmps)=true then Oper.wp Tryz.prog o a w K Q else E:=by
 have hw:Region.wanted o (yielded ops a.tmps)=true:=by simp [Region.wanted,hgd]
 rw [if_pos hw]
 obtain⟨i0,hi,hz0,hz1,hz2⟩:=info_parts infoByte
 subst hm
 cases A with
 | none=>
   have hnil:zs= []:=by
    apply Classical.byContradiction
    intro hne
    obtain⟨b,off,e⟩:=hz.some_ hne
    cases e
   subst hnil
   obtain rfl:c=0:=hA rfl
   have hr:=run_append_owned_none (P:=Tryz.prog) (w:=w) base 28 o.type 5 i0 1 Tryz.underlying28 hi v n (u8s xs) hown
   unfold Oper.wp execOp
   have hx':a.eval x= .slice none 0 0:=hx
   simp only [ho,resolve,invoke,builtin,Sem.run_bind,Sem.run_pure,Result.andThen_ok,List.map_toArray,List.map_cons,List.map_nil,hs,hx',hr]
   exact h v w (own_same hown (by simp) (by simp)) (World.grownBy.refl _ _) (.inl rfl)
 | some ad=>
   have hsrc: ∀j u,(u8s zs)[j]? =some u→w.cell? (ad.add j)=some u:=fun j u hj=>by
    have hne:zs≠ []:=by intro e;subst e;simp [u8s]at hj
    obtain⟨b,off,e,hc⟩:=hz.2 hne
    obtain rfl:ad=⟨b,off,none⟩:=by simpa using e
    simp only [u8s,List.getElem?_map]at hj
    cases hq:zs[j]? with
    | none=>simp [hq]at hj
    | some z=>
      obtain rfl:Value.int .u8 z=u:=by simpa [hq] using hj
      have h1:=hc j (List.getElem?_eq_some_iff.1 hq).1
      rw [List.getD_eq_getElem?_getD,hq]at h1
      have hadd:(⟨b,off,none⟩:Addr).add j=⟨b,off+j,none⟩:=by unfold Addr.add;split<;>simp_all
      rw [hadd];exact h1
   obtain⟨v',w',hr,h2,h3,h4,h5⟩:=run_append_own_at (P:=Tryz.prog) w base 28 o.type 5 i0 (.int .u8 0) 1 1 Tryz.underlying28 hi hz0 hz1 hz2 rfl (by decide) v n (u8s xs) hown ad zs.length c (u8s zs) (by rw [u8s_len,Nat.mul_one]) hsrc (u8s_one zs) (by unfold maxLen;omega) (by omega) hbase
   unfold Oper.wp execOp
   simp only [ho,resolve,invoke,builtin,Sem.run_bind,Sem.run_pure,Result.andThen_ok,List.map_toArray,List.map_cons,List.map_nil,hs,hx,hr]
   exact h v' w' (own_same h2 rfl (by rw [u8s_app])) h3 (h5.imp id fun e=>⟨_,e,Nat.le_refl _⟩)
theorem step_clone8 {w:World} {ops:Array Oper} {o:Oper} {a:Act} {K:Act→World→Prop} {Q:Exit→Act→World→Prop} {E:Prop} (hgd:o.guard=none) (s x:Operand)
 (ho:o.op= .call { callee:= .builtin .append,args:= #[s,x],argTypes:= #[28,28] }) (g0:Nat) (hs:a.eval s= .slice (some ⟨g0,0,none⟩) 0 0) (hB:BlockIs w g0 5 #[])
 (A:Option Addr) (zs:List Int) (m c:Nat) (hx:a.eval x= .slice A m c) (hm:zs.length=m) (h0:0 < m) (hz:BytesAt w A zs) (hA:A=none→c=0) (hb:m≤140737488355328)
 (h: ∀g cap w',w'.ownsRow 0 5 1 (.slice (some ⟨g,0,none⟩) m cap) m (u8s zs)→g0≤g→m≤cap→cap≤maxLen→w.grownBy w' (some g0)→K (a.put o.dst (.slice (some ⟨g,0,none⟩) m cap)) w'):
 if Region.wanted o (yielded ops a.tmps)=true then Oper.wp Tryz.prog o a w K Q else E:=by
 have hown:w.ownsRow g0 5 1 (.slice (some ⟨g0,0,none⟩) 0 0) 0 (u8s []):=⟨rfl,.inr ⟨g0,0,#[],rfl,Nat.le_refl _,hB,Nat.le_refl _,Nat.zero_le _,rfl,rfl⟩⟩
 refine step_append_own8 hgd s x ho g0 _ 0 [] hs hown A zs m c hx hm hz hA (by omega) (Nat.le_of_lt hB.lt) ?_
 intro v' w' h1 h2 h3
 have h1':w'.ownsRow g0 5 1 v' m (u8s zs):=own_same h1 (by omega) rfl
 obtain⟨g,cap,e,hg,_,hc,hc2⟩:=own_form h1' h0
 subst e
 exact h g cap w' ⟨h1'.1,h1'.2.imp id fun⟨g,cap,cur,e1,e2,e3⟩=>⟨g,cap,cur,e1,Nat.zero_le _,e3⟩⟩ hg hc hc2 h2
theorem wpList_clone8 {w:World} {ops:Array Oper} {rest:List Oper} {o:Oper} {a:Act} {Q:Exit→Act→World→Prop} (hgd:o.guard=none) (s x:Operand)
 (ho:o.op= .call { callee:= .builtin .append,args:= #[s,x],argTypes:= #[28,28] }) (g0:Nat) (hs:a.eval s= .slice (some ⟨g0,0,none⟩) 0 0) (hB:BlockIs w g0 5 #[])
 (A:Option Addr) (zs:List Int) (m c:Nat) (hx:a.eval x= .slice A m c) (hm:zs.length=m) (h0:0 < m) (hz:BytesAt w A zs) (hb:m≤140737488355328)
 (h: ∀g cap w',w'.ownsRow 0 5 1 (.slice (some ⟨g,0,none⟩) m cap) m (u8s zs)→g0≤g→m≤cap→cap≤maxLen→w.grownBy w' (some g0)→wpList Tryz.prog ops Q rest (a.put o.dst (.slice (some ⟨g,0,none⟩) m cap)) w'):wpList Tryz.prog ops Q (o::rest) a w:=by
 have hown:w.ownsRow g0 5 1 (.slice (some ⟨g0,0,none⟩) 0 0) 0 (u8s []):=⟨rfl,.inr ⟨g0,0,#[],rfl,Nat.le_refl _,hB,Nat.le_refl _,Nat.zero_le _,rfl,rfl⟩⟩
 obtain⟨i0,hi,hz0,hz1,hz2⟩:=info_parts infoByte
 subst hm
 have hne:zs≠ []:=by rintro rfl;exact absurd h0 (by decide)
 obtain⟨b,off,e,hc⟩:=hz.2 hne
 subst e
 have hsrc: ∀j u,(u8s zs)[j]? =some u→w.cell? ((⟨b,off,none⟩:Addr).add j)=some u:=fun j u hj=>by
  simp only [u8s,List.getElem?_map]at hj
  cases hq:zs[j]? with
  | none=>simp [hq]at hj
  | some z=>
    obtain rfl:Value.int .u8 z=u:=by simpa [hq] using hj
    have h1:=hc j (List.getElem?_eq_some_iff.1 hq).1
    rw [List.getD_eq_getElem?_getD,hq]at h1
    have hadd:(⟨b,off,none⟩:Addr).add j=⟨b,off+j,none⟩:=by unfold Addr.add;split<;>simp_all
    rw [hadd];exact h1
 refine wpList_append_own_at (w:=w) hgd s x 28 ho g0 5 i0 (.int .u8 0) 1 1 Tryz.underlying28 hi hz0 hz1 hz2 rfl (by decide) _ 0 (u8s []) hs hown ⟨b,off,none⟩ zs.length c (u8s zs) hx (by rw [u8s_len,Nat.mul_one]) hsrc (u8s_one zs) (by unfold maxLen;omega) (by omega) (Nat.le_of_lt hB.lt) ?_
 intro v' w' h1 h2 _ _
 have h1':w'.ownsRow g0 5 1 v' zs.length (u8s zs):=own_same h1 (by omega) rfl
 obtain⟨g,cap,e,hg,_,hc,hc2⟩:=own_form h1' h0
 subst e
 exact h g cap w' ⟨h1'.1,h1'.2.imp id fun⟨g,cap,cur,e1,e2,e3⟩=>⟨g,cap,cur,e1,Nat.zero_le _,e3⟩⟩ hg hc hc2 h2
open Go.RowKit
structure RefC (w:World) (T:Nat→Prop) (h:Nat) (bv:Value) (bs:List Int) (sp:Bool):Prop where
 foot: ∀k,T k→k < w.heap.size
 self:T h
 blk:BlockIs w h 124 #[bv,.bool sp]
 own:w.ownsRow 0 5 1 bv bs.length (u8s bs)
 off:bv.ownBlock≠some h
 mem: ∀b,bv.ownBlock=some b→T b
 bd: ∀z∈bs,0≤z∧z < 256
section
variable {w w' w2 : World} {T : Nat → Prop} {h : Nat} {bv v' : Value} {bs ys : List Int} {sp : Bool}
theorem RefC.lt (k:RefC w T h bv bs sp):h < w.heap.size:=k.foot h k.self
theorem RefC.kept {row:Option Nat} (k:RefC w T h bv bs sp) (hg:w.grownBy w' row) (hr: ∀b,row=some b→ ¬T b):RefC w' T h bv bs sp:=by
 refine⟨fun j hj=>Nat.lt_of_lt_of_le (k.foot j hj) hg.size,k.self,k.blk.kept hg (fun e=>hr h e.symm k.self),k.own.kept hg ?_,k.off,k.mem,k.bd⟩
 cases hb:bv.ownBlock with
 | none=>exact .inl rfl
 | some b=>exact .inr (fun e=>hr b e.symm (k.mem b hb))
theorem RefC.mono (k:RefC w T h bv bs sp) {T':Nat→Prop} (hT: ∀j,T j→T' j) (hf: ∀j,T' j→j < w.heap.size):RefC w T' h bv bs sp:=⟨hf,hT h k.self,k.blk,k.own,k.off,fun b hb=>hT b (k.mem b hb),k.bd⟩
theorem RefC.app {w1:World} (k:RefC w T h bv bs sp) (hb:Below w.heap.size w w1) (hy: ∀z∈ys,0≤z∧z < 256) {n:Nat} (hn:n=bs.length+ys.length) {xs:List Value} (hx:xs=u8s (bs++ys)) (ho:w2.ownsRow 0 5 1 v' n xs) (hg:w1.grownBy w2 bv.ownBlock) (hl:v'.ownBlock=bv.ownBlock∨ ∃b,v'.ownBlock=some b∧w1.heap.size≤b):
 RefC (w2.setCell ⟨h,0,none⟩ v') (grow T w (w2.setCell ⟨h,0,none⟩ v')) h v' (bs++ys) sp∧Chg T w (w2.setCell ⟨h,0,none⟩ v'):=by
 subst hn hx
 have hsz1:=hb.size
 have hsz2:=hg.size
 have hset:=grown_at (World.grownBy.refl w2 (some h)) 0 v'
 have hoff:v'.ownBlock≠some h:=by
  rcases hl with e | ⟨b,e,hb'⟩
  · rw [e];exact k.off
  · rw [e];intro e';injection e' with e';have:=k.lt;omega
 have hblk:BlockIs w2 h 124 #[bv,.bool sp]:=(k.blk.below hb k.lt).kept hg (fun e=>k.off e.symm)
 have hsz3:(w2.setCell ⟨h,0,none⟩ v').heap.size=w2.heap.size:=by simp [World.setCell]
 have ho2:=ho.kept hset (show v'.ownBlock=none∨v'.ownBlock≠some h from .inr hoff)
 have hm: ∀b,v'.ownBlock=some b→grow T w (w2.setCell ⟨h,0,none⟩ v') b:=by
  intro b hb'
  have h1:=(ho2.lt b hb').2
  rcases hl with e | ⟨b2,e,h3⟩
  · exact .inl (k.mem b (e ▸ hb'))
  · rw [hb']at e;injection e with e
    exact .inr ⟨by omega,h1⟩
 refine⟨⟨?_,.inl k.self,hblk.set1 0 v',own_same ho2 (by rw [List.length_append]) rfl,hoff,hm,?_⟩,?_⟩
 · rintro j (hj | hj)
   · have:=k.foot j hj;omega
   · exact hj.2
 · intro z hz
   rcases List.mem_append.1 hz with hz | hz
   · exact k.bd z hz
   · exact hy z hz
 · refine⟨hg.os.trans hb.os,hg.tape.trans hb.tape,hg.output.trans hb.output,by omega,fun j hj hT=> ?_⟩
   refine(Below.heap_setCell w2 ⟨h,0,none⟩ v' j (fun e=>hT (e ▸ k.self))).trans ((hg.block j (by omega) (fun e=>hT (k.mem j e.symm))).trans (hb.block j hj))
theorem RefC.spoil (k:RefC w T h bv bs sp):RefC (w.setCell ⟨h,1,none⟩ (.bool true)) (grow T w (w.setCell ⟨h,1,none⟩ (.bool true))) h bv bs true∧Chg T w (w.setCell ⟨h,1,none⟩ (.bool true)):=by
 have hset:=grown_at (World.grownBy.refl w (some h)) 1 (.bool true)
 have hsz3:(w.setCell ⟨h,1,none⟩ (.bool true)).heap.size=w.heap.size:=by simp [World.setCell]
 refine⟨⟨?_,.inl k.self,k.blk.set1 1 _,k.own.kept hset (.inr k.off),k.off,fun b hb=> .inl (k.mem b hb),k.bd⟩,Chg.of_grown hset (fun b e=>by cases e;exact k.self)⟩
 rintro j (hj | hj)
 · have:=k.foot j hj;omega
 · exact hj.2
theorem RefC.grow_same (k:RefC w T h bv bs sp):RefC w (grow T w w) h bv bs sp:=k.mono (fun j hj=> .inl hj) (by
 rintro j (hj | hj)
 · exact k.foot j hj
 · exact hj.2)
end
def RefAt (w:World) (T:Nat→Prop) (h:Nat) (s:Option (List Int)) (m:Nat):Prop:= ∃bv bs sp,RefC w T h bv bs sp∧bs.length≤m∧s=if sp then none else some bs
theorem RefAt.kept {w w':World} {T:Nat→Prop} {h m:Nat} {s:Option (List Int)} {row:Option Nat} (k:RefAt w T h s m) (hg:w.grownBy w' row) (hr: ∀b,row=some b→ ¬T b):RefAt w' T h s m:=by
 obtain⟨bv,bs,sp,k,hm,hs⟩:=k;exact⟨bv,bs,sp,k.kept hg hr,hm,hs⟩
theorem RefAt.below {w w':World} {T:Nat→Prop} {h m:Nat} {s:Option (List Int)} (k:RefAt w T h s m) (hb:Below w.heap.size w w'):RefAt w' T h s m:=k.kept (grown_below hb none) (fun b e=>by cases e)
theorem RefAt.foot {w:World} {T:Nat→Prop} {h m:Nat} {s:Option (List Int)} (k:RefAt w T h s m): ∀j,T j→j < w.heap.size:=by
 obtain⟨bv,bs,sp,k,hm,hs⟩:=k;exact k.foot
theorem RefAt.self {w:World} {T:Nat→Prop} {h m:Nat} {s:Option (List Int)} (k:RefAt w T h s m):T h:=by
 obtain⟨bv,bs,sp,k,hm,hs⟩:=k;exact k.self
theorem RefAt.lt {w:World} {T:Nat→Prop} {h m:Nat} {s:Option (List Int)} (k:RefAt w T h s m):h < w.heap.size:=k.foot h k.self
structure RPut (w:World) (T:Nat→Prop) (h:Nat) (s:Option (List Int)) (m:Nat) (w':World):Prop where
 rf:RefAt w' (grow T w w') h s m
 fr:Chg T w w'
open Go.RowKit
theorem rtop_any (n:Int) (w:World):
 Calls Tryz.prog 91 #[.int .i64 n] w fun e w'=>e= .returned (.int .i64 (top n))∧w=w':=by
 rcases top_cases n with⟨rfl,h⟩ | ⟨rfl,h⟩ | ⟨rfl,h⟩ | ⟨rfl,h⟩ | ⟨h1,h2,h4,h6,h⟩
 all_goals have H:=qh h;clear h
 · go_enter Tryz.func91,Tryz.ntmps91
   go_wp2
   go_ret
   exact⟨ret_int H.out.symm,rfl⟩
 · go_enter Tryz.func91,Tryz.ntmps91
   go_wp2
   go_ret
   exact⟨ret_int H.out.symm,rfl⟩
 · go_enter Tryz.func91,Tryz.ntmps91
   go_wp2
   go_ret
   exact⟨ret_int H.out.symm,rfl⟩
 · go_enter Tryz.func91,Tryz.ntmps91
   go_wp2
   go_ret
   exact⟨ret_int H.out.symm,rfl⟩
 · go_enter Tryz.func91,Tryz.ntmps91
   go_wp2
   go_ret
   exact⟨ret_int H.out.symm,rfl⟩
theorem ret_none {P:Program} {fn:Func} {R:Ending→World→Prop} {a:Act} {w:World} (h:fn.results= #[]) (hd:a.defers= []) (hR:R (.returned (.tuple #[])) w):bodyPost P fn R .ret a w:=
 bodyPost_ret (results_none h _ _ _) hd hR
theorem ref_cells {w:World} {h:Nat} {bv:Value} {sp:Bool} (k:BlockIs w h 124 #[bv,.bool sp]):w.cell? ⟨h,0,none⟩=some bv∧w.cell? ⟨h,1,none⟩=some (.bool sp)∧w.frozen? ⟨h,0,none⟩=false∧w.frozen? ⟨h,1,none⟩=false:=⟨k.cell 0,k.cell 1,k.free 0,k.free 1⟩
theorem top_small (n:Int):top n≤1099511627776:=by rcases top_cases n with⟨_,h⟩ | ⟨_,h⟩ | ⟨_,h⟩ | ⟨_,h⟩ | ⟨_,_,_,_,h⟩<;>omega
theorem top_width {n:Int} (h:0≤top n):1≤n∧n≤6:=by rcases top_cases n with⟨_,h⟩ | ⟨_,h⟩ | ⟨_,h⟩ | ⟨_,h⟩ | ⟨_,_,_,_,h⟩<;>omega
theorem refField_any (w:World) (T:Nat→Prop) (h:Nat) (s:Option (List Int)) (m:Nat) (k:RefAt w T h s m) (wd n:Int) (hm:m≤1000000000) (hn: -9223372036854775808≤n∧n≤9223372036854775807):
 Calls Tryz.prog 67 #[.pointer (some ⟨h,0,none⟩),.int .i64 wd,.int .i64 n] w fun e w'=>e= .returned (.tuple #[])∧RPut w T h (putO s (fieldsB wd [n])) (m+6) w':=by
 obtain⟨bv,bs,sp,k,hbm,hs⟩:=k
 obtain⟨c0,c1,f0,f1⟩:=ref_cells k.blk
 have hts:=top_small wd
 by_cases hin:0≤n∧n≤top wd
 · obtain⟨h0,h1⟩:=hin
   have htw:=top_width (n:=wd) (by omega)
   obtain⟨kw,hkw⟩:=Int.eq_ofNat_of_zero_le (show 0≤wd by omega)
   have hfb:fieldsB wd [n]=some (le kw n):=by rw [fieldsB_one wd n (by omega) h0 h1,hkw];rfl
   have htop:n≤top wd:=h1
   obtain⟨tp,htp⟩: ∃tp,top wd=tp:=⟨_,rfl⟩
   have Htop:=qh htp
   have HT:=qh (rtop_any wd w)
   have Hfb:=qh hfb
   rw [htp]at HT hts h1 htop
   rw [hkw]at HT
   have Hkw:=qh hkw
   have hkw6:kw≤6:=by omega
   have HK:=qh k
   obtain⟨w0,hw0⟩: ∃w0,w=w0:=⟨_,rfl⟩
   have Hs:=qh hs
   obtain⟨i0,hi,hz0,hz1,hz2⟩:=info_parts infoByte
   rw [hkw]
   clear htp hfb htw k c1 f1 hs hw0 hkw
   go_enter Tryz.func67,Tryz.ntmps67
   go_wp2_with fail
   refine HT.out.mono ?_
   rintro e w' ⟨rfl,rfl⟩
   go_wp2_with fail
   go_loopg [2,6] kw (fun g x i wx=> ∃(j:Nat) (y:Int) (pre:List Int) (v:Value),g=kw - j∧j≤kw∧i= .int .i64 (j:Int)∧x= .int .i64 y∧0≤y∧y≤1099511627776∧Hid (pre++le (kw - j) y=le kw n)∧Hid (pre.length=j)∧Hid (RefC wx (grow T w wx) h v (bs++pre) sp)∧Hid (Chg T w wx))
   case atStart=>exact⟨0,n,[],bv,rfl,by omega,rfl,rfl,h0,by omega,qh rfl,qh rfl,qh (by rw [List.append_nil];exact HK.out.grow_same),qh (Chg.refl _ _)⟩
   case round=>
    clear c0 f0
    obtain⟨j,y,pre,v,hgj,hj,rfl,rfl,y0,y1,hpre,hpl,hk,hch⟩:=hrel
    have Hgj:=qh hgj;clear hgj
    obtain⟨c0,c1,f0,f1⟩:=ref_cells hk.out.blk
    by_cases hlt:j < kw
    · obtain⟨X,cap,rfl,_,hcm⟩:=own_slice hk.out.own
      unfold maxLen at hcm
      have hbl:(bs++pre).length=bs.length+j:=by rw [List.length_append,hpl.out]
      obtain⟨r,hr⟩: ∃r,kw - j=r+1:=⟨kw - j - 1,by omega⟩
      have hle:le (kw - j) y=y % 256::le r (y / 256):=by rw [hr];rfl
      have hk2:RefC wr (grow T w wr) h (.slice X (bs.length+j) cap) (bs++pre) sp:=by have:=hk.out;rwa [hbl]at this
      have hwr:=own_same (m:=bs.length+j) hk2.own hbl rfl
      have Hle:=qh (And.intro hle (And.intro hr (And.intro hwr hk2)))
      clear hle hr hwr hk2
      rw [hbl]at c0
      have Hbl:=qh hbl
      clear hbl
      have hy8:0≤y % 256∧y % 256 < 256:=by omega
      go_wp2_with (at_builtin;go_loud (refine wpList_append_own_at _ rfl _ _ 28 rfl 0 5 i0 (.int .u8 0) 1 1 Tryz.underlying28 hi hz0 hz1 hz2 rfl (by decide) _ _ _ rfl (Hle.out.2.2.1.alloc _) ⟨wr.heap.size,0,none⟩ 1 1 [.int .u8 (y % 256)] rfl rfl (cell_one_new _ _ _) ?c3 ?c4 ?c5 ?c6 ?_))
      case c3=>intro u hu;rw [List.mem_singleton.1 hu];rfl
      case c4=>unfold maxLen;omega
      case c5=>omega
      case c6=>exact Nat.zero_le _
      intro v2 w2 hown2 hgrow2 _ hlies
      obtain⟨hC,hX⟩:=Hle.out.2.2.2.app (ys:= [y % 256]) (below_new wr (.cells #[.int .u8 (y % 256)] 5)) (by simpa using hy8) (by rw [Hbl.out];rfl) (by rw [u8s_snoc]) hown2 hgrow2 (by
       rcases hlies with e | e
       · exact .inl e
       · exact .inr ⟨_,e,by simp⟩)
      have hblk2:BlockIs w2 h 124 #[.slice X (bs.length+j) cap,.bool sp]:=(Hle.out.2.2.2.blk.below (below_new wr (.cells #[.int .u8 (y % 256)] 5)) Hle.out.2.2.2.lt).kept hgrow2 (fun e=>Hle.out.2.2.2.off e.symm)
      obtain⟨d0,d1,e0,e1⟩:=ref_cells hblk2
      obtain⟨Y,yc,rfl,_,_⟩:=own_slice hown2
      have HS:=qh (And.intro hC hX)
      clear hC hX hblk2 hown2 hgrow2 hlies c0 c1 f0 f1
      go_wp2_with fail
      go_roundg (kw - (j+1))
      case measure=>rw [Hgj.out];omega
      case rel=>
       refine⟨j+1,y / 256,pre++ [y % 256],.slice Y (bs.length+j+1) yc,rfl,by omega,by go_num,rfl,by omega,by omega,qh ?_,qh ?_,qh ?_,qh ?_⟩
       · rw [List.append_assoc, ← hpre.out,Hle.out.1,show kw - (j+1)=r by have:=Hle.out.2.1;omega];rfl
       · rw [List.length_append,hpl.out];rfl
       · rw [← List.append_assoc];exact HS.out.1.mono (grow_trans hch.out.size HS.out.2.size) (by
          rintro q (hq | hq)
          · have:=HK.out.foot q hq;have:=hch.out.size;have:=HS.out.2.size;omega
          · exact hq.2)
       · exact hch.out.trans HS.out.2
    · obtain rfl:kw=j:=by omega
      clear c1 f1
      go_wp2_with fail
      go_end0
      refine⟨rfl,⟨v,bs++pre,sp,hk.out,by rw [List.length_append,hpl.out];omega,?_⟩,hch.out⟩
      have hp:=hpre.out
      rw [Nat.sub_self]at hp
      have hp2:pre=le kw n:=by simpa [le] using hp
      rw [← Hkw.out,Hfb.out,Hs.out,hp2]
      cases sp<;>rfl
 · have hbad:fieldsB wd [n]=none:=by
    by_cases ht:top wd < 0
    · exact fieldsB_bad _ _ ht
    · exact fieldsB_out wd [n] n List.mem_cons_self (by omega)
   have Hbad:=qh (show putO s (fieldsB wd [n])=none by rw [hbad,putO_none])
   have HT:=qh (rtop_any wd w)
   have HS:=qh (And.intro k.spoil hbm)
   clear hbad k hs c0 f0
   by_cases h0:n < 0
   · clear hin
     go_enter Tryz.func67,Tryz.ntmps67
     go_wp2_with fail
     refine ret_none rfl rfl ?_
     exact⟨rfl,⟨bv,bs,true,HS.out.1.1,by have:=HS.out.2;omega,by rw [Hbad.out];rfl⟩,HS.out.1.2⟩
   · have hgt:n > top wd:=by omega
     have hn0:decide (n < 0)=false:=decide_eq_false h0
     clear hin
     go_enter Tryz.func67,Tryz.ntmps67
     go_wp2_with fail
     refine HT.out.mono ?_
     rintro e w' ⟨rfl,rfl⟩
     go_wp2_with fail
     refine ret_none rfl rfl ?_
     exact⟨rfl,⟨bv,bs,true,HS.out.1.1,by have:=HS.out.2;omega,by rw [Hbad.out];rfl⟩,HS.out.1.2⟩
open Go.RowKit
def RrSt :RSt→Nat→Int→Int→Nat→Prop
 | .ok j,k,e,b,n=>k=j∧e=0∧b=0∧j≤n
 | .bad p l,k,e,b,n=>e=errCode l∧b=p∧k≤n
structure RrIs (lo:Nat) (w:World) (g:Nat) (bs:List Int) (s:RSt) (x:Option Addr) (cap k:Nat) (e b:Int):Prop where
 blk:BlockIs w g 96 #[.slice x bs.length cap,.int .i64 (k:Int),.int .i64 e,.int .i64 b]
 bytes:BytesAt w x bs
 fit:bs.length≤cap∧cap≤9223372036854775807
 off:bs≠ []→ ∀a,x=some a→a.block < lo
 low:lo≤g
 nil:x=none→cap=0
 st:RrSt s k e b bs.length
def RrAt (lo:Nat) (w:World) (g:Nat) (bs:List Int) (s:RSt):Prop:= ∃x cap k e b,RrIs lo w g bs s x cap k e b
section
variable {w w' : World} {g cap k : Nat} {bs : List Int} {s : RSt} {x : Option Addr} {e b : Int}
theorem RrIs.cells {lo:Nat} (h:RrIs lo w g bs s x cap k e b):w.cell? ⟨g,0,none⟩=some (.slice x bs.length cap)∧w.cell? ⟨g,1,none⟩=some (.int .i64 (k:Int))∧w.cell? ⟨g,2,none⟩=some (.int .i64 e)∧w.cell? ⟨g,3,none⟩=some (.int .i64 b):=⟨h.blk.cell 0,h.blk.cell 1,h.blk.cell 2,h.blk.cell 3⟩
theorem RrIs.free {lo:Nat} (h:RrIs lo w g bs s x cap k e b) (i:Nat):w.frozen? ⟨g,i,none⟩=false:=h.blk.free i
theorem RrIs.below {lo:Nat} (h:RrIs lo w g bs s x cap k e b) (hb:Below w.heap.size w w'):RrIs lo w' g bs s x cap k e b:=⟨h.blk.below hb h.blk.lt,h.bytes.below hb,h.fit,h.off,h.low,h.nil,h.st⟩
theorem RrIs.kept {lo:Nat} (h:RrIs lo w g bs s x cap k e b) {row:Option Nat} (hg:w.grownBy w' row) (hr: ∀b,row=some b→lo≤b∧b≠g):RrIs lo w' g bs s x cap k e b:=
 ⟨h.blk.kept hg (fun e=>(hr g e.symm).2 rfl),⟨h.bytes.1,fun hne=>by
  obtain⟨b0,off,rfl,hc⟩:=h.bytes.2 hne
  exact⟨b0,off,rfl,fun i hi=>hg.cell (hc i hi) (fun e=>by have:=hr _ e.symm;have:=h.off hne _ rfl;simp only at *;omega)⟩⟩,h.fit,h.off,h.low,h.nil,h.st⟩
theorem RrIs.turn {lo:Nat} (h:RrIs lo w g bs s x cap k e b) {s':RSt} {k':Nat} {e' b':Int} (hg:w.grownBy w' (some g)) (hb:BlockIs w' g 96 #[.slice x bs.length cap,.int .i64 (k':Int),.int .i64 e',.int .i64 b']) (hs:RrSt s' k' e' b' bs.length):RrIs lo w' g bs s' x cap k' e' b':=
 ⟨hb,⟨h.bytes.1,fun hne=>by
  obtain⟨b0,off,rfl,hc⟩:=h.bytes.2 hne
  exact⟨b0,off,rfl,fun i hi=>hg.cell (hc i hi) (fun e=>Nat.ne_of_lt (Nat.lt_of_lt_of_le (h.off hne _ rfl) h.low) (Option.some.inj e))⟩⟩,h.fit,h.off,h.low,h.nil,hs⟩
end
theorem RrAt.below {lo:Nat} {w w':World} {g:Nat} {bs:List Int} {s:RSt} (h:RrAt lo w g bs s) (hb:Below w.heap.size w w'):RrAt lo w' g bs s:=by
 obtain⟨x,cap,k,e,b,h⟩:=h;exact⟨x,cap,k,e,b,h.below hb⟩
theorem RrAt.kept {lo:Nat} {w w':World} {g:Nat} {bs:List Int} {s:RSt} {row:Option Nat} (h:RrAt lo w g bs s) (hg:w.grownBy w' row) (hr: ∀b,row=some b→lo≤b∧b≠g):RrAt lo w' g bs s:=by
 obtain⟨x,cap,k,e,b,h⟩:=h;exact⟨x,cap,k,e,b,h.kept hg hr⟩
theorem RrAt.low {lo:Nat} {w:World} {g:Nat} {bs:List Int} {s:RSt} (h:RrAt lo w g bs s):lo≤g:=by
 obtain⟨x,cap,k,e,b,h⟩:=h;exact h.low
theorem RrAt.lt {lo:Nat} {w:World} {g:Nat} {bs:List Int} {s:RSt} (h:RrAt lo w g bs s):g < w.heap.size:=by
 obtain⟨x,cap,k,e,b,h⟩:=h;exact h.blk.lt
structure RGot (lo:Nat) (w:World) (g:Nat) (bs:List Int) (s:RSt) (w':World):Prop where
 rd:RrAt lo w' g bs s
 fr:w.grownBy w' (some g)
theorem RGot.same {lo:Nat} {w:World} {g:Nat} {bs:List Int} {s:RSt} (h:RrAt lo w g bs s):RGot lo w g bs s w:=⟨h,World.grownBy.refl _ _⟩
theorem RGot.pre {lo:Nat} {w w1 w2:World} {g:Nat} {bs:List Int} {s:RSt} (hb:Below w.heap.size w w1) (h:RGot lo w1 g bs s w2):RGot lo w g bs s w2:=⟨h.rd,(grown_below hb _).trans h.fr⟩
theorem RrAt.drewN {lo:Nat} {w:World} {g:Nat} {bs:List Int} {s:RSt} (h:RrAt lo w g bs s) (n:Nat):RrAt lo (w.drewN n) g bs s:=h.below (drewN_below (Below.refl _ _) n)
theorem rtop_q (n:Int) (w:World):Calls Tryz.prog 91 #[.int .i64 n] w fun e w'=>e= .returned (.int .i64 (top n))∧w'=w:=(rtop_any n w).mono fun _ _ h=>⟨h.1,h.2.symm⟩
theorem rrfail_any {lo:Nat} (w:World) (g:Nat) (bs:List Int) (j p:Nat) (l:Bool) (h:RrAt lo w g bs (.ok j)):
 Calls Tryz.prog 92 #[.pointer (some ⟨g,0,none⟩),.int .i64 (p:Int),.int .i64 (errCode l)] w fun e w'=>e= .returned (.tuple #[])∧RGot lo w g bs (.bad p l) w':=by
 obtain⟨x,cap,k,e,b,h⟩:=h
 obtain⟨rfl,rfl,rfl,hj⟩:=h.st
 obtain⟨c0,c1,c2,c3⟩:=h.cells
 have f2:=h.free 2
 have f3:=h.free 3
 have hg:=grown_at (grown_at (World.grownBy.refl w (some g)) 2 (.int .i64 (errCode l))) 3 (.int .i64 (p:Int))
 have hb:=(h.blk.set1 2 (.int .i64 (errCode l))).set1 3 (.int .i64 (p:Int))
 have HS:=qh (show RGot lo w g bs (.bad p l) _ from⟨⟨x,cap,k,errCode l,(p:Int),h.turn hg hb ⟨rfl,rfl,hj⟩⟩,hg⟩)
 clear h hg hb
 go_enter Tryz.func92,Tryz.ntmps92
 go_wp2_with fail
 go_end0
 exact⟨rfl,HS.out⟩
theorem unle_drop (zs:List Int) (hz: ∀z∈zs,0≤z∧z < 256) (j:Nat):unle (zs.drop j)≤unle zs:=by
 induction zs generalizing j with
 | nil=>simp
 | cons z zs ih=>
   cases j with
   | zero=>exact Int.le_refl _
   | succ j=>
     have h1:=ih (fun y hy=>hz y (List.mem_cons_of_mem _ hy)) j
     have h2:=hz z List.mem_cons_self
     have h3:=unle_bd zs (fun y hy=>hz y (List.mem_cons_of_mem _ hy))
     simp only [List.drop_succ_cons,unle];omega
theorem unle_step (zs:List Int) (j:Nat) (hj:j < zs.length):unle (zs.drop j)=zs.getD j 0+256 * unle (zs.drop (j+1)):=by
 rw [List.drop_eq_getElem_cons hj,List.getD_eq_getElem?_getD,List.getElem?_eq_getElem hj];rfl
theorem here_getD (bs:List Int) (k w j:Nat) (hj:j < w):((bs.drop k).take w).getD j 0=bs.getD (k+j) 0:=by
 rw [List.getD_eq_getElem?_getD,List.getElem?_take_of_lt hj,List.getElem?_drop, ← List.getD_eq_getElem?_getD]
theorem rrField_bad {lo:Nat} (w:World) (g:Nat) (bs:List Int) (p:Nat) (l:Bool) (wd:Int) (h:RrAt lo w g bs (.bad p l)):
 Calls Tryz.prog 46 #[.pointer (some ⟨g,0,none⟩),.int .i64 wd] w fun e w'=>e= .returned (.int .i64 0)∧w=w':=by
 obtain⟨x,cap,k,e,b,h⟩:=h
 obtain⟨rfl,rfl,hk⟩:=h.st
 obtain⟨c0,c1,c2,c3⟩:=h.cells
 have hne:(errCode l != 0)=true:=by cases l<;>rfl
 clear h
 go_enter Tryz.func46,Tryz.ntmps46
 go_wp2_with fail
 go_ret
 exact⟨rfl,rfl⟩
theorem rrField_any {lo:Nat} (w:World) (g:Nat) (bs:List Int) (s:RSt) (wd:Int) (h:RrAt lo w g bs s) (hl:bs.length≤140737488351232) (hw: -9223372036854775808≤wd):
 Calls Tryz.prog 46 #[.pointer (some ⟨g,0,none⟩),.int .i64 wd] w fun e w'=>e= .returned (.int .i64 (fieldR bs wd s).1)∧RGot lo w g bs (fieldR bs wd s).2 w':=by
 cases s with
 | bad p l=>exact(rrField_bad w g bs p l wd h).mono fun e w' ⟨he,hw⟩=>⟨he,by subst hw;exact RGot.same h⟩
 | ok j=>
   have HF:=qh (fun n=>rrfail_any (w.drewN n) g bs j j false (h.drewN n))
   have Hh:=qh h
   obtain⟨x,cap,k,e,b,h⟩:=h
   obtain⟨rfl,rfl,rfl,hj⟩:=h.st
   obtain⟨c0,c1,c2,c3⟩:=h.cells
   have HI:=qh h
   have HT:=qh (rtop_any wd w)
   have hcap:=h.fit
   clear h
   by_cases ht:top wd < 0
   · have HR:=qh (show fieldR bs wd (.ok k)=(0,.bad k false) by simp only [fieldR];rw [if_pos (.inl ht)])
     unfold errCode at HF
     go_enter Tryz.func46,Tryz.ntmps46
     go_wp2_with fail
     go_quiet ((go_at_call 91;exact Calls.quiet_of_same (rtop_q _ _)))
     go_wp2_with fail
     refine(HF.out _).mono ?_
     rintro e w' ⟨rfl,hG⟩
     go_wp2_with fail
     go_ret
     rw [HR.out];exact⟨rfl,RGot.pre (drewN_below (Below.refl _ _) _) hG⟩
   · have htw:=top_width (n:=wd) (by omega)
     have hnt:decide (top wd < 0)=false:=decide_eq_false ht
     by_cases hf:wd > (bs.length:Int) - (k:Int)
     · have HR:=qh (show fieldR bs wd (.ok k)=(0,.bad k false) by simp only [fieldR];rw [if_pos (.inr hf)])
       unfold errCode at HF
       go_enter Tryz.func46,Tryz.ntmps46
       go_wp2_with fail
       go_quiet ((go_at_call 91;exact Calls.quiet_of_same (rtop_q _ _)))
       go_wp2_with fail
       refine(HF.out _).mono ?_
       rintro e w' ⟨rfl,hG⟩
       go_wp2_with fail
       go_ret
       rw [HR.out];exact⟨rfl,RGot.pre (drewN_below (Below.refl _ _) _) hG⟩
     · obtain⟨wn,rfl⟩:=Int.eq_ofNat_of_zero_le (show 0≤wd by omega)
       have hwn:k+wn≤bs.length:=by omega
       have hw6:1≤wn∧wn≤6:=by omega
       obtain⟨zs,hzs⟩: ∃zs,(bs.drop k).take wn=zs:=⟨_,rfl⟩
       have hzl:zs.length=wn:=by rw [← hzs,List.length_take,List.length_drop];omega
       have hzb: ∀z∈zs,0≤z∧z < 256:=fun z hz=>HI.out.bytes.1 z (by rw [← hzs]at hz;exact List.mem_of_mem_drop (List.mem_of_mem_take hz))
       have hgd: ∀i,i < wn→zs.getD i 0=bs.getD (k+i) 0:=fun i hi=>by rw [← hzs];exact here_getD bs k wn i hi
       obtain⟨b0,off,rfl⟩:=HI.out.bytes.some_ (by intro e;simp [e]at hwn;omega)
       have hub:=unle_bd zs hzb
       have hts:=top_small (wn:Int)
       have HR1:=qh (fun(hgt:unle zs > top (wn:Int))=>show fieldR bs (wn:Int) (.ok k)=(0,.bad k false) by
        simp only [fieldR];rw [if_neg (by omega),show((wn:Int)).toNat=wn by omega,hzs,if_pos hgt])
       have HR2:=qh (fun(hle: ¬unle zs > top (wn:Int))=>show fieldR bs (wn:Int) (.ok k)=(unle zs,.ok (k+wn)) by
        simp only [fieldR];rw [if_neg (by omega),show((wn:Int)).toNat=wn by omega,hzs,if_neg hle])
       have HZ:=qh (And.intro hzl (And.intro hzb hgd))
       have Hf:=qh hf
       unfold errCode at HF
       have hf2:decide ((bs.length:Int) - (k:Int) < (wn:Int))=false:=decide_eq_false (by omega)
       have hl2:bs.length≤140737488351232:=hl
       clear hzs hzl hzb hgd hub hf
       go_enter Tryz.func46,Tryz.ntmps46
       go_wp2_with fail
       go_quiet ((go_at_call 91;exact Calls.quiet_of_same (rtop_q _ _)))
       go_wp2_with fail
       go_loopg [5,6] (wn+1) (fun gk n i wx=> ∃(j:Nat) (y:Int),gk=j+1∧j≤wn∧(∃z:Int,i= .int .i64 z∧z=(j:Int) - 1)∧n= .int .i64 y∧0≤y∧y≤300000000000000∧Hid (y=unle (zs.drop j))∧ ∃nq,wx=w.drewN nq)
       case atStart=>exact⟨wn,0,rfl,Nat.le_refl _,⟨_,rfl,rfl⟩,rfl,by omega,by omega,qh (by rw [List.drop_eq_nil_of_le (by rw [HZ.out.1];omega)];rfl),_,rfl⟩
       case round=>
        obtain⟨j,y,hgj,hj,⟨z,rfl,hz⟩,rfl,hy0,hy1,hy,nq,rfl⟩:=hrel
        have Hgj:=qh hgj;clear hgj
        have Hz:=qh hz
        have HT:=qh (rtop_any (wn:Int) (w.drewN nq))
        by_cases hj0:j=0
        · have hz0:z < 0:=by omega
          have hy':=hy.out
          rw [hj0,List.drop_zero]at hy'
          clear hz hj0
          by_cases hgt:y > top (wn:Int)
          · have Hgt:=qh (show unle zs > top (wn:Int) by rw [← hy'];exact hgt)
            clear hy'
            go_wp2_with fail
            refine HT.out.mono ?_
            rintro e w' ⟨rfl,rfl⟩
            go_wp2_with fail
            refine(HF.out _).mono ?_
            rintro e w' ⟨rfl,hG⟩
            go_wp2_with fail
            go_ret
            rw [HR1.out Hgt.out];exact⟨rfl,RGot.pre (drewN_below (Below.refl _ _) _) hG⟩
          · have Hy:=qh hy'
            have hle:decide (top (wn:Int) < y)=false:=decide_eq_false hgt
            clear hy'
            have hb:=HI.out.blk.below (drewN_below (Below.refl _ _) nq) HI.out.blk.lt
            have hg:=grown_at (grown_below (drewN_below (Below.refl w.heap.size w) nq) (some g)) 1 (.int .i64 ((k:Int)+(wn:Int)))
            have HS:=qh (show RGot lo w g bs (.ok (k+wn)) _ from⟨⟨_,cap,k+wn,0,0,HI.out.turn hg (by
             have:=hb.set1 1 (.int .i64 ((k:Int)+(wn:Int)))
             rw [show ((k+wn:Nat):Int)=(k:Int)+(wn:Int) by omega];exact this) ⟨rfl,rfl,rfl,hwn⟩⟩,hg⟩)
            have f1:=HI.out.free 1
            clear hb hg
            go_wp2_with fail
            refine HT.out.mono ?_
            rintro e w' ⟨rfl,rfl⟩
            go_wp2_with fail
            go_ret
            rw [HR2.out (by rw [← Hy.out];exact hgt),Hy.out];exact⟨rfl,HS.out⟩
        · obtain⟨i,rfl⟩: ∃i,j=i+1:=⟨j - 1,by omega⟩
          obtain rfl:z=(i:Int):=by omega
          clear hz Hz hj0
          by_cases hbig:y > 1099511627776
          · have Hgt:=qh (show unle zs > top (wn:Int) by
             have h1:=unle_drop zs HZ.out.2.1 (i+1)
             rw [← hy.out]at h1;omega)
            have hgt:y > top (wn:Int):=by omega
            go_wp2_with fail
            refine HT.out.mono ?_
            rintro e w' ⟨rfl,rfl⟩
            go_wp2_with fail
            refine(HF.out _).mono ?_
            rintro e w' ⟨rfl,hG⟩
            go_wp2_with fail
            go_ret
            rw [HR1.out Hgt.out];exact⟨rfl,RGot.pre (drewN_below (Below.refl _ _) _) hG⟩
          · have hst:=unle_step zs i (by rw [HZ.out.1];omega)
            rw [← hy.out,HZ.out.2.2 i (by omega)]at hst
            have d1:=HI.out.bytes.one (k+i) (by omega)
            have hzb:=HI.out.bytes.1 (bs.getD (k+i) 0) (by rw [List.getD_eq_getElem?_getD,List.getElem?_eq_getElem (show k+i < bs.length by omega)];exact List.getElem_mem _)
            generalize bs.getD (k+i) 0=zz at *
            have Hst:=qh hst
            have q1:IntKind.i64.wrap ((k:Int)+(i:Int))=(k:Int)+(i:Int):=IntWalk.i64_in _ (by omega)
            have q2:(0:Int)≤(k:Int)+(i:Int):=by omega
            have q3:((k:Int)+(i:Int)).toNat=k+i:=by omega
            have q4:IntKind.i64.wrap (256 * y)=256 * y:=IntWalk.i64_in _ (by omega)
            have q5:IntKind.i64.wrap (256 * y+zz)=256 * y+zz:=IntWalk.i64_in _ (by omega)
            have q6:k+i < bs.length:=by omega
            clear hst
            go_wp2_with fail
            go_quiet (fail)
            clear q1 q2 q3 q4 q5
            go_wp2_with fail
            go_roundg (i+1)
            case measure=>rw [Hgj.out];omega
            case rel=>exact⟨i,256 * y+zz,rfl,by omega,⟨_,rfl,rfl⟩,rfl,by omega,by omega,qh (by rw [Hst.out];omega),_,rfl⟩
open Go.RowKit
theorem rleft_ref {lo:Nat} (w:World) (g:Nat) (bs:List Int) (s:RSt) (h:RrAt lo w g bs s) (hl:bs.length≤140737488351232):
 Calls Tryz.prog 47 #[.pointer (some ⟨g,0,none⟩)] w fun e w'=>e= .returned (.int .i64 (leftR bs s))∧ ∃n,w'=w.drewN n:=by
 obtain⟨x,cap,k,e,b,h⟩:=h
 obtain⟨c0,c1,c2,c3⟩:=h.cells
 have hst:=h.st
 clear h
 cases s with
 | bad p l=>
   obtain⟨rfl,rfl,hk⟩:=hst
   have hne:(errCode l != 0)=true:=by cases l<;>rfl
   go_enter Tryz.func47,Tryz.ntmps47
   go_wp2_with fail
   go_ret
   exact⟨rfl,0,rfl⟩
 | ok j=>
   obtain⟨rfl,rfl,rfl,hk⟩:=hst
   go_enter Tryz.func47,Tryz.ntmps47
   go_wp2_with fail
   go_quiet (fail)
   go_wp2_with fail
   go_ret
   exact⟨rfl,_,rfl⟩
end Go.Proofs.YtpaikolnampcfaaGreatDoor
