/- A writer's fields. -/
import Derived.Test.YtpaikolnampcfaaGreatDoorCodeLay
import Derived.Test.YtpaikolnampcfaaGreatDoorKitInts
import Derived.Lib.SliceRun
import Derived.RegionTactic
import Derived.ChangeAlike
namespace Go.Proofs.YtpaikolnampcfaaGreatDoor
set_option maxRecDepth 100000
set_option maxHeartbeats 4000000
open Go.RowKit
theorem bytesIs_full {w:World} {B g n:Nat} {xs:List Int} (h:w.ownsRow B 5 1 (.slice (some ⟨g,0,none⟩) n n) n (u8s xs)):BytesIs w g xs:=by
 rcases h.2 with⟨h',_⟩ | ⟨g',cap,cur,hv,_,hg,_,_,hs,ht⟩
 · cases h'
 · obtain⟨rfl,rfl⟩:g=g'∧n=cap:=by simpa using hv
   have e:cur=(u8s xs).toArray:=by
    rw [← ht,Nat.mul_one]
    apply Array.ext'
    rw [List.take_of_length_le (by rw [Array.length_toList];omega)]
   rw [e]at hg
   exact hg
theorem zeros_made (n:Nat):(madeCells (#[.int .u8 0]:Array Value) n).toList=u8s (List.replicate n 0):=by
 unfold madeCells u8s
 rw [List.map_replicate,Array.toList_map]
 apply List.ext_getElem (by simp)
 intro i h1 h2
 simp [Nat.mod_one]
theorem below_bytes {w w1 wx:World} {g:Nat} (h1:w.grownBy w1 none) (hg:w.heap.size≤g) (h2:w1.grownBy wx (some g)):Below w.heap.size w wx:=
 ⟨h2.os.trans h1.os,h2.tape.trans h1.tape,h2.output.trans h1.output,Nat.le_trans h1.size h2.size,fun k hk=>(h2.block k (Nat.lt_of_lt_of_le hk h1.size) (by simp;omega)).trans (h1.block k hk (by simp))⟩
theorem take_flat (wd k:Nat) (ns:List Int) (n:Int) (h:ns[k]? =some n):(ns.take (k+1)).flatMap (le wd)=(ns.take k).flatMap (le wd)++le wd n:=by
 rw [List.take_add_one,h];simp
theorem zeros_split (n k:Nat) (h:k≤n):List.replicate n (0:Int)=List.replicate k 0++List.replicate (n - k) 0:=by
 rw [List.replicate_append_replicate];congr 1;omega
theorem ret_unit (fn:Func) (R:Ending→World→Prop) (P:Program) (a:Act) (w:World) (h:fn.results= #[]) (hd:a.defers= []) (hR:R (.returned (.tuple #[])) w):bodyPost P fn R .ret a w:=
 bodyPost_ret (results_none h _ _ _) hd hR
theorem field_spoilt (w:World) (S:Nat→Prop) (g:Nat) (h:WrAt w S g none) (wd v:Value):
 Calls Tryz.prog 131 #[.pointer (some ⟨g,0,none⟩),wd,v] w fun e w'=>e= .returned (.tuple #[])∧w=w':=by
 obtain⟨p,hb⟩:=h.isBlock
 go_enter Tryz.func131,Tryz.ntmps131
 go_wp2_with fail
 refine(whole_is w g p true hb).mono ?_
 rintro e w' ⟨rfl,rfl⟩
 go_wp2_with fail
 refine ret_unit _ _ _ _ _ rfl rfl ⟨rfl,rfl⟩
theorem field_no (w:World) (S:Nat→Prop) (g:Nat) (bs:List Int) (h:WrAt w S g (some bs)) (wd:Int) (v:Value) (ht:top wd < 0):
 Calls Tryz.prog 131 #[.pointer (some ⟨g,0,none⟩),.int .i64 wd,v] w fun e w'=>e= .returned (.tuple #[])∧Put w S g none w':=by
 obtain⟨p,hb⟩:=h.isBlock
 go_enter Tryz.func131,Tryz.ntmps131
 go_wp2_with fail
 refine(whole_is w g p false hb).mono ?_
 rintro e w' ⟨rfl,rfl⟩
 go_wp2_with fail
 refine(greatest_any wd w).mono ?_
 rintro e w' ⟨rfl,rfl⟩
 go_wp2_with fail
 refine(spoil_any w S g _ h).mono ?_
 rintro e w' ⟨rfl,hP⟩
 go_wp2_with fail
 refine ret_unit _ _ _ _ _ rfl rfl ⟨rfl,hP⟩
theorem field_one (w:World) (S:Nat→Prop) (g:Nat) (bs:List Int) (h:WrAt w S g (some bs)) (A:Option Addr) (c:Nat) (ns:List Int) (hA:IntsAt w A ns) (hl:ns.length≤1000000):
 Calls Tryz.prog 131 #[.pointer (some ⟨g,0,none⟩),.int .i64 1,.slice A ns.length c] w fun e w'=>e= .returned (.tuple #[])∧Put w S g (putO (some bs) (fieldsB 1 ns)) w':=by
 obtain⟨i0,hi,hz0,hz1,hz2⟩:=info_parts infoByte
 obtain⟨p,hb⟩:=h.isBlock
 have hlt:=h.lt
 go_enter Tryz.func131,Tryz.ntmps131
 go_wp2_with fail
 refine(whole_is w g p false hb).mono ?_
 rintro e w' ⟨rfl,rfl⟩
 go_wp2_with fail
 refine(greatest_any 1 w).mono ?_
 rintro e w' ⟨rfl,rfl⟩
 rw [show top 1=255 from rfl]
 have HP:=qh h
 have Hb:=qh hb
 clear h hb
 go_wp2_with (refine wpList_make_full _ rfl _ _ _ rfl w.heap.size 5 i0 (.int .u8 0) 1 Tryz.underlying28 hi hz0 hz1 .i64 .i64 _ _ ns.length rfl rfl (by omega) (by omega) (by rw [hz2];omega) (by unfold maxLen;omega) (Nat.le_refl _) ?_;intro w1 hown1 hgrow1)
 have hfull:BytesIs w1 w.heap.size (List.replicate ns.length 0):=bytesIs_full (n:=ns.length) (by have h:=hown1;rw [Nat.mul_one]at h;rw [← zeros_made];exact h)
 clear hown1
 go_loopg [26] ns.length (fun gg i wx=> ∃k:Nat,gg=ns.length - k∧k≤ns.length∧i= .int .i64 (k:Int)∧BytesIs wx w.heap.size ((ns.take k).flatMap (le 1)++List.replicate ((ns.length - k)) 0)∧w1.grownBy wx (some w.heap.size)∧wx.heap.size=w1.heap.size∧Hid (∀n∈ns.take k,0≤n∧n≤255))
 case atStart=>exact⟨0,rfl,by omega,rfl,by simpa using hfull,World.grownBy.refl _ _,rfl,qh (by simp)⟩
 case round=>
  obtain⟨k,hgk,hk,rfl,hbx,hgx,hsx,hok⟩:=hrel
  have Hgk:=qh hgk;clear hgk
  have Hsx:=qh hsx;clear hsx
  have hbel:Below w.heap.size w wr:=below_bytes hgrow1 (Nat.le_refl _) hgx
  have hWr:WrAt wr S g (some bs):=HP.out.below hbel
  have Hgx:=qh hgx;clear hgx
  have Hbx:=qh hbx;clear hbx
  by_cases hlt2:k < ns.length
  · obtain⟨ab,ao,rfl⟩:=hA.some_ (by intro e;simp [e]at hlt2)
    have hcell:=(hA.below hbel).one k hlt2
    have hbd:=hA.bd k hlt2
    have hnk:ns[k]? =some (ns.getD k 0):=by rw [List.getD_eq_getElem?_getD,List.getElem?_eq_getElem hlt2];rfl
    have hmem:ns.getD k 0∈ns:=List.mem_of_getElem? hnk
    have Hnk:=qh hnk;clear hnk
    have Hmem:=qh hmem;clear hmem
    generalize ns.getD k 0=n at hcell hbd Hnk Hmem
    by_cases hgood:0≤n∧n≤255
    · obtain⟨hn0,hn1⟩:=hgood
      have hdl:((ns.take k).flatMap (le 1)).length=k:=by rw [flat_len,List.length_take];omega
      have hZ:BytesIs wr w.heap.size ((ns.take k).flatMap (le 1)++List.replicate 1 0++List.replicate ((ns.length - (k+1))) 0):=by
       have:=Hbx.out
       rw [zeros_split ((ns.length - k)) 1 (by omega), ← List.append_assoc,show(ns.length - k) - 1=(ns.length - (k+1)) by omega]at this
       exact this
      have HL:=qh (lay_any wr w.heap.size (k) (ns.length - k) 1 n _ _ _ hZ hdl (by simp) (by decide) hn0 hn1 (by omega) (by omega))
      clear hdl hZ
      go_wp2_with fail
      refine HL.out.mono ?_
      rintro e w' ⟨rfl,hL⟩
      have hgx2:=Hgx.out.trans hL.fr
      go_wp2_with fail
      go_roundg (ns.length - (k+1))
      case measure=>rw [Hgk.out];omega
      case rel=>exact⟨k+1,rfl,by omega,by go_num,by rw [take_flat 1 k ns n Hnk.out];exact hL.bytes,hgx2,hL.sz.trans Hsx.out,qh (by
       intro m hm
       rw [List.take_add_one,Hnk.out]at hm
       rcases List.mem_append.1 hm with h | h
       · exact hok.out m h
       · obtain rfl:m=n:=by simpa using h
         exact⟨hn0,hn1⟩)⟩
    · go_wp2_with fail
      all_goals
       refine(spoil_any wr S g _ hWr).mono ?_
       rintro e w' ⟨rfl,hP⟩
       go_wp2_with fail
       have hno:putO (some bs) (fieldsB 1 ns)=none:=by rw [fieldsB_out 1 ns n Hmem.out (by show n < 0∨(255:Int) < n;omega)];rfl
       exact ret_unit _ _ _ _ _ rfl rfl ⟨rfl,by rw [hno];exact Put.after hbel hP HP.out.foot hlt⟩
  · obtain rfl:k=ns.length:=by omega
    rw [List.take_length]at Hbx hok
    have hyes:fieldsB 1 ns=some (ns.flatMap (le 1)):=fieldsB_ok 1 ns (by decide) hok.out
    have Hyes:=qh hyes;clear hyes
    have hb2:BytesIs wr w.heap.size (ns.flatMap (le 1)):=by simpa using Hbx.out
    clear Hbx
    by_cases hz:ns= []
    · subst hz
      go_wp2_with fail
      refine(add_none wr _ _ _ _ rfl).mono ?_
      rintro e w' ⟨rfl,rfl⟩
      go_wp2_with fail
      go_end0
      exact⟨rfl,by rw [Hyes.out];exact Put.after hbel (by simpa [putO] using Put.same hWr) HP.out.foot hlt⟩
    · have hfl:=flat_len 1 ns
      rw [Nat.one_mul]at hfl
      have hpos:0 < ns.length:=List.length_pos_iff.2 hz
      have HA:=qh (add_some wr S g bs (ns.flatMap (le 1)) w.heap.size ns.length hWr (hb2.reads (flat_bd 1 ns)) (by intro e;rw [e]at hfl;simp at hfl;omega) (by omega) (BlockIs.lt hb2) (by omega) (by omega))
      rw [hfl]at HA
      have Hz:=qh hz
      have hlx:=BlockIs.lt hb2
      clear hfl hb2 hz
      go_wp2_with fail
      refine HA.out.mono ?_
      rintro e w' ⟨rfl,hP⟩
      go_wp2_with fail
      go_end0
      refine⟨rfl,?_⟩
      rw [Hyes.out]
      exact⟨hP.wr.mono (by
       rintro k ((h | rfl) | h)
       · exact .inl h
       · exact .inr ⟨Nat.le_refl _,by have:=hP.fr.size;omega⟩
       · exact .inr ⟨by have:=hbel.size;omega,h.2⟩) (grow_foot HP.out.foot hlt (Nat.le_trans hbel.size hP.fr.size)),(grown_below hbel _).trans hP.fr⟩
theorem field_two (w:World) (S:Nat→Prop) (g:Nat) (bs:List Int) (h:WrAt w S g (some bs)) (A:Option Addr) (c:Nat) (ns:List Int) (hA:IntsAt w A ns) (hl:ns.length≤1000000):
 Calls Tryz.prog 131 #[.pointer (some ⟨g,0,none⟩),.int .i64 2,.slice A ns.length c] w fun e w'=>e= .returned (.tuple #[])∧Put w S g (putO (some bs) (fieldsB 2 ns)) w':=by
 obtain⟨i0,hi,hz0,hz1,hz2⟩:=info_parts infoByte
 obtain⟨p,hb⟩:=h.isBlock
 have hlt:=h.lt
 go_enter Tryz.func131,Tryz.ntmps131
 go_wp2_with fail
 refine(whole_is w g p false hb).mono ?_
 rintro e w' ⟨rfl,rfl⟩
 go_wp2_with fail
 refine(greatest_any 2 w).mono ?_
 rintro e w' ⟨rfl,rfl⟩
 rw [show top 2=65535 from rfl]
 have HP:=qh h
 have Hb:=qh hb
 clear h hb
 go_wp2_with (refine wpList_make_full _ rfl _ _ _ rfl w.heap.size 5 i0 (.int .u8 0) 1 Tryz.underlying28 hi hz0 hz1 .i64 .i64 _ _ (2 * ns.length) rfl rfl (by omega) (by omega) (by rw [hz2];omega) (by unfold maxLen;omega) (Nat.le_refl _) ?_;intro w1 hown1 hgrow1)
 have hfull:BytesIs w1 w.heap.size (List.replicate (2 * ns.length) 0):=bytesIs_full (n:=2 * ns.length) (by have h:=hown1;rw [Nat.mul_one]at h;rw [← zeros_made];exact h)
 clear hown1
 go_loopg [26] ns.length (fun gg i wx=> ∃k:Nat,gg=ns.length - k∧k≤ns.length∧i= .int .i64 (k:Int)∧BytesIs wx w.heap.size ((ns.take k).flatMap (le 2)++List.replicate (2 * (ns.length - k)) 0)∧w1.grownBy wx (some w.heap.size)∧wx.heap.size=w1.heap.size∧Hid (∀n∈ns.take k,0≤n∧n≤65535))
 case atStart=>exact⟨0,rfl,by omega,rfl,by simpa using hfull,World.grownBy.refl _ _,rfl,qh (by simp)⟩
 case round=>
  obtain⟨k,hgk,hk,rfl,hbx,hgx,hsx,hok⟩:=hrel
  have Hgk:=qh hgk;clear hgk
  have Hsx:=qh hsx;clear hsx
  have hbel:Below w.heap.size w wr:=below_bytes hgrow1 (Nat.le_refl _) hgx
  have hWr:WrAt wr S g (some bs):=HP.out.below hbel
  have Hgx:=qh hgx;clear hgx
  have Hbx:=qh hbx;clear hbx
  by_cases hlt2:k < ns.length
  · obtain⟨ab,ao,rfl⟩:=hA.some_ (by intro e;simp [e]at hlt2)
    have hcell:=(hA.below hbel).one k hlt2
    have hbd:=hA.bd k hlt2
    have hnk:ns[k]? =some (ns.getD k 0):=by rw [List.getD_eq_getElem?_getD,List.getElem?_eq_getElem hlt2];rfl
    have hmem:ns.getD k 0∈ns:=List.mem_of_getElem? hnk
    have Hnk:=qh hnk;clear hnk
    have Hmem:=qh hmem;clear hmem
    generalize ns.getD k 0=n at hcell hbd Hnk Hmem
    by_cases hgood:0≤n∧n≤65535
    · obtain⟨hn0,hn1⟩:=hgood
      have hdl:((ns.take k).flatMap (le 2)).length=k * 2:=by rw [flat_len,List.length_take];omega
      have hZ:BytesIs wr w.heap.size ((ns.take k).flatMap (le 2)++List.replicate 2 0++List.replicate (2 * (ns.length - (k+1))) 0):=by
       have:=Hbx.out
       rw [zeros_split (2 * (ns.length - k)) 2 (by omega), ← List.append_assoc,show 2 * (ns.length - k) - 2=2 * (ns.length - (k+1)) by omega]at this
       exact this
      have HL:=qh (lay_any wr w.heap.size (k * 2) (2 * ns.length - k * 2) 2 n _ _ _ hZ hdl (by simp) (by decide) hn0 hn1 (by omega) (by omega))
      clear hdl hZ
      go_wp2_with fail
      refine HL.out.mono ?_
      rintro e w' ⟨rfl,hL⟩
      have hgx2:=Hgx.out.trans hL.fr
      go_wp2_with fail
      go_roundg (ns.length - (k+1))
      case measure=>rw [Hgk.out];omega
      case rel=>exact⟨k+1,rfl,by omega,by go_num,by rw [take_flat 2 k ns n Hnk.out];exact hL.bytes,hgx2,hL.sz.trans Hsx.out,qh (by
       intro m hm
       rw [List.take_add_one,Hnk.out]at hm
       rcases List.mem_append.1 hm with h | h
       · exact hok.out m h
       · obtain rfl:m=n:=by simpa using h
         exact⟨hn0,hn1⟩)⟩
    · go_wp2_with fail
      all_goals
       refine(spoil_any wr S g _ hWr).mono ?_
       rintro e w' ⟨rfl,hP⟩
       go_wp2_with fail
       have hno:putO (some bs) (fieldsB 2 ns)=none:=by rw [fieldsB_out 2 ns n Hmem.out (by show n < 0∨(65535:Int) < n;omega)];rfl
       exact ret_unit _ _ _ _ _ rfl rfl ⟨rfl,by rw [hno];exact Put.after hbel hP HP.out.foot hlt⟩
  · obtain rfl:k=ns.length:=by omega
    rw [List.take_length]at Hbx hok
    have hyes:fieldsB 2 ns=some (ns.flatMap (le 2)):=fieldsB_ok 2 ns (by decide) hok.out
    have Hyes:=qh hyes;clear hyes
    have hb2:BytesIs wr w.heap.size (ns.flatMap (le 2)):=by simpa using Hbx.out
    clear Hbx
    by_cases hz:ns= []
    · subst hz
      go_wp2_with fail
      refine(add_none wr _ _ _ _ rfl).mono ?_
      rintro e w' ⟨rfl,rfl⟩
      go_wp2_with fail
      go_end0
      exact⟨rfl,by rw [Hyes.out];exact Put.after hbel (by simpa [putO] using Put.same hWr) HP.out.foot hlt⟩
    · have hfl:=flat_len 2 ns
      have hpos:0 < ns.length:=List.length_pos_iff.2 hz
      have HA:=qh (add_some wr S g bs (ns.flatMap (le 2)) w.heap.size (2 * ns.length) hWr (hb2.reads (flat_bd 2 ns)) (by intro e;rw [e]at hfl;simp at hfl;omega) (by omega) (BlockIs.lt hb2) (by omega) (by omega))
      rw [hfl]at HA
      have Hz:=qh hz
      have hlx:=BlockIs.lt hb2
      clear hfl hb2 hz
      go_wp2_with fail
      refine HA.out.mono ?_
      rintro e w' ⟨rfl,hP⟩
      go_wp2_with fail
      go_end0
      refine⟨rfl,?_⟩
      rw [Hyes.out]
      exact⟨hP.wr.mono (by
       rintro k ((h | rfl) | h)
       · exact .inl h
       · exact .inr ⟨Nat.le_refl _,by have:=hP.fr.size;omega⟩
       · exact .inr ⟨by have:=hbel.size;omega,h.2⟩) (grow_foot HP.out.foot hlt (Nat.le_trans hbel.size hP.fr.size)),(grown_below hbel _).trans hP.fr⟩
theorem field_four (w:World) (S:Nat→Prop) (g:Nat) (bs:List Int) (h:WrAt w S g (some bs)) (A:Option Addr) (c:Nat) (ns:List Int) (hA:IntsAt w A ns) (hl:ns.length≤1000000):
 Calls Tryz.prog 131 #[.pointer (some ⟨g,0,none⟩),.int .i64 4,.slice A ns.length c] w fun e w'=>e= .returned (.tuple #[])∧Put w S g (putO (some bs) (fieldsB 4 ns)) w':=by
 obtain⟨i0,hi,hz0,hz1,hz2⟩:=info_parts infoByte
 obtain⟨p,hb⟩:=h.isBlock
 have hlt:=h.lt
 go_enter Tryz.func131,Tryz.ntmps131
 go_wp2_with fail
 refine(whole_is w g p false hb).mono ?_
 rintro e w' ⟨rfl,rfl⟩
 go_wp2_with fail
 refine(greatest_any 4 w).mono ?_
 rintro e w' ⟨rfl,rfl⟩
 rw [show top 4=4294967295 from rfl]
 have HP:=qh h
 have Hb:=qh hb
 clear h hb
 go_wp2_with (refine wpList_make_full _ rfl _ _ _ rfl w.heap.size 5 i0 (.int .u8 0) 1 Tryz.underlying28 hi hz0 hz1 .i64 .i64 _ _ (4 * ns.length) rfl rfl (by omega) (by omega) (by rw [hz2];omega) (by unfold maxLen;omega) (Nat.le_refl _) ?_;intro w1 hown1 hgrow1)
 have hfull:BytesIs w1 w.heap.size (List.replicate (4 * ns.length) 0):=bytesIs_full (n:=4 * ns.length) (by have h:=hown1;rw [Nat.mul_one]at h;rw [← zeros_made];exact h)
 clear hown1
 go_loopg [26] ns.length (fun gg i wx=> ∃k:Nat,gg=ns.length - k∧k≤ns.length∧i= .int .i64 (k:Int)∧BytesIs wx w.heap.size ((ns.take k).flatMap (le 4)++List.replicate (4 * (ns.length - k)) 0)∧w1.grownBy wx (some w.heap.size)∧wx.heap.size=w1.heap.size∧Hid (∀n∈ns.take k,0≤n∧n≤4294967295))
 case atStart=>exact⟨0,rfl,by omega,rfl,by simpa using hfull,World.grownBy.refl _ _,rfl,qh (by simp)⟩
 case round=>
  obtain⟨k,hgk,hk,rfl,hbx,hgx,hsx,hok⟩:=hrel
  have Hgk:=qh hgk;clear hgk
  have Hsx:=qh hsx;clear hsx
  have hbel:Below w.heap.size w wr:=below_bytes hgrow1 (Nat.le_refl _) hgx
  have hWr:WrAt wr S g (some bs):=HP.out.below hbel
  have Hgx:=qh hgx;clear hgx
  have Hbx:=qh hbx;clear hbx
  by_cases hlt2:k < ns.length
  · obtain⟨ab,ao,rfl⟩:=hA.some_ (by intro e;simp [e]at hlt2)
    have hcell:=(hA.below hbel).one k hlt2
    have hbd:=hA.bd k hlt2
    have hnk:ns[k]? =some (ns.getD k 0):=by rw [List.getD_eq_getElem?_getD,List.getElem?_eq_getElem hlt2];rfl
    have hmem:ns.getD k 0∈ns:=List.mem_of_getElem? hnk
    have Hnk:=qh hnk;clear hnk
    have Hmem:=qh hmem;clear hmem
    generalize ns.getD k 0=n at hcell hbd Hnk Hmem
    by_cases hgood:0≤n∧n≤4294967295
    · obtain⟨hn0,hn1⟩:=hgood
      have hdl:((ns.take k).flatMap (le 4)).length=k * 4:=by rw [flat_len,List.length_take];omega
      have hZ:BytesIs wr w.heap.size ((ns.take k).flatMap (le 4)++List.replicate 4 0++List.replicate (4 * (ns.length - (k+1))) 0):=by
       have:=Hbx.out
       rw [zeros_split (4 * (ns.length - k)) 4 (by omega), ← List.append_assoc,show 4 * (ns.length - k) - 4=4 * (ns.length - (k+1)) by omega]at this
       exact this
      have HL:=qh (lay_any wr w.heap.size (k * 4) (4 * ns.length - k * 4) 4 n _ _ _ hZ hdl (by simp) (by decide) hn0 hn1 (by omega) (by omega))
      clear hdl hZ
      go_wp2_with fail
      refine HL.out.mono ?_
      rintro e w' ⟨rfl,hL⟩
      have hgx2:=Hgx.out.trans hL.fr
      go_wp2_with fail
      go_roundg (ns.length - (k+1))
      case measure=>rw [Hgk.out];omega
      case rel=>exact⟨k+1,rfl,by omega,by go_num,by rw [take_flat 4 k ns n Hnk.out];exact hL.bytes,hgx2,hL.sz.trans Hsx.out,qh (by
       intro m hm
       rw [List.take_add_one,Hnk.out]at hm
       rcases List.mem_append.1 hm with h | h
       · exact hok.out m h
       · obtain rfl:m=n:=by simpa using h
         exact⟨hn0,hn1⟩)⟩
    · go_wp2_with fail
      all_goals
       refine(spoil_any wr S g _ hWr).mono ?_
       rintro e w' ⟨rfl,hP⟩
       go_wp2_with fail
       have hno:putO (some bs) (fieldsB 4 ns)=none:=by rw [fieldsB_out 4 ns n Hmem.out (by show n < 0∨(4294967295:Int) < n;omega)];rfl
       exact ret_unit _ _ _ _ _ rfl rfl ⟨rfl,by rw [hno];exact Put.after hbel hP HP.out.foot hlt⟩
  · obtain rfl:k=ns.length:=by omega
    rw [List.take_length]at Hbx hok
    have hyes:fieldsB 4 ns=some (ns.flatMap (le 4)):=fieldsB_ok 4 ns (by decide) hok.out
    have Hyes:=qh hyes;clear hyes
    have hb2:BytesIs wr w.heap.size (ns.flatMap (le 4)):=by simpa using Hbx.out
    clear Hbx
    by_cases hz:ns= []
    · subst hz
      go_wp2_with fail
      refine(add_none wr _ _ _ _ rfl).mono ?_
      rintro e w' ⟨rfl,rfl⟩
      go_wp2_with fail
      go_end0
      exact⟨rfl,by rw [Hyes.out];exact Put.after hbel (by simpa [putO] using Put.same hWr) HP.out.foot hlt⟩
    · have hfl:=flat_len 4 ns
      have hpos:0 < ns.length:=List.length_pos_iff.2 hz
      have HA:=qh (add_some wr S g bs (ns.flatMap (le 4)) w.heap.size (4 * ns.length) hWr (hb2.reads (flat_bd 4 ns)) (by intro e;rw [e]at hfl;simp at hfl;omega) (by omega) (BlockIs.lt hb2) (by omega) (by omega))
      rw [hfl]at HA
      have Hz:=qh hz
      have hlx:=BlockIs.lt hb2
      clear hfl hb2 hz
      go_wp2_with fail
      refine HA.out.mono ?_
      rintro e w' ⟨rfl,hP⟩
      go_wp2_with fail
      go_end0
      refine⟨rfl,?_⟩
      rw [Hyes.out]
      exact⟨hP.wr.mono (by
       rintro k ((h | rfl) | h)
       · exact .inl h
       · exact .inr ⟨Nat.le_refl _,by have:=hP.fr.size;omega⟩
       · exact .inr ⟨by have:=hbel.size;omega,h.2⟩) (grow_foot HP.out.foot hlt (Nat.le_trans hbel.size hP.fr.size)),(grown_below hbel _).trans hP.fr⟩
theorem field_six (w:World) (S:Nat→Prop) (g:Nat) (bs:List Int) (h:WrAt w S g (some bs)) (A:Option Addr) (c:Nat) (ns:List Int) (hA:IntsAt w A ns) (hl:ns.length≤1000000):
 Calls Tryz.prog 131 #[.pointer (some ⟨g,0,none⟩),.int .i64 6,.slice A ns.length c] w fun e w'=>e= .returned (.tuple #[])∧Put w S g (putO (some bs) (fieldsB 6 ns)) w':=by
 obtain⟨i0,hi,hz0,hz1,hz2⟩:=info_parts infoByte
 obtain⟨p,hb⟩:=h.isBlock
 have hlt:=h.lt
 go_enter Tryz.func131,Tryz.ntmps131
 go_wp2_with fail
 refine(whole_is w g p false hb).mono ?_
 rintro e w' ⟨rfl,rfl⟩
 go_wp2_with fail
 refine(greatest_any 6 w).mono ?_
 rintro e w' ⟨rfl,rfl⟩
 rw [show top 6=1099511627776 from rfl]
 have HP:=qh h
 have Hb:=qh hb
 clear h hb
 go_wp2_with (refine wpList_make_full _ rfl _ _ _ rfl w.heap.size 5 i0 (.int .u8 0) 1 Tryz.underlying28 hi hz0 hz1 .i64 .i64 _ _ (6 * ns.length) rfl rfl (by omega) (by omega) (by rw [hz2];omega) (by unfold maxLen;omega) (Nat.le_refl _) ?_;intro w1 hown1 hgrow1)
 have hfull:BytesIs w1 w.heap.size (List.replicate (6 * ns.length) 0):=bytesIs_full (n:=6 * ns.length) (by have h:=hown1;rw [Nat.mul_one]at h;rw [← zeros_made];exact h)
 clear hown1
 go_loopg [26] ns.length (fun gg i wx=> ∃k:Nat,gg=ns.length - k∧k≤ns.length∧i= .int .i64 (k:Int)∧BytesIs wx w.heap.size ((ns.take k).flatMap (le 6)++List.replicate (6 * (ns.length - k)) 0)∧w1.grownBy wx (some w.heap.size)∧wx.heap.size=w1.heap.size∧Hid (∀n∈ns.take k,0≤n∧n≤1099511627776))
 case atStart=>exact⟨0,rfl,by omega,rfl,by simpa using hfull,World.grownBy.refl _ _,rfl,qh (by simp)⟩
 case round=>
  obtain⟨k,hgk,hk,rfl,hbx,hgx,hsx,hok⟩:=hrel
  have Hgk:=qh hgk;clear hgk
  have Hsx:=qh hsx;clear hsx
  have hbel:Below w.heap.size w wr:=below_bytes hgrow1 (Nat.le_refl _) hgx
  have hWr:WrAt wr S g (some bs):=HP.out.below hbel
  have Hgx:=qh hgx;clear hgx
  have Hbx:=qh hbx;clear hbx
  by_cases hlt2:k < ns.length
  · obtain⟨ab,ao,rfl⟩:=hA.some_ (by intro e;simp [e]at hlt2)
    have hcell:=(hA.below hbel).one k hlt2
    have hbd:=hA.bd k hlt2
    have hnk:ns[k]? =some (ns.getD k 0):=by rw [List.getD_eq_getElem?_getD,List.getElem?_eq_getElem hlt2];rfl
    have hmem:ns.getD k 0∈ns:=List.mem_of_getElem? hnk
    have Hnk:=qh hnk;clear hnk
    have Hmem:=qh hmem;clear hmem
    generalize ns.getD k 0=n at hcell hbd Hnk Hmem
    by_cases hgood:0≤n∧n≤1099511627776
    · obtain⟨hn0,hn1⟩:=hgood
      have hdl:((ns.take k).flatMap (le 6)).length=k * 6:=by rw [flat_len,List.length_take];omega
      have hZ:BytesIs wr w.heap.size ((ns.take k).flatMap (le 6)++List.replicate 6 0++List.replicate (6 * (ns.length - (k+1))) 0):=by
       have:=Hbx.out
       rw [zeros_split (6 * (ns.length - k)) 6 (by omega), ← List.append_assoc,show 6 * (ns.length - k) - 6=6 * (ns.length - (k+1)) by omega]at this
       exact this
      have HL:=qh (lay_any wr w.heap.size (k * 6) (6 * ns.length - k * 6) 6 n _ _ _ hZ hdl (by simp) (by decide) hn0 hn1 (by omega) (by omega))
      clear hdl hZ
      go_wp2_with fail
      refine HL.out.mono ?_
      rintro e w' ⟨rfl,hL⟩
      have hgx2:=Hgx.out.trans hL.fr
      go_wp2_with fail
      go_roundg (ns.length - (k+1))
      case measure=>rw [Hgk.out];omega
      case rel=>exact⟨k+1,rfl,by omega,by go_num,by rw [take_flat 6 k ns n Hnk.out];exact hL.bytes,hgx2,hL.sz.trans Hsx.out,qh (by
       intro m hm
       rw [List.take_add_one,Hnk.out]at hm
       rcases List.mem_append.1 hm with h | h
       · exact hok.out m h
       · obtain rfl:m=n:=by simpa using h
         exact⟨hn0,hn1⟩)⟩
    · go_wp2_with fail
      all_goals
       refine(spoil_any wr S g _ hWr).mono ?_
       rintro e w' ⟨rfl,hP⟩
       go_wp2_with fail
       have hno:putO (some bs) (fieldsB 6 ns)=none:=by rw [fieldsB_out 6 ns n Hmem.out (by show n < 0∨(1099511627776:Int) < n;omega)];rfl
       exact ret_unit _ _ _ _ _ rfl rfl ⟨rfl,by rw [hno];exact Put.after hbel hP HP.out.foot hlt⟩
  · obtain rfl:k=ns.length:=by omega
    rw [List.take_length]at Hbx hok
    have hyes:fieldsB 6 ns=some (ns.flatMap (le 6)):=fieldsB_ok 6 ns (by decide) hok.out
    have Hyes:=qh hyes;clear hyes
    have hb2:BytesIs wr w.heap.size (ns.flatMap (le 6)):=by simpa using Hbx.out
    clear Hbx
    by_cases hz:ns= []
    · subst hz
      go_wp2_with fail
      refine(add_none wr _ _ _ _ rfl).mono ?_
      rintro e w' ⟨rfl,rfl⟩
      go_wp2_with fail
      go_end0
      exact⟨rfl,by rw [Hyes.out];exact Put.after hbel (by simpa [putO] using Put.same hWr) HP.out.foot hlt⟩
    · have hfl:=flat_len 6 ns
      have hpos:0 < ns.length:=List.length_pos_iff.2 hz
      have HA:=qh (add_some wr S g bs (ns.flatMap (le 6)) w.heap.size (6 * ns.length) hWr (hb2.reads (flat_bd 6 ns)) (by intro e;rw [e]at hfl;simp at hfl;omega) (by omega) (BlockIs.lt hb2) (by omega) (by omega))
      rw [hfl]at HA
      have Hz:=qh hz
      have hlx:=BlockIs.lt hb2
      clear hfl hb2 hz
      go_wp2_with fail
      refine HA.out.mono ?_
      rintro e w' ⟨rfl,hP⟩
      go_wp2_with fail
      go_end0
      refine⟨rfl,?_⟩
      rw [Hyes.out]
      exact⟨hP.wr.mono (by
       rintro k ((h | rfl) | h)
       · exact .inl h
       · exact .inr ⟨Nat.le_refl _,by have:=hP.fr.size;omega⟩
       · exact .inr ⟨by have:=hbel.size;omega,h.2⟩) (grow_foot HP.out.foot hlt (Nat.le_trans hbel.size hP.fr.size)),(grown_below hbel _).trans hP.fr⟩
theorem field_any (w:World) (S:Nat→Prop) (g:Nat) (s:Option (List Int)) (h:WrAt w S g s) (wd:Int) (A:Option Addr) (c:Nat) (ns:List Int) (hA:IntsAt w A ns) (hl:ns.length≤1000000):
 Calls Tryz.prog 131 #[.pointer (some ⟨g,0,none⟩),.int .i64 wd,.slice A ns.length c] w fun e w'=>e= .returned (.tuple #[])∧Put w S g (putO s (fieldsB wd ns)) w':=by
 cases s with
 | none=>
   rw [none_putO]
   exact(field_spoilt w S g h _ _).mono fun e w' ⟨he,hw⟩=>⟨he,hw ▸ Put.same h⟩
 | some bs=>
   rcases top_cases wd with⟨rfl,t⟩ | ⟨rfl,t⟩ | ⟨rfl,t⟩ | ⟨rfl,t⟩ | ⟨_,_,_,_,t⟩
   · exact field_one w S g bs h A c ns hA hl
   · exact field_two w S g bs h A c ns hA hl
   · exact field_four w S g bs h A c ns hA hl
   · exact field_six w S g bs h A c ns hA hl
   · rw [fieldsB_bad wd ns (by omega),putO_none]
     exact field_no w S g bs h wd _ (by omega)
open Go.RowKit
theorem own_mono {w:World} {B B':Nat} {e:TypeId} {size n:Nat} {v:Value} {xs:List Value} (h:w.ownsRow B e size v n xs) (hB:B'≤B):w.ownsRow B' e size v n xs:=
 ⟨h.1,h.2.imp id fun⟨g,cap,cur,h1,h2,h3⟩=>⟨g,cap,cur,h1,Nat.le_trans hB h2,h3⟩⟩
theorem clone_any (w:World) (zs:List Int) (A:Option Addr) (c:Nat) (hz:BytesAt w A zs) (hl:zs.length≤140737488351232) (hA:A=none→c=0):
 Calls Tryz.prog 141 #[.slice A zs.length c] w fun e w'=> ∃v,e= .returned v∧w'.ownsRow w.heap.size 5 1 v zs.length (u8s zs)∧Below w.heap.size w w':=by
 obtain⟨i0,hi,hz0,hz1,hz2⟩:=info_parts infoByte
 rcases A with _ | ad
 · obtain rfl:c=0:=hA rfl
   have hnil:zs= []:=by
    apply Classical.byContradiction
    intro hne
    obtain⟨b,off,e⟩:=hz.some_ hne
    cases e
   subst hnil
   have he:=fun w=>Lib.run_eql_slice_nil (P:=Tryz.prog) w 28 5 none 0 0 0 0 Tryz.underlying28
   clear hA
   go_enter Tryz.func141,Tryz.ntmps141
   go_wp2_with fail
   go_ret
   exact⟨_,rfl,World.ownsRow_nil _ _ _ _,Below.refl _ _⟩
 · have hsrc: ∀(o:Obj),∀j u,(u8s zs)[j]? =some u→(w.alloc o).cell? (ad.add j)=some u:=fun o j u hj=>by
    have hne:zs≠ []:=by intro e;subst e;simp [u8s]at hj
    obtain⟨b,off,e,hc⟩:=hz.2 hne
    obtain rfl:ad=⟨b,off,none⟩:=by simpa using e
    exact src_cells zs b off w o hc j u hj
   have Hsrc:=qh hsrc
   clear hsrc
   have hown0:=qh (World.ownsRow_lit (base:=w.heap.size) (e:=5) (size:=1) w #[] 0 (Nat.le_refl _) (Nat.zero_le _) (by simp))
   have he:=fun w=>Lib.run_eql_slice_nil (P:=Tryz.prog) w 28 5 (some ad) zs.length c 0 0 Tryz.underlying28
   clear hA
   go_enter Tryz.func141,Tryz.ntmps141
   go_wp2_with (at_builtin;refine wpList_append_own _ rfl _ _ 28 rfl w.heap.size 5 i0 (.int .u8 0) 1 1 Tryz.underlying28 hi hz0 hz1 hz2 rfl (by decide) _ _ _ rfl hown0.out ad zs.length c (u8s zs) rfl ?c1 ?c2 ?c3 ?c4 ?c5 ?c6 ?_)
   case c1=>rw [u8s_len]
   case c2=>exact Hsrc.out _
   case c3=>exact u8s_one zs
   case c4=>unfold maxLen;omega
   case c5=>omega
   intro v' w1 hown1 hgrow1 _
   have hb:Below w.heap.size w w1:=(below_new w _).grown hgrow1 (by simp) (fun k e=>(hown0.out.lt k e).1)
   have hown2:=own_same (m:=zs.length) (ys:=u8s zs) hown1 (by omega) (by simp)
   clear hown1
   go_wp2_with fail
   go_ret
   exact⟨_,rfl,hown2,hb⟩
open Go.RowKit
theorem get_some {α:Type} (xs:List α) (k:Nat) (h:k < xs.length): ∃x,xs[k]? =some x:=⟨xs[k],List.getElem?_eq_getElem h⟩
theorem reverse_some (w:World) (B g n cap:Nat) (xs:List Value) (h:w.ownsRow B 28 1 (.slice (some ⟨g,0,none⟩) n cap) n xs) (hn:n≤9223372036854775807) (hx: ∀x∈xs,∃A m c,x= .slice A m c):
 Calls Tryz.prog 155 #[.slice (some ⟨g,0,none⟩) n cap] w fun e w'=>e= .returned (.tuple #[])∧w'.ownsRow B 28 1 (.slice (some ⟨g,0,none⟩) n cap) n xs.reverse∧w.grownBy w' (some g):=by
 have hlen:xs.length=n:=by have:=h.1;omega
 have Hlen:=qh hlen;clear hlen
 have H:=qh h;clear h
 go_enter Tryz.func155,Tryz.ntmps155
 go_wp2_with fail
 go_loopg [2,3] n (fun gg i j wx=> ∃(k:Nat) (ys:List Value),gg=n - k∧2 * k≤n+1∧i= .int .i64 (k:Int)∧j= .int .i64 ((n:Int) - 1 - (k:Int))∧wx.ownsRow B 28 1 (.slice (some ⟨g,0,none⟩) n cap) n ys∧w.grownBy wx (some g)∧Hid (∀i,i < n→ys[i]? =if i < k∨n≤i+k then xs[n - 1 - i]? else xs[i]?))
 case atStart=>exact⟨0,xs,rfl,by omega,rfl,by go_num,H.out,World.grownBy.refl _ _,qh (fun i hi=>by rw [if_neg (by omega)])⟩
 case round=>
  obtain⟨k,ys,hgk,hk,rfl,rfl,hown,hgr,hys⟩:=hrel
  have Hgk:=qh hgk;clear hgk
  by_cases hlt:(k:Int) < (n:Int) - 1 - (k:Int)
  · have hkx:ys[k]? =xs[k]? :=by rw [hys.out k (by omega),if_neg (by omega)]
    have hjx:ys[n - 1 - k]? =xs[n - 1 - k]? :=by rw [hys.out (n - 1 - k) (by omega),if_neg (by omega)]
    obtain⟨x1,hk1⟩:=get_some xs k (by have:=Hlen.out;omega)
    obtain⟨x2,hj1⟩:=get_some xs (n - 1 - k) (by have:=Hlen.out;omega)
    obtain⟨A1,m1,q1,e1⟩:=hx _ (List.mem_of_getElem? hk1)
    obtain⟨A2,m2,q2,e2⟩:=hx _ (List.mem_of_getElem? hj1)
    have c1:wr.cell? ⟨g,k,none⟩=some (.slice A1 m1 q1):=by rw [hown.cellAt k (by omega),hkx,hk1,e1]
    have c2:wr.cell? ⟨g,n - 1 - k,none⟩=some (.slice A2 m2 q2):=by rw [hown.cellAt (n - 1 - k) (by omega),hjx,hj1,e2]
    have hf: ∀i,wr.frozen? ⟨g,i,none⟩=false:=fun i=>hown.frozenAt i
    have hne:n - 1 - k≠k:=by omega
    subst e1 e2
    have HE:=qh (And.intro hk1 hj1)
    clear hkx hjx hk1 hj1
    have hm:(n:Int) - 1 - (k:Int)=((n - 1 - k:Nat):Int):=by omega
    have hmn:n - 1 - k < n:=by omega
    have hkm:k < n - 1 - k:=by omega
    have hkn:k < n:=by omega
    rw [hm]
    have Hm:=qh (And.intro hm (show n - 1 - k+1+k=n by omega));clear hm hlt
    generalize n - 1 - k=m at *
    have i0:(0:Int)≤(k:Int):=by omega
    have i1:(k:Int) < (n:Int):=by omega
    have i2:(0:Int)≤(m:Int):=by omega
    have i3:(m:Int) < (n:Int):=by omega
    have i4:(k:Int) < (m:Int):=by omega
    go_wp2_with fail
    go_region
    go_wp2_with fail
    go_roundg (n - (k+1))
    case measure=>rw [Hgk.out];omega
    case rel=>
     have s1:=hown.stored k (.slice A2 m2 q2)
     have s2:=s1.1.stored m (.slice A1 m1 q1)
     have hl1:ys.length=n:=by have:=hown.1;omega
     have hmm:=Hm.out
     exact⟨k+1,(ys.set k (.slice A2 m2 q2)).set m (.slice A1 m1 q1),rfl,by omega,by go_num,by congr 1;omega,s2.1.drew,grown_drewN ((hgr.trans s1.2).trans s2.2) 1,qh (fun i hi=>by
      rw [List.getElem?_set,List.getElem?_set]
      by_cases h1:m=i
      · subst h1
        rw [if_pos rfl,if_pos (by simpa [hl1] using hi),if_pos (.inr (by omega)),show n - 1 - m=k by omega]
        exact HE.out.1.symm
      · rw [if_neg h1]
        by_cases h2:k=i
        · subst h2
          rw [if_pos rfl,if_pos (by omega),if_pos (.inl (by omega)),show n - 1 - k=m by omega]
          exact HE.out.2.symm
        · rw [if_neg h2,hys.out i hi]
          by_cases h3:i < k∨n≤i+k
          · rw [if_pos h3,if_pos (by omega)]
          · rw [if_neg h3,if_neg (by omega)])⟩
  · have hfin:ys=xs.reverse:=by
     have hl1:ys.length=n:=by have:=hown.1;omega
     apply List.ext_getElem?
     intro i
     by_cases hi:i < n
     · rw [hys.out i hi,List.getElem?_reverse (by rw [Hlen.out];exact hi),Hlen.out]
       by_cases h3:i < k∨n≤i+k
       · rw [if_pos h3]
       · rw [if_neg h3,show n - 1 - i=i by omega]
     · rw [List.getElem?_eq_none (by omega),List.getElem?_eq_none (by rw [List.length_reverse,Hlen.out];omega)]
    subst hfin
    have hge:decide ((k:Int) < (n:Int) - 1 - (k:Int))=false:=decide_eq_false hlt
    go_wp2_with fail
    go_end0
    exact⟨rfl,hown,hgr⟩
theorem reverse_none (w:World):
 Calls Tryz.prog 155 #[.slice none 0 0] w fun e w'=>e= .returned (.tuple #[])∧w=w':=by
 go_enter Tryz.func155,Tryz.ntmps155
 go_wp2_with fail
 refine wp_loop_rounds 1 ?_
 rw [rounds_succ]
 go_wp2_with fail
 go_end0
 exact⟨rfl,rfl⟩
theorem reverse_any (w:World) (B n:Nat) (v:Value) (xs:List Value) (h:w.ownsRow B 28 1 v n xs) (hn:n≤9223372036854775807) (hx: ∀x∈xs,∃A m c,x= .slice A m c):
 Calls Tryz.prog 155 #[v] w fun e w'=>e= .returned (.tuple #[])∧w'.ownsRow B 28 1 v n xs.reverse∧w.grownBy w' v.ownBlock:=by
 rcases h.2 with⟨rfl,rfl⟩ | ⟨g,cap,cur,rfl,_⟩
 · have hx0:xs= []:=List.eq_nil_of_length_eq_zero (by simpa using h.1)
   subst hx0
   exact(reverse_none w).mono fun e w' ⟨he,hw⟩=>⟨he,hw ▸ h,hw ▸ World.grownBy.refl _ _⟩
 · exact reverse_some w B g n cap xs h hn hx
open Go.RowKit
theorem run_append_zeros (w:World) (ty:TypeId) (n:Nat) (h0:0 < n) (h1:n≤140737488355328):
 ∃cur:Array Value,cur.size=grownCap w n 0 5∧(Builtin.append_ #[28,3] ty #[.slice none 0 0,.int .i64 (n:Int)]).run Tryz.prog w=
  .ok (.slice (some ⟨w.heap.size,0,none⟩) n (grownCap w n 0 5)) (w.drew.alloc (.cells cur 5)):=by
 obtain⟨i0,hi,hz,hz1,hz2⟩:=info_parts infoByte
 have hn:n≠0:=by omega
 have h63: ¬(9223372036854775807 < (n:Int)):=by omega
 have h48: ¬(281474976710656 < Builtin.nextslicecap n 0):=by rw [nextslicecap_zero h0];omega
 have hneg: ¬((n:Int) < 0):=by omega
 have hbig: ¬(281474976710656 < (n:Int)):=by omega
 have hw:IntKind.i64.wrap (n:Int)=n:=IntWalk.i64_in _ (by omega)
 have hge:=grownCap_ge w n 0 5
 refine⟨Builtin.zeroCells #[.int .u8 0] n++Builtin.zeroCells #[.int .u8 0] (grownCap w n 0 5 - n),by simp [size_zeroCells];omega,?_⟩
 simp [Builtin.append_,run_underlying Tryz.underlying28,run_underlying Tryz.underlying3,sizeOf,typeInfo,zeroValue,hi,hz,hz1,hz2,Builtin.lenOf,Builtin.firstCells,hn,h63,h48,hneg,hbig,hw,asInt,asIntOf,Question.forced,newRow,grownCap]
 rfl
theorem wpList_append_run {P:Program} {w w':World} {ops:Array Oper} {rest:List Oper} {o:Oper} {a:Act} {Q:Exit→Act→World→Prop} (hgd:o.guard=none) (s x:Operand) (t u:TypeId)
 (ho:o.op= .call { callee:= .builtin .append,args:= #[s,x],argTypes:= #[t,u] }) (v v1 v2:Value) (hs:a.eval s=v1) (hx:a.eval x=v2)
 (hr:(Builtin.append_ #[t,u] o.type #[v1,v2]).run P w= .ok v w') (h:wpList P ops Q rest (a.put o.dst v) w'):wpList P ops Q (o::rest) a w:=by
 refine wpList_plain hgd fun K hK=> ?_
 unfold Oper.wp execOp
 simp only [ho,resolve,invoke,builtin,Sem.run_bind,Sem.run_pure,Result.andThen_ok,List.map_toArray,List.map_cons,List.map_nil,hs,hx,hr]
 exact hK _ _ h
theorem grow_any (w:World) (n:Nat) (h1:n≤140737488355328):
 Calls Tryz.prog 164 #[.slice none 0 0,.int .i64 (n:Int)] w fun e w'=> ∃v,e= .returned v∧w'.ownsRow w.heap.size 5 1 v 0 []∧Below w.heap.size w w':=by
 by_cases h0:n=0
 · subst h0
   go_enter Tryz.func164,Tryz.ntmps164
   go_wp2_with fail
   go_ret
   exact⟨_,rfl,World.ownsRow_nil _ _ _ _,Below.refl _ _⟩
 · obtain⟨cur,hcs,hrun⟩:=run_append_zeros w 28 n (by omega) h1
   have hge:=grownCap_ge w n 0 5
   have hle:=grownCap_le_maxLen w n 0 5 (by unfold maxLen;omega)
   have hown:=World.ownsRow_made (base:=w.heap.size) (e:=5) (size:=1) w.drew cur (grownCap w n 0 5) (by simp) hle (by omega)
   have hb:Below w.heap.size w (w.drew.alloc (.cells cur 5)):=((Below.refl _ _).drew).alloc (by simp) _
   generalize hC:grownCap w n 0 5=cap at *
   have HC:=qh hC
   clear hC hcs
   have hpos:0 < n:=by omega
   unfold maxLen at hle
   have Hrun:=qh hrun;clear hrun
   have q1:(0:Int)≤(cap:Int):=by omega
   go_enter Tryz.func164,Tryz.ntmps164
   go_wp2_with (at_builtin;refine wpList_append_run rfl _ _ 28 3 rfl _ _ _ rfl rfl Hrun.out ?_)
   go_ret
   exact⟨_,rfl,hown,hb⟩
theorem parts_one {w:World} {X:Option Addr} {ps:List Part} (h:PartsAt w X ps) (k:Nat) (p:Part) (hp:ps[k]? =some p):p.ok w∧p∈ps:=⟨h.1 p (List.mem_of_getElem? hp),List.mem_of_getElem? hp⟩
theorem bytesOf_snoc (ps:List Part) (k:Nat) (p:Part) (h:ps[k]? =some p):bytesOf (ps.take (k+1))=bytesOf (ps.take k)++p.zs:=by
 unfold bytesOf
 rw [List.take_add_one,h];simp
theorem bytesOf_len (ps:List Part):(bytesOf ps).length=total ps:=by
 unfold bytesOf total
 induction ps with
 | nil=>rfl
 | cons p ps ih=>simp [ih]
theorem total_take (ps:List Part) (k:Nat):total (ps.take k)≤total ps:=by
 induction ps generalizing k with
 | nil=>simp
 | cons p ps ih=>
   cases k with
   | zero=>simp [total]
   | succ k=>have:=ih k;simp only [List.take_succ_cons,total,List.map_cons,List.sum_cons]at this ⊢;omega
theorem concat_any (w:World) (ps:List Part) (A:Option Addr) (c:Nat) (hp:PartsAt w A ps) (hl:ps.length≤140737488355328) (ht:total ps≤140737488355328) (hs: ∀p∈ps,p.A≠none):
 Calls Tryz.prog 156 #[.slice A ps.length c] w fun e w'=> ∃v,e= .returned v∧w'.ownsRow w.heap.size 5 1 v (total ps) (u8s (bytesOf ps))∧Below w.heap.size w w':=by
 obtain⟨i0,hi,hz0,hz1,hz2⟩:=info_parts infoByte
 have htk:=fun k=>total_take ps k
 have Htk:=qh htk;clear htk
 go_enter Tryz.func156,Tryz.ntmps156
 go_wp2_with fail
 go_loopg [3,11] ps.length (fun g n i wx=>w=wx∧ ∃k m:Nat,g=ps.length - k∧k≤ps.length∧i= .int .i64 (k:Int)∧n= .int .i64 (m:Int)∧m≤140737488355328∧Hid (m=total (ps.take k)))
 case atStart=>exact⟨rfl,0,0,rfl,by omega,rfl,rfl,by omega,qh rfl⟩
 case round=>
  obtain⟨rfl,k,m,hgk,hk,rfl,rfl,hmb,hmt⟩:=hrel
  have Hgk:=qh hgk;clear hgk
  by_cases hlt:k < ps.length
  · have hpk:ps[k]? =some ps[k]:=List.getElem?_eq_getElem hlt
    generalize ps[k]=p at hpk
    obtain⟨bb,off,rfl,hc⟩:=hp.2 (by intro e;simp [e]at hlt)
    have c1:w.cell? ⟨bb,off+k,none⟩=some (.slice p.A p.zs.length p.cap):=hc k p hpk
    have hsum:m+p.zs.length≤140737488355328:=by
     have h1:=Htk.out (k+1)
     rw [total_snoc ps k p hpk]at h1
     have:=hmt.out;omega
    have Hpk:=qh hpk
    clear hpk hc
    have hneg: ¬((m:Int)+(p.zs.length:Int) < 0):=by omega
    go_wp2_with fail
    go_roundg (ps.length - (k+1))
    case measure=>rw [Hgk.out];omega
    case rel=>exact⟨rfl,k+1,m+p.zs.length,rfl,by omega,by go_num,by go_num,hsum,qh (by rw [total_snoc ps k p Hpk.out,hmt.out])⟩
  · obtain rfl:k=ps.length:=by omega
    rw [List.take_length]at hmt
    go_wp2_with fail
    refine(grow_any w m hmb).mono ?_
    rintro e w1 ⟨v,rfl,hown,hb⟩
    have Hp:=qh hp
    clear hp
    obtain⟨X,cap,rfl,_⟩:=own_slice hown
    go_wp2_with fail
    go_loopg [6,27] ps.length (fun g v i wx=> ∃k:Nat,g=ps.length - k∧k≤ps.length∧i= .int .i64 (k:Int)∧wx.ownsRow w.heap.size 5 1 v (total (ps.take k)) (u8s (bytesOf (ps.take k)))∧Below w.heap.size w wx)
    case atStart=>exact⟨0,rfl,by omega,rfl,by simpa [total,bytesOf,u8s] using hown,hb⟩
    case round=>
     obtain⟨k,hgk,hk2,rfl,hown2,hb2⟩:=hrel
     have Hgk2:=qh hgk;clear hgk
     by_cases hlt:k < ps.length
     · have hpk:ps[k]? =some ps[k]:=List.getElem?_eq_getElem hlt
       generalize ps[k]=p at hpk
       have hp2:=Hp.out.below hb2
       obtain⟨bb,off,rfl,hc⟩:=hp2.2 (by intro e;simp [e]at hlt)
       have c1:wr.cell? ⟨bb,off+k,none⟩=some (.slice p.A p.zs.length p.cap):=hc k p hpk
       obtain⟨hok,hmem⟩:=parts_one hp2 k p hpk
       have hsn:=hs p hmem
       have hsum:total (ps.take k)+p.zs.length≤140737488355328:=by
        have h1:=Htk.out (k+1)
        rw [total_snoc ps k p hpk]at h1
        omega
       obtain⟨pA,pz,pc⟩:=p
       simp only at c1 hok hsn hsum
       cases pA with
       | none=>exact absurd rfl hsn
       | some ad=>
         have hsrc: ∀j u,(u8s pz)[j]? =some u→wr.cell? (ad.add j)=some u:=fun j u hj=>by
          have hne:pz≠ []:=by intro e;subst e;simp [u8s]at hj
          obtain⟨b,o,e,hc'⟩:=hok.1.2 hne
          obtain rfl:ad=⟨b,o,none⟩:=by simpa using e
          have h1:=src_cells pz b o wr (.cells #[] 0) hc' j u hj
          rwa [World.cell?_alloc_lt _ _ _ (by
           have h2:=World.block_lt_of_cell? _ _ (hc' 0 (List.length_pos_iff.2 hne))
           unfold Addr.add;split<;>simpa using h2)]at h1
         have Hsrc:=qh hsrc
         have Hpk:=qh hpk
         have hszb:=hb2.size
         clear hsrc hpk hc hp2 hok hmem hsn
         go_wp2_with (at_builtin;refine wpList_append_own _ rfl _ _ 28 rfl w.heap.size 5 i0 (.int .u8 0) 1 1 Tryz.underlying28 hi hz0 hz1 hz2 rfl (by decide) _ _ _ rfl hown2 ad pz.length pc (u8s pz) rfl ?c1 ?c2 ?c3 ?c4 ?c5 ?c6 ?_)
         case c1=>rw [u8s_len,Nat.mul_one]
         case c2=>exact Hsrc.out
         case c3=>exact u8s_one pz
         case c4=>unfold maxLen;omega
         case c5=>omega
         case c6=>omega
         intro v' w2 hown3 hgrow3 _
         have hb3:=hb2.grown hgrow3 hszb (fun j e=>(hown2.lt j e).1)
         go_wp2_with fail
         go_roundg (ps.length - (k+1))
         case measure=>rw [Hgk2.out];omega
         case rel=>exact⟨k+1,rfl,by omega,by go_num,own_same hown3 (by rw [total_snoc ps k _ Hpk.out]) (by rw [bytesOf_snoc ps k _ Hpk.out,u8s_app]),hb3⟩
     · obtain rfl:k=ps.length:=by omega
       rw [List.take_length]at hown2
       go_wp2_with fail
       go_ret
       exact⟨_,rfl,hown2,hb2⟩
open Go.RowKit
theorem infoRows :(Tryz.prog.info? 28).map (fun i=>(i.zero,i.size,i.bytes))=some (some (.slice none 0 0),1,24):=by kernel_rfl
theorem parts_own {w:World} {B n cap:Nat} {X:Option Addr} {qs:List Part} (h:w.ownsRow B 28 1 (.slice X n cap) n (qs.map Part.val)) (hq: ∀q∈qs,q.ok w):PartsAt w X qs:=by
 refine⟨hq,fun hne=> ?_⟩
 have hl:qs.length=n:=by have:=h.1;simpa using this
 have hn:0 < n:=by rw [← hl];exact List.length_pos_iff.2 hne
 obtain⟨g,c,e,_⟩:=own_form h hn
 obtain⟨rfl,rfl⟩:X=some ⟨g,0,none⟩∧cap=c:=by simpa using e
 refine⟨g,0,rfl,fun i p hp=> ?_⟩
 have hi:i < qs.length:=(List.getElem?_eq_some_iff.1 hp).1
 rw [Nat.zero_add,h.cellAt i (by omega),List.getElem?_map,hp];rfl
theorem chain_len {w:World} {S:Nat→Prop} : ∀ {p:Option Addr} {l:List (List Int)},Chain w S p l→l.length≤l.reverse.flatten.length
 | _,[],_=>Nat.zero_le _
 | _,zs::l,⟨_,_,_,_,_,_,_,hn,_,_,_,_,h⟩=>by
   have h1:=chain_len h
   have h2:0 < zs.length:=List.length_pos_iff.2 hn
   simp only [List.length_cons,List.reverse_cons,List.flatten_append,List.length_append,List.flatten_cons,List.flatten_nil,List.length_nil]
   omega
theorem bytesOf_flat (qs:List Part):bytesOf qs=(qs.map Part.zs).flatten:=by unfold bytesOf;rw [List.flatMap_def]
theorem wbytes_some (w:World) (S:Nat→Prop) (g:Nat) (bs:List Int) (h:WrAt w S g (some bs)) (hl:bs.length≤1000000):
 Calls Tryz.prog 132 #[.pointer (some ⟨g,0,none⟩)] w fun e w'=> ∃v,e= .returned (.tuple #[v,.bool true])∧w'.ownsRow w.heap.size 5 1 v bs.length (u8s bs)∧Below w.heap.size w w':=by
 obtain⟨i0,hi,hz0,hz1,hz2⟩:=info_parts infoRows
 obtain⟨p,l,hb,hch,hbs⟩:=h.cells
 have hll:=chain_len hch
 rw [← hbs]at hll
 have c0:w.cell? ⟨g,0,none⟩=some (.pointer p):=hb.cell 0
 have Hbs:=qh hbs
 have Hch:=qh hch
 clear hbs hch h
 go_enter Tryz.func132,Tryz.ntmps132
 go_wp2_with fail
 refine(whole_is w g p false hb).mono ?_
 rintro e w' ⟨rfl,rfl⟩
 clear hb
 go_wp2_with fail
 go_loopg [4,5] l.length (fun gg v q wx=> ∃(A:Option Addr) (todo:List (List Int)) (qs:List Part),gg=todo.length∧q= .pointer A∧Chain w S A todo∧wx.ownsRow w.heap.size 28 1 v qs.length (qs.map Part.val)∧Hid (qs.map Part.zs++todo=l)∧Hid (∀q∈qs,q.ok w∧q.A≠none)∧Below w.heap.size w wx)
 case atStart=>exact⟨p,l,[],rfl,rfl,Hch.out,World.ownsRow_nil _ _ _ _,qh rfl,qh (fun q hq=>by cases hq),Below.refl _ _⟩
 case round=>
  obtain⟨A,todo,qs,hgk,rfl,hc,hown,hsum,hok,hb⟩:=hrel
  cases todo with
  | nil=>
    obtain rfl:A=none:=hc
    have hql:qs.length≤1000000:=by
     have:=congrArg List.length hsum.out
     simp only [List.length_append,List.length_map,List.length_nil]at this
     omega
    have hbq:bytesOf qs.reverse=bs:=by
     rw [bytesOf_flat,List.map_reverse,Hbs.out, ← hsum.out,List.append_nil]
    have htq:total qs.reverse=bs.length:=by rw [← bytesOf_len,hbq]
    have Hbq:=qh (And.intro hbq htq)
    have Hown:=qh hown
    clear hbq htq hgk
    go_wp2_with fail
    refine(reverse_any wr w.heap.size qs.length u4 (qs.map Part.val) Hown.out (by omega) (fun x hx=>by
     obtain⟨q,_,rfl⟩:=List.mem_map.1 hx
     exact⟨_,_,_,rfl⟩)).mono ?_
    rintro e w4 ⟨rfl,hown4,hgrow4⟩
    have hb4:Below w.heap.size w w4:=hb.grown hgrow4 hb.size (fun k e=>(Hown.out.lt k e).1)
    rw [← List.map_reverse]at hown4
    obtain⟨X,cap,rfl,_⟩:=own_slice hown4
    have hparts:=parts_own (qs:=qs.reverse) hown4 (fun q hq=>((hok.out q (List.mem_reverse.1 hq)).1).below hb4)
    have HC:=qh (concat_any w4 qs.reverse X cap hparts (by rw [List.length_reverse];omega) (by rw [Hbq.out.2];omega) (fun q hq=>(hok.out q (List.mem_reverse.1 hq)).2))
    rw [List.length_reverse]at HC
    clear hparts hown4
    go_wp2_with fail
    refine HC.out.mono ?_
    rintro e w5 ⟨v,rfl,hown5,hb5⟩
    have hs4:=hb4.size
    have hown6:=own_same (m:=bs.length) (ys:=u8s bs) hown5 Hbq.out.2 (by rw [Hbq.out.1])
    have hown7:=own_mono hown6 hs4
    have hb6:=hb4.trans (hb5.mono hs4)
    clear hown5 hown6
    go_wp2_with fail
    go_ret2
    exact⟨_,rfl,hown7,hb6⟩
  | cons zs rest=>
    obtain⟨gp,ahead,x,cap,rfl,hS1,hS2,hn,hcap,hcm,hB,hz,hrest⟩:=hc
    have hqn:qs.length+1≤1000000:=by
     have:=congrArg List.length hsum.out
     simp only [List.length_append,List.length_map,List.length_cons]at this
     omega
    have hBx:=hB.below hb hB.lt
    have d0:wr.cell? ⟨gp,0,none⟩=some (.pointer ahead):=hBx.cell 0
    have d1:wr.cell? ⟨gp,1,none⟩=some (.slice (some ⟨x,0,none⟩) zs.length cap):=hBx.cell 1
    have Hz:=qh hz
    have Hgk:=qh hgk
    have Hn:=qh hn
    have Hrest:=qh hrest
    have hszb:=hb.size
    have HB:=qh hB
    clear hz hgk hn hrest hB hBx
    go_wp2_with (at_builtin;refine wpList_append_own _ rfl _ _ 160 rfl w.heap.size 28 i0 (.slice none 0 0) 1 24 Tryz.underlying160 hi hz0 hz1 hz2 rfl (by decide) _ _ _ rfl (hown.alloc _) ⟨wr.heap.size,0,none⟩ 1 1 [.slice (some ⟨x,0,none⟩) zs.length cap] rfl rfl (cell_one_new _ _ _) ?c3 ?c4 ?c5 ?c6 ?_)
    case c3=>intro u hu;rw [List.mem_singleton.1 hu];rfl
    case c4=>unfold maxLen;omega
    case c5=>omega
    case c6=>simp;omega
    intro v3 w3 hown3 hgrow3 _
    have hb3:=(hb.alloc hszb (.cells #[.slice (some ⟨x,0,none⟩) zs.length cap] 28)).grown hgrow3 (by simp;omega) (fun j e=>(hown.lt j e).1)
    have d2:w3.cell? ⟨gp,0,none⟩=some (.pointer ahead):=(HB.out.below hb3 HB.out.lt).cell 0
    clear d0 d1
    go_wp2_with fail
    go_roundg rest.length
    case measure=>rw [Hgk.out];simp
    case rel=>exact⟨ahead,rest,qs++ [⟨some ⟨x,0,none⟩,zs,cap⟩],rfl,rfl,Hrest.out,own_same hown3 (by simp) (by simp [Part.val]),qh (by rw [List.map_append,List.append_assoc];exact hsum.out),qh (fun q hq=>by
     rcases List.mem_append.1 hq with h | h
     · exact hok.out q h
     · obtain rfl:=List.mem_singleton.1 h
       exact⟨⟨Hz.out,hcap,hcm⟩,by simp⟩),hb3⟩
end Go.Proofs.YtpaikolnampcfaaGreatDoor
