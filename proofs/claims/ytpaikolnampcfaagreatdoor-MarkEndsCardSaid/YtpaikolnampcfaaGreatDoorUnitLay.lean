/- When a block is one of a unit, part by part: plain mathematics. -/
import Derived.Test.YtpaikolnampcfaaGreatDoorMarkV
import Derived.Laws.CopyOwn
namespace Go.Proofs.YtpaikolnampcfaaGreatDoor
open Mx
theorem take_get (l:List Int) (n i:Nat):(l.take n).getD i 0=if i < n then l.getD i 0 else 0:=by
 rw [List.getD_eq_getElem?_getD,List.getElem?_take]
 split
 · rw [List.getD_eq_getElem?_getD]
 · rfl
theorem none_get {l:List Int} {i:Nat} (h:l.length≤i):l.getD i 0=0:=by rw [List.getD_eq_getElem?_getD,List.getElem?_eq_none h];rfl
theorem app_get (l r:List Int) (i:Nat):(l++r).getD i 0=if i < l.length then l.getD i 0 else r.getD (i - l.length) 0:=by
 rw [List.getD_eq_getElem?_getD]
 split
 · next h=>rw [List.getElem?_append_left h,List.getD_eq_getElem?_getD]
 · next h=>rw [List.getElem?_append_right (by omega),List.getD_eq_getElem?_getD]
theorem zero_get (n i:Nat):(List.replicate n (0:Int)).getD i 0=0:=by
 rw [List.getD_eq_getElem?_getD,List.getElem?_replicate];split<;>rfl
theorem pad_get (n:Nat) (bs:List Int) (i:Nat):(padTo n bs).getD i 0=bs.getD i 0:=by
 unfold padTo
 rw [app_get]
 split
 · rfl
 · next h=>rw [zero_get,none_get (by omega)]
theorem ext_get {l r:List Int} (hl:l.length=r.length) (h: ∀i,i < l.length→l.getD i 0=r.getD i 0):l=r:=by
 apply List.ext_getElem hl
 intro i h1 h2
 have:=h i h1
 rw [List.getD_eq_getElem?_getD,List.getD_eq_getElem?_getD,List.getElem?_eq_getElem h1,List.getElem?_eq_getElem h2]at this
 exact this
def Noughts (b:List Int) (i j:Nat):Prop:= ∀q,i≤q→q < j→b.getD q 0=0
theorem seal_parts {u:UnitV} {b:List Int} (h1:u.front=b.take 28) (h2:u.sumB=(b.drop 28).take 4) (h3: [0,0,0,0]=(b.drop 32).take 4) (h4:u.rest=b.drop 36):sealB u=b:=by
 unfold sealB
 rw [h1,h2,h3,h4,show b.drop 36=(b.drop 32).drop 4 by rw [List.drop_drop],List.take_append_drop,show b.drop 32=(b.drop 28).drop 4 by rw [List.drop_drop],List.take_append_drop,List.take_append_drop]
section
variable {b : List Int}
theorem unitOf_len (hl:b.length=256):(unitOf b).body.length=min (b.getD 7 0).toNat 239:=by
 show(List.take _ _).length=_
 rw [List.length_take,List.length_append,List.length_take,List.length_drop,List.length_take,List.length_drop,hl];omega
theorem unitOf_get (hl:b.length=256) (i:Nat):(unitOf b).body.getD i 0=if i < (b.getD 7 0).toNat then(if i < 20 then b.getD (8+i) 0 else if i < 239 then b.getD (16+i) 0 else 0)else 0:=by
 show(List.take _ _).getD i 0=_
 have h20:((b.drop 8).take 20).length=20:=by rw [List.length_take,List.length_drop,hl];rfl
 rw [take_get,app_get,h20,take_get, ← getD_of_drop]
 by_cases h:i < 20
 · rw [if_pos h,if_pos h,if_pos h]
 · rw [if_neg h,if_neg h,take_get, ← getD_of_drop,show 36+(i - 20)=16+i by omega]
   by_cases h2:i < 239
   · rw [if_pos h2,if_pos (show i - 20 < 219 by omega)]
   · rw [if_neg h2,if_neg (show ¬i - 20 < 219 by omega)]
theorem front_get8 (u:UnitV) (i:Nat) (hi:i < 20):u.front.getD (8+i) 0=u.body.getD i 0:=by
 have h:u.front=(u.kind::(le 6 u.num++ [(u.body.length:Int)]))++padTo 20 (u.body.take 20):=by unfold UnitV.front;simp
 have h8:(u.kind::(le 6 u.num++ [(u.body.length:Int)])).length=8:=by rw [List.length_cons,List.length_append,le_len];rfl
 rw [h,app_get,h8,if_neg (by omega),show 8+i - 8=i by omega,pad_get,take_get,if_pos hi]
theorem rest_get (u:UnitV) (hu:u.body.length≤239) (i:Nat):u.rest.getD i 0=if i < 219 then u.body.getD (20+i) 0 else if i=219 then(if 20 < u.body.length then 1 else 0)else 0:=by
 have hp:(padTo 219 (u.body.drop 20)).length=219:=padTo_len (by rw [List.length_drop];omega)
 unfold UnitV.rest
 rw [app_get,hp]
 by_cases h:i < 219
 · rw [if_pos h,if_pos h,pad_get, ← getD_of_drop]
 · rw [if_neg h,if_neg h]
   by_cases h2:i=219
   · rw [if_pos h2,h2];rfl
   · rw [if_neg h2,none_get (by rw [List.length_singleton];omega)]
def lackOk (b:List Int) (many:Nat):Prop:=many≤239∧(many≤20→Noughts b (8+many) 28)∧Noughts b 32 36∧Noughts b (36+(many - 20)) 255∧b.getD 255 0=if 20 < many then 1 else 0
theorem lack_of (hl:b.length=256) (h:sealB (unitOf b)=b):lackOk b (b.getD 7 0).toNat:=by
 have hlen:=unitOf_len hl
 have h7:=seal_len7 (unitOf b)
 rw [h]at h7
 have hm:(b.getD 7 0).toNat=(unitOf b).body.length:=by omega
 rw [hm]
 rw [hm]at hlen
 generalize unitOf b=u at *
 have hu:u.body.length≤239:=by omega
 have hr: ∀i,b.getD (36+i) 0=u.rest.getD i 0:=fun i=>by rw [getD_of_drop, ← h,seal_drop36]
 refine⟨hu,fun h20 q h1 h2=> ?_,fun q h1 h2=> ?_,fun q h1 h2=> ?_,?_⟩
 · obtain⟨i,rfl⟩: ∃i,q=8+i:=⟨q - 8,by omega⟩
   have e:b.getD (8+i) 0=(b.take 28).getD (8+i) 0:=by rw [take_get,if_pos h2]
   rw [e, ← h,seal_take28,front_get8 u i (by omega),none_get (by omega)]
 · have:=seal_gap u
   rw [h]at this
   exact this q h1 h2
 · obtain⟨i,rfl⟩: ∃i,q=36+i:=⟨q - 36,by omega⟩
   rw [hr,rest_get u hu,if_pos (by omega),none_get (by omega)]
 · rw [show (255:Nat)=36+219 from rfl,hr,rest_get u hu,if_neg (by omega),if_pos rfl]
theorem lack_seal (hl:b.length=256) (hb: ∀z∈b,0≤z∧z < 256) (h0:0≤b.getD 7 0) (hf:fitsB b) (h:lackOk b (b.getD 7 0).toNat):sealB (unitOf b)=b:=by
 obtain⟨hm,hs,hg,hr,he⟩:=h
 have hlen:=unitOf_len hl
 rw [Nat.min_eq_left hm]at hlen
 have hget:=unitOf_get hl
 have h1:(unitOf b).front=b.take 28:=by
  refine ext_get (by rw [front_len,List.length_take,hl];rfl) (fun i hi=> ?_)
  rw [front_len]at hi
  rw [take_get,if_pos hi]
  by_cases h8:i < 8
  · have h6:((b.drop 1).take 6).length=6:=by rw [List.length_take,List.length_drop,hl];rfl
    have hbd: ∀z∈(b.drop 1).take 6,0≤z∧z < 256:=fun z hz=>hb z (List.mem_of_mem_drop (List.mem_of_mem_take hz))
    have hle:=le_unle _ hbd
    rw [h6]at hle
    have hfr:(unitOf b).front=b.getD 0 0::((b.drop 1).take 6++((unitOf b).body.length:Int)::padTo 20 ((unitOf b).body.take 20)):=by
     unfold UnitV.front
     show b.getD 0 0::(le 6 (unle ((b.drop 1).take 6))++_)=_
     rw [hle]
    rw [hfr]
    match i with
    | 0=>rfl
    | i+1=>
      rw [List.getD_cons_succ,app_get,h6]
      by_cases hi6:i < 6
      · rw [if_pos hi6,take_get,if_pos hi6, ← getD_of_drop,Nat.add_comm 1 i]
      · obtain rfl:i=6:=by omega
        rw [if_neg hi6]
        show((unitOf b).body.length:Int)=b.getD 7 0
        rw [hlen];omega
  · obtain⟨j,rfl⟩: ∃j,i=8+j:=⟨i - 8,by omega⟩
    rw [front_get8 _ j (by omega),hget]
    by_cases hj:j < (b.getD 7 0).toNat
    · rw [if_pos hj,if_pos (by omega)]
    · rw [if_neg hj,hs (by omega) (8+j) (by omega) (by omega)]
 have h4:(unitOf b).rest=b.drop 36:=by
  refine ext_get (by rw [rest_len (by omega),List.length_drop,hl]) (fun i hi=> ?_)
  rw [rest_len (by omega)]at hi
  rw [rest_get _ (by omega), ← getD_of_drop]
  by_cases hi2:i < 219
  · rw [if_pos hi2,hget]
    by_cases hj:20+i < (b.getD 7 0).toNat
    · rw [if_pos hj,if_neg (by omega),if_pos (by omega),show 16+(20+i)=36+i by omega]
    · rw [if_neg hj,hr (36+i) (by omega) (by omega)]
  · obtain rfl:i=219:=by omega
    rw [if_neg hi2,if_pos rfl,show 36+219=255 from rfl,he,hlen]
 have h3: [0,0,0,0]=(b.drop 32).take 4:=by
  refine ext_get (by rw [List.length_take,List.length_drop,hl];rfl) (fun i hi=> ?_)
  have hi:i < 4:=hi
  rw [take_get,if_pos hi, ← getD_of_drop,hg (32+i) (by omega) (by omega)]
  exact zero_get 4 i
 refine seal_parts h1 ?_ h3 h4
 unfold UnitV.sumB
 unfold fitsB unitRow at hf
 rw [h1,h4, ← hf]
 have h4l:((b.drop 28).take 4).length=4:=by rw [List.length_take,List.length_drop,hl];rfl
 have:=le_unle ((b.drop 28).take 4) (fun z hz=>hb z (List.mem_of_mem_drop (List.mem_of_mem_take hz)))
 rw [h4l]at this
 exact this
theorem unitOf_body (hl:b.length=256) (hm:(b.getD 7 0).toNat≤239):(unitOf b).body=((b.drop 8).take (min (b.getD 7 0).toNat 20))++((b.drop 36).take ((b.getD 7 0).toNat - 20)):=by
 have hlen:=unitOf_len hl
 refine ext_get (by rw [hlen,List.length_append,List.length_take,List.length_take,List.length_drop,List.length_drop,hl];omega) (fun i hi=> ?_)
 rw [hlen]at hi
 have h20:((b.drop 8).take (min (b.getD 7 0).toNat 20)).length=min (b.getD 7 0).toNat 20:=by rw [List.length_take,List.length_drop,hl];omega
 rw [unitOf_get hl,if_pos (by omega),app_get,h20,take_get,take_get, ← getD_of_drop, ← getD_of_drop]
 by_cases h:i < 20
 · rw [if_pos h,if_pos (by omega),if_pos (by omega)]
 · rw [if_neg h,if_pos (by omega),if_neg (by omega),if_pos (by omega)]
   congr 1;omega
end
theorem openB_shape {b:List Int} (h:b.length≠256∨b.getD 0 0 < 1∨8 < b.getD 0 0):openB b=(noUnit,4):=by unfold openB;rw [if_pos h]
theorem openB_sum {b:List Int} (h: ¬(b.length≠256∨b.getD 0 0 < 1∨8 < b.getD 0 0)) (hf: ¬fitsB b):openB b=(noUnit,5):=by unfold openB;rw [if_neg h,if_pos hf]
theorem openB_num {b:List Int} (h: ¬(b.length≠256∨b.getD 0 0 < 1∨8 < b.getD 0 0)) (hf:fitsB b) (hn:1099511627776 < unle ((b.drop 1).take 6)):openB b=(noUnit,4):=by
 unfold openB
 rw [if_neg h,if_neg (fun hn=>hn hf),if_neg]
 rintro⟨h1,_⟩
 have:unle ((b.drop 1).take 6)≤1099511627776:=h1.2.1.2
 omega
theorem openB_lack {b:List Int} (h: ¬(b.length≠256∨b.getD 0 0 < 1∨8 < b.getD 0 0)) (hf:fitsB b) (hn: ¬lackOk b (b.getD 7 0).toNat):openB b=(noUnit,4):=by
 unfold openB
 rw [if_neg h,if_neg (fun hn=>hn hf),if_neg]
 rintro⟨_,h2⟩
 exact hn (lack_of (by omega) h2)
theorem openB_yes {b:List Int} (h: ¬(b.length≠256∨b.getD 0 0 < 1∨8 < b.getD 0 0)) (hb: ∀z∈b,0≤z∧z < 256) (hf:fitsB b) (h7:0≤b.getD 7 0) (hn:unle ((b.drop 1).take 6)≤1099511627776) (hk:lackOk b (b.getD 7 0).toNat):openB b=(unitOf b,0):=by
 have hl:b.length=256:=by omega
 unfold openB
 rw [if_neg h,if_neg (fun hn=>hn hf),if_pos]
 refine⟨⟨?_,⟨?_,hn⟩,?_⟩,lack_seal hl hb h7 hf hk⟩
 · show 1≤b.getD 0 0∧b.getD 0 0≤8
   omega
 · exact(unle_bd _ (fun z hz=>hb z (List.mem_of_mem_drop (List.mem_of_mem_take hz)))).1
 · rw [unitOf_len hl];omega
open Mx
theorem splice_len {l ys:List Int} {off:Nat} (h:off+ys.length≤l.length):(splice l off ys).length=l.length:=by
 unfold splice
 rw [List.length_append,List.length_append,List.length_take,List.length_drop];omega
theorem splice_get {l ys:List Int} {off:Nat} (h:off+ys.length≤l.length) (i:Nat):(splice l off ys).getD i 0=if off≤i∧i < off+ys.length then ys.getD (i - off) 0 else l.getD i 0:=by
 unfold splice
 have ht:(l.take off).length=off:=by rw [List.length_take];omega
 rw [app_get,ht]
 by_cases h1:i < off
 · rw [if_pos h1,if_neg (by omega),take_get,if_pos h1]
 · rw [if_neg h1,app_get]
   by_cases h2:i - off < ys.length
   · rw [if_pos h2,if_pos (by omega)]
   · rw [if_neg h2,if_neg (by omega), ← getD_of_drop];congr 1;omega
theorem set_get (l:List Int) (k i:Nat) (z:Int) (h:k < l.length):(l.set k z).getD i 0=if i=k then z else l.getD i 0:=by
 by_cases e:i=k
 · subst e;rw [if_pos rfl,getD_set_eq l h]
 · rw [if_neg e,getD_set_ne l (fun e'=>e e'.symm)]
def layB (hd body:List Int) (e:Int):List Int:=hd++(padTo 20 (body.take 20)++([0,0,0,0,0,0,0,0]++(padTo 219 (body.drop 20)++ [e])))
section
variable {hd body : List Int} {e : Int}
theorem pad20_len (body:List Int):(padTo 20 (body.take 20)).length=20:=padTo_len (by rw [List.length_take];omega)
theorem pad219_len (h:body.length≤239):(padTo 219 (body.drop 20)).length=219:=padTo_len (by rw [List.length_drop];omega)
theorem lay_len (h8:hd.length=8) (h:body.length≤239):(layB hd body e).length=256:=by
 unfold layB
 rw [List.length_append,List.length_append,List.length_append,List.length_append,pad20_len,pad219_len h,h8];rfl
theorem lay_get (h8:hd.length=8) (h:body.length≤239) (i:Nat):(layB hd body e).getD i 0=if i < 8 then hd.getD i 0 else if i < 28 then body.getD (i - 8) 0 else if i < 36 then 0 else if i < 255 then body.getD (i - 16) 0 else if i=255 then e else 0:=by
 unfold layB
 rw [app_get,h8]
 by_cases h1:i < 8
 · rw [if_pos h1,if_pos h1]
 · rw [if_neg h1,if_neg h1,app_get,pad20_len]
   by_cases h2:i < 28
   · rw [if_pos (by omega),if_pos h2,pad_get,take_get,if_pos (by omega)]
   · rw [if_neg (by omega),if_neg h2,app_get,show [(0:Int),0,0,0,0,0,0,0].length=8 from rfl]
     by_cases h3:i < 36
     · rw [if_pos (by omega),if_pos h3]
       exact zero_get 8 _
     · rw [if_neg (by omega),if_neg h3,app_get,pad219_len h]
       by_cases h4:i < 255
       · rw [if_pos (by omega),if_pos h4,pad_get, ← getD_of_drop];congr 1;omega
       · rw [if_neg (by omega),if_neg h4]
         by_cases h5:i=255
         · subst h5;rfl
         · rw [if_neg h5,none_get (by rw [List.length_singleton];omega)]
theorem lay_head (h8:hd.length=8):splice (List.replicate 256 0) 0 hd=layB hd [] 0:=by
 have hs:0+hd.length≤(List.replicate 256 (0:Int)).length:=by rw [List.length_replicate];omega
 refine ext_get (by rw [splice_len hs,lay_len h8 (by simp),List.length_replicate]) (fun i _=> ?_)
 rw [splice_get hs,lay_get h8 (by simp),zero_get,none_get (show([]:List Int).length≤i - 8 from Nat.zero_le _),none_get (show([]:List Int).length≤i - 16 from Nat.zero_le _)]
 by_cases h1:i < 8
 · rw [if_pos (by omega),if_pos h1,Nat.sub_zero]
 · rw [if_neg (by omega),if_neg h1]
   repeat' split
   all_goals rfl
theorem lay_front (h8:hd.length=8) (h:body.length≤239):splice (layB hd [] 0) 8 (body.take 20)=layB hd (body.take 20) 0:=by
 have hl0:(layB hd [] 0).length=256:=lay_len h8 (by simp)
 have ht:(body.take 20).length≤20:=by rw [List.length_take];omega
 refine ext_get (by rw [splice_len (by omega),lay_len h8 (by simp),lay_len h8 (by omega)]) (fun i _=> ?_)
 rw [splice_get (by omega),lay_get h8 (by simp),lay_get h8 (by omega),none_get (show([]:List Int).length≤i - 8 from Nat.zero_le _),none_get (show([]:List Int).length≤i - 16 from Nat.zero_le _)]
 by_cases h1:i < 8
 · rw [if_neg (by omega),if_pos h1,if_pos h1]
 · rw [if_neg h1,if_neg h1]
   by_cases h2:i < 28
   · rw [if_pos h2,if_pos h2]
     split
     · rfl
     · rw [none_get (by omega)]
   · rw [if_neg h2,if_neg h2,if_neg (by omega)]
     by_cases h3:i < 36
     · rw [if_pos h3,if_pos h3]
     · rw [if_neg h3,if_neg h3,none_get (show(body.take 20).length≤i - 16 by omega)]
theorem lay_back (h8:hd.length=8) (h:body.length≤239):splice (layB hd (body.take 20) 0) 36 (body.drop 20)=layB hd body 0:=by
 have ht:(body.take 20).length≤20:=by rw [List.length_take];omega
 have hl0:(layB hd (body.take 20) 0).length=256:=lay_len h8 (by omega)
 have hdl:(body.drop 20).length≤219:=by rw [List.length_drop];omega
 refine ext_get (by rw [splice_len (by omega),hl0,lay_len h8 h]) (fun i _=> ?_)
 rw [splice_get (by omega),lay_get h8 (by omega),lay_get h8 h]
 by_cases h1:i < 8
 · rw [if_neg (by omega),if_pos h1,if_pos h1]
 · rw [if_neg h1,if_neg h1]
   by_cases h2:i < 28
   · rw [if_neg (by omega),if_pos h2,if_pos h2,take_get,if_pos (by omega)]
   · rw [if_neg h2,if_neg h2]
     by_cases h3:i < 36
     · rw [if_neg (by omega),if_pos h3,if_pos h3]
     · rw [if_neg h3,if_neg h3,none_get (show(body.take 20).length≤i - 16 by omega)]
       by_cases h4:i < 255
       · rw [if_pos h4,if_pos h4]
         split
         · rw [← getD_of_drop];congr 1;omega
         · next hn=>rw [List.length_drop]at hn;rw [none_get (by omega)]
       · rw [if_neg h4,if_neg h4,if_neg (by omega)]
theorem lay_set (h8:hd.length=8) (h:body.length≤239) (k:Nat) (hk:k < body.length):(layB hd (body.take k) 0).set (if k < 20 then 8+k else 16+k) (body.getD k 0)=layB hd (body.take (k+1)) 0:=by
 have ht:(body.take k).length=k:=by rw [List.length_take];omega
 have ht1:(body.take (k+1)).length=k+1:=by rw [List.length_take];omega
 have hl0:(layB hd (body.take k) 0).length=256:=lay_len h8 (by omega)
 refine ext_get (by rw [List.length_set,hl0,lay_len h8 (by omega)]) (fun i _=> ?_)
 rw [set_get _ _ _ _ (by rw [hl0];split<;>omega),lay_get h8 (by omega),lay_get h8 (by omega),take_get,take_get,take_get,take_get]
 by_cases h1:i < 8
 · rw [if_pos h1,if_pos h1,if_neg (by split<;>omega)]
 · rw [if_neg h1,if_neg h1]
   by_cases h2:i < 28
   · rw [if_pos h2,if_pos h2]
     by_cases e:i - 8=k
     · rw [if_pos (by split<;>omega),if_pos (by omega),e]
     · rw [if_neg (by split<;>omega)]
       by_cases h5:i - 8 < k
       · rw [if_pos h5,if_pos (by omega)]
       · rw [if_neg h5,if_neg (by omega)]
   · rw [if_neg h2,if_neg h2]
     by_cases h3:i < 36
     · rw [if_pos h3,if_pos h3,if_neg (by split<;>omega)]
     · rw [if_neg h3,if_neg h3]
       by_cases h4:i < 255
       · rw [if_pos h4,if_pos h4]
         by_cases e:i - 16=k
         · rw [if_pos (by split<;>omega),if_pos (by omega),e]
         · rw [if_neg (by split<;>omega)]
           by_cases h5:i - 16 < k
           · rw [if_pos h5,if_pos (by omega)]
           · rw [if_neg h5,if_neg (by omega)]
       · rw [if_neg h4,if_neg h4,if_neg (by split<;>omega)]
theorem lay_end (h8:hd.length=8) (h:body.length≤239):(layB hd body 0).set 255 e=layB hd body e:=by
 have hl0:(layB hd body 0).length=256:=lay_len h8 h
 refine ext_get (by rw [List.length_set,hl0,lay_len h8 h]) (fun i _=> ?_)
 rw [set_get _ _ _ _ (by omega),lay_get h8 h,lay_get h8 h]
 by_cases e1:i=255
 · subst e1;rfl
 · rw [if_neg e1,if_neg e1,if_neg e1]
end
def UnitV.hd8 (u:UnitV):List Int:=u.kind::(le 6 u.num++ [(u.body.length:Int)])
theorem hd8_len (u:UnitV):u.hd8.length=8:=by unfold UnitV.hd8;rw [List.length_cons,List.length_append,le_len];rfl
def preB (u:UnitV):List Int:=layB u.hd8 u.body (if 20 < u.body.length then 1 else 0)
theorem pre_eq (u:UnitV):preB u=u.front++([0,0,0,0]++([0,0,0,0]++u.rest)):=by
 unfold preB layB UnitV.hd8 UnitV.front UnitV.rest
 simp
theorem pre_len {u:UnitV} (h:u.body.length≤239):(preB u).length=256:=lay_len (hd8_len u) h
theorem pre_row (u:UnitV):unitRow (preB u)=u.rest++u.front:=by
 have h28:(preB u).drop 28= [0,0,0,0]++([0,0,0,0]++u.rest):=by
  rw [pre_eq,List.drop_append_of_le_length (by rw [front_len];exact Nat.le_refl _),List.drop_eq_nil_of_le (by rw [front_len];exact Nat.le_refl _),List.nil_append]
 unfold unitRow
 rw [show (36:Nat)=28+8 from rfl, ← List.drop_drop,h28,pre_eq,List.take_append_of_le_length (by rw [front_len];exact Nat.le_refl _),List.take_of_length_le (by rw [front_len];exact Nat.le_refl _)]
 rfl
theorem pre_sum (u:UnitV):splice (preB u) 28 u.sumB=sealB u:=by
 unfold splice sealB
 rw [sumB_len,pre_eq,List.take_append_of_le_length (by rw [front_len];exact Nat.le_refl _),List.take_of_length_le (by rw [front_len];exact Nat.le_refl _)]
 congr 2
 rw [show 28+4=u.front.length+4 by rw [front_len], ← List.drop_drop,List.drop_left]
 rfl
theorem pre_bd {u:UnitV} (h:u.right) (hb: ∀z∈u.body,0≤z∧z < 256): ∀z∈preB u,0≤z∧z < 256:=by
 obtain⟨hk,hn,hl⟩:=h
 intro z hz
 rw [pre_eq]at hz
 unfold UnitV.front UnitV.rest at hz
 simp only [List.mem_append,List.mem_cons,List.not_mem_nil,or_false]at hz
 have hif:(0:Int)≤(if 20 < u.body.length then 1 else 0)∧(if 20 < u.body.length then(1:Int)else 0) < 256:=by split<;>omega
 rcases hz with(rfl | hz | rfl | hz) | (rfl | rfl | rfl | rfl) | (rfl | rfl | rfl | rfl) | hz | rfl
 all_goals first | omega | exact le_bd _ _ z hz | exact padTo_bd (fun y hy=>hb y (List.mem_of_mem_take hy)) z hz | exact padTo_bd (fun y hy=>hb y (List.mem_of_mem_drop hy)) z hz | exact hif
end Go.Proofs.YtpaikolnampcfaaGreatDoor
