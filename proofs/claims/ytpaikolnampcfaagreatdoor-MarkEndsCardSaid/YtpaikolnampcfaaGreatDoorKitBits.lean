/- Bytes that are owned, where they lie. -/
import Derived.Test.YtpaikolnampcfaaGreatDoorKitInts
import Derived.Test.YtpaikolnampcfaaGreatDoorChecked
import Derived.Lib.BufferRead
namespace Go.Proofs.YtpaikolnampcfaaGreatDoor
set_option maxRecDepth 100000
set_option maxHeartbeats 1000000
open Go.RowKit
theorem own_at {w:World} {B n:Nat} {v:Value} {xs:List Int} (h:w.ownsRow B 5 1 v n (u8s xs)) (hn:0 < n) (hx: ∀z∈xs,0≤z∧z < 256): ∃g cap,v= .slice (some ⟨g,0,none⟩) n cap∧n≤cap∧cap≤9223372036854775807∧B≤g∧g < w.heap.size∧BytesAt w (some ⟨g,0,none⟩) xs:=by
 obtain⟨g,cap,rfl,hB,hlt,hc,hm⟩:=own_form h hn
 exact⟨g,cap,rfl,hc,by unfold maxLen at hm;omega,hB,hlt,own_reads h hx⟩
open Go.RowKit
def u8L (bs:List Int):List UInt8:=bs.map fun z=>UInt8.ofNat z.toNat
theorem u8L_back {bs:List Int} (hb: ∀z∈bs,0≤z∧z < 256):(u8L bs).map (fun c=>(c.toNat:Int))=bs:=by
 unfold u8L
 rw [List.map_map]
 conv=>rhs;rw [← List.map_id bs]
 refine List.map_congr_left fun z hz=> ?_
 have:=hb z hz
 show((UInt8.ofNat z.toNat).toNat:Int)=z
 rw [UInt8.toNat_ofNat']
 omega
theorem u8L_inj {xs ys:List Int} (hx: ∀z∈xs,0≤z∧z < 256) (hy: ∀z∈ys,0≤z∧z < 256):u8L xs=u8L ys↔xs=ys:=
 ⟨fun h=>by rw [← u8L_back hx, ← u8L_back hy,h],fun h=>by rw [h]⟩
theorem conv_bytes {w:World} {A:Option Addr} {bs:List Int} (c:Nat) (hz:BytesAt w A bs):(convert 28 9 (.slice A bs.length c)).run Tryz.prog w= .ok (.string ⟨(u8L bs).toArray⟩) w:=by
 cases A with
 | none=>
   have hnil:bs= []:=Classical.byContradiction fun hne=>by
    obtain⟨b,off,e⟩:=hz.some_ hne
    cases e
   subst hnil
   exact Lib.run_convert_nil_bytes w _ _ _ c Tryz.underlying28 Tryz.underlying5 Tryz.underlying9
 | some a=>
   have hl:(u8L bs).length=bs.length:=by unfold u8L;rw [List.length_map]
   have h:=run_convert_bytes_back (P:=Tryz.prog) w 28 9 5 a c (u8L bs) Tryz.underlying28 Tryz.underlying5 Tryz.underlying9 (fun j hj=>by
    rw [hl]at hj
    have hne:bs≠ []:=by rintro rfl;exact absurd hj (Nat.not_lt_zero _)
    obtain⟨b,off,e,hc⟩:=hz.2 hne
    obtain rfl:=Option.some.inj e
    have hadd:(⟨b,off,none⟩:Addr).add j=⟨b,off+j,none⟩:=by unfold Addr.add;split<;>simp_all
    rw [hadd,hc j hj]
    have hb:=hz.1 bs[j] (List.getElem_mem hj)
    have hu:(u8L bs)[j]=UInt8.ofNat (bs[j]).toNat:=by simp [u8L]
    rw [hu,List.getD_eq_getElem?_getD,List.getElem?_eq_getElem hj,UInt8.toNat_ofNat']
    simp only [Option.getD_some,Option.some.injEq,Value.int.injEq,true_and]
    omega)
   rw [hl]at h
   exact h
theorem bytesEqual_any (w:World) (A B:Option Addr) (xs ys:List Int) (c d:Nat) (hx:BytesAt w A xs) (hy:BytesAt w B ys):
 Calls Tryz.prog 129 #[.slice A xs.length c,.slice B ys.length d] w fun e w'=>e= .returned (.bool (decide (xs=ys)))∧w=w':=by
 have h1:=conv_bytes c hx
 have h2:=conv_bytes d hy
 have Hs:Hid (((⟨(u8L xs).toArray⟩:ByteArray).toList==(⟨(u8L ys).toArray⟩:ByteArray).toList)=decide (xs=ys)):=qh (by
  rw [ByteArray.toList_eq,ByteArray.toList_eq,Bool.eq_iff_iff,beq_iff_eq,decide_eq_true_eq, ← u8L_inj hx.1 hy.1])
 clear hx hy
 generalize (⟨(u8L xs).toArray⟩:ByteArray)=s1 at *
 generalize (⟨(u8L ys).toArray⟩:ByteArray)=s2 at *
 go_enter Tryz.func129,Tryz.ntmps129
 go_wp2_with fail
 go_ret
 exact⟨ret_bool Hs.out,rfl⟩
open Go.RowKit
end Go.Proofs.YtpaikolnampcfaaGreatDoor
