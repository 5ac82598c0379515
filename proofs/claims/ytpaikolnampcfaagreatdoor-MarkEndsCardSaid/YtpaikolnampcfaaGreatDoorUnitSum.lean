/- The sum of a block: the package's. -/
import Derived.Test.YtpaikolnampcfaaGreatDoorMixSum
import Derived.Test.YtpaikolnampcfaaGreatDoorMarkV
namespace Go.Proofs.YtpaikolnampcfaaGreatDoor
set_option maxRecDepth 100000
set_option maxHeartbeats 1000000
open Go.RowKit
theorem cut_low (X:Option Addr) (n k cap:Nat) (w:World) (h1:k≤n) (h2:n≤cap):(Instr.slice 28 (.slice X n cap) none (some (.int .i64 (k:Int))) none).run Tryz.prog w= .ok (.slice X k cap) w:=by
 have hs:(sizeOf (Tryz.prog.elem 28)).run Tryz.prog w= .ok 1 w:=by kernel_rfl
 rw [run_slice_h w 28 X n cap (by kernel_rfl) .i64 k (by omega) (by omega),hs]
 have ha:Option.map (fun x:Addr=>x.add 0) X=X:=by cases X<;>simp [Addr.add]
 simp [Result.andThen,sliced,ha]
theorem block_parts {w:World} {A:Option Addr} {b:List Int} {c g:Nat} (hb:BytesAt w A b) (hl:b.length=256) (hc:256≤c) (hm:c≤9223372036854775807)
 (h0:w.cell? ⟨g,0,none⟩=some (.slice (cutAt A c 36) 220 (c - 36))) (h1:w.cell? ⟨g,1,none⟩=some (.slice A 28 c)):PartsAt w (some ⟨g,0,none⟩) [⟨cutAt A c 36,b.drop 36,c - 36⟩,⟨A,b.take 28,c⟩]:=by
 have l36:(b.drop 36).length=220:=by rw [List.length_drop,hl]
 have l28:(b.take 28).length=28:=by rw [List.length_take,hl];rfl
 refine⟨fun x hx=> ?_,fun _=>⟨g,0,rfl,fun i x hx=> ?_⟩⟩
 · simp only [List.mem_cons,List.not_mem_nil,or_false]at hx
   rcases hx with rfl | rfl
   · exact⟨cut_reads hb (by omega),by show(b.drop 36).length≤c - 36;omega,by show c - 36≤_;omega⟩
   · exact⟨front_reads hb,by show(b.take 28).length≤c;omega,hm⟩
 · match i,hx with
   | 0,hx=>
     obtain rfl:(⟨cutAt A c 36,b.drop 36,c - 36⟩:Part)=x:=by simpa using hx
     show _=some (Value.slice (cutAt A c 36) (b.drop 36).length (c - 36))
     rw [l36];exact h0
   | 1,hx=>
     obtain rfl:(⟨A,b.take 28,c⟩:Part)=x:=by simpa using hx
     show _=some (Value.slice A (b.take 28).length c)
     rw [l28];exact h1
   | i+2,hx=>simp at hx
theorem block_row (A:Option Addr) (b:List Int) (c:Nat):bytesOf [⟨cutAt A c 36,b.drop 36,c - 36⟩,⟨A,b.take 28,c⟩]=unitRow b:=by unfold bytesOf unitRow;simp
theorem usumRow (w:World) (A:Option Addr) (b:List Int) (c:Nat) (hb:BytesAt w A b) (hl:b.length=256) (hc:256≤c) (hm:c≤9223372036854775807):
 Calls Tryz.prog 167 #[.slice (some ⟨w.heap.size,0,none⟩) 2 2] (w.alloc (.cells #[.slice (cutAt A c 36) 220 (c - 36),.slice A 28 c] 28)) fun e w'=>e= .returned (.int .u32 ((Mx.sum (unitRow b)).toNat:Int))∧Below w.heap.size w w':=by
 have hbn:=below_new w (.cells #[.slice (cutAt A c 36) 220 (c - 36),.slice A 28 c] 28)
 obtain⟨r0,r1⟩:=row2_cells w (.slice (cutAt A c 36) 220 (c - 36)) (.slice A 28 c) 28
 have HS:=sum_any _ _ 2 _ (block_parts (hb.below hbn) hl hc hm r0 r1) (by simp)
 rw [block_row]at HS
 refine HS.mono ?_
 rintro e w' ⟨rfl,hb2⟩
 exact⟨rfl,hbn.trans (hb2.mono hbn.size)⟩
theorem usum_any (w:World) (A:Option Addr) (b:List Int) (c:Nat) (hb:BytesAt w A b) (hl:b.length=256) (hc:256≤c) (hm:c≤9223372036854775807):
 Calls Tryz.prog 159 #[.slice A 256 c] w fun e w'=>e= .returned (.int .u32 ((Mx.sum (unitRow b)).toNat:Int))∧Below w.heap.size w w':=by
 have h1: ∀w,(Instr.slice 28 (.slice A 256 c) (some (.int .i64 36)) none none).run Tryz.prog w= .ok (.slice (cutAt A c 36) 220 (c - 36)) w:=fun w=>cut_run1 A 256 36 c w (by decide)
 have h2: ∀w,(Instr.slice 28 (.slice A 256 c) none (some (.int .i64 28)) none).run Tryz.prog w= .ok (.slice A 28 c) w:=fun w=>cut_low A 256 28 c w (by decide) hc
 have HS:Hid (Calls Tryz.prog 167 #[.slice (some ⟨w.heap.size,0,none⟩) 2 2] (w.alloc (.cells #[.slice (cutAt A c 36) 220 (c - 36),.slice A 28 c] 28)).drew fun e w'=>e= .returned (.int .u32 ((Mx.sum (unitRow b)).toNat:Int))∧Below w.heap.size w.drew w'):=qh (usumRow w.drew A b c hb hl hc hm)
 clear hb hl
 go_enter Tryz.func159,Tryz.ntmps159
 go_wp2_with fail
 go_region_with ((go_at_call 167;refine HS.out.mono ?_;rintro e w1 ⟨rfl,hb1⟩;have hb2:Below w.heap.size w w1:=undrew hb1))
 all_goals
  go_wp2_with fail
  go_ret
  exact⟨rfl,hb2⟩
end Go.Proofs.YtpaikolnampcfaaGreatDoor
