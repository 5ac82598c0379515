/- Of nil: Read, Write. -/
import Derived.Test.YtpaikolnampcfaaGreatDoorDevWake
namespace Go.Proofs.YtpaikolnampcfaaGreatDoor
set_option maxRecDepth 100000
open Go.RowKit
section
variable {w : World} (σ : SenD)
theorem noDev_nil (w:World):NoDev w (.pointer none):= .inl rfl
theorem read_nil (hG:GlD σ w) (n:Int):
 Calls Tryz.prog 150 #[.pointer none,.int .i64 n] w fun e w'=>e= .returned (.tuple #[.slice none 0 0,.int .i64 1])∧w=w':=by
 have HT:=qh (reaches_no σ hG (.pointer none) (noDev_nil w) n)
 have HE:=qh (errno_ni σ w hG)
 unfold DErr.val errK at *
 go_enter Tryz.func150,Tryz.ntmps150
 go_wp2_with fail
 refine HT.out.mono ?_
 rintro e w' ⟨rfl,rfl⟩
 go_wp2_with fail
 refine HE.out.mono ?_
 rintro e w' ⟨rfl,rfl⟩
 go_wp2_with fail
 go_ret2
 exact⟨rfl,rfl⟩
theorem write_nil (hG:GlD σ w) (n:Int) (X:Option Addr) (m c:Nat):
 Calls Tryz.prog 58 #[.pointer none,.int .i64 n,.slice X m c] w fun e w'=>e= .returned (.int .i64 1)∧Below w.heap.size w w':=by
 have HT:=qh (fun w' (hb:Below w.heap.size w w')=>takes_no σ (hG.below hb) (.pointer none) (noDev_nil w') n (.slice X m c))
 have HE:=qh (fun w' (hb:Below w.heap.size w w')=>errno_ni σ w' (hG.below hb))
 have hb1:=below_new w (.cells #[.pointer none] 39)
 have hb2:=hb1.alloc hb1.size (.cells #[.int .i64 n] 3)
 have hb3:=hb2.alloc hb2.size (.cells #[.slice X m c] 28)
 obtain⟨b1,b2,b3⟩:=boxes3 w (.pointer none) (.int .i64 n) (.slice X m c) 39 3 28
 have HB:=qh hb3
 clear hb1 hb2 hb3 hG
 unfold DErr.val errK at *
 go_enter Tryz.func58,Tryz.ntmps58
 go_wp2_with fail
 refine(HT.out _ HB.out).mono ?_
 rintro e w' ⟨rfl,rfl⟩
 go_wp2_with fail
 refine(HE.out _ HB.out).mono ?_
 rintro e w' ⟨rfl,rfl⟩
 go_wp2_with fail
 go_ret
 exact⟨rfl,HB.out⟩
end
end Go.Proofs.YtpaikolnampcfaaGreatDoor
