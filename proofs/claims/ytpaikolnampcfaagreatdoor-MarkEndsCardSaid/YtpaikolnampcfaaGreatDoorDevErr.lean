/- errors.Is at the package's own errors: one of errors.New's make, and a refusal, whose cause is the one asked for, or another one. -/
import Derived.Test.YtpaikolnampcfaaGreatDoorKitInts
import Derived.LaidEql
import Derived.Stop.Asserts
import Derived.RowKitTokens
namespace Go.Proofs.YtpaikolnampcfaaGreatDoor
set_option maxRecDepth 100000
set_option maxHeartbeats 1000000
open Go.RowKit Go.Extern.Stop Go.Stop Go.Extern
abbrev refV (n:Int) (a:Addr):Value:= .iface 191 (.agg #[.int .i64 n,errK a])
theorem noIsF (v:Value) (xT:TypeId) (w:World):(Instr.typeAssert (.iface 191 v) xT 204 true).run Tryz.prog w= .ok (.tuple #[.nilIface,.bool false]) w:=run_typeAssert_lacksB Tryz.underlying204 (by kernel_rfl) (by kernel_rfl) v xT w
theorem hasUnwrapF (v:Value) (xT:TypeId) (w:World):(Instr.typeAssert (.iface 191 v) xT 207 true).run Tryz.prog w= .ok (.tuple #[.iface 191 v,.bool true]) w:=run_typeAssert_hasB Tryz.underlying207 (by kernel_rfl) v xT w
theorem methodUnwrapF (v:Value) (w:World):(Go.method 394 191 v "Unwrap").run Tryz.prog w= .ok (196,v) w:=by kernel_rfl
theorem is_same (pos:Int) (b:Addr) (w:World):
 Calls Tryz.prog 86 #[refV pos b,errK b] w fun e w'=>e= .returned (.bool true)∧Below w.heap.size w w':=by
 obtain⟨i,hi,hcmp⟩:=Option.map_eq_some_iff.1 isComp
 obtain⟨j,hj,hjs⟩:=Option.map_eq_some_iff.1 isSize
 have tT:=callTypeOf
 have cT:=callComparable
 have mR:=isMethodComparable
 have nW:=noIsF
 have uW:=hasUnwrapF
 have mU:=methodUnwrapF
 have heq:=fun w=>run_eql_iface_ptr_same (P:=Tryz.prog) w b Tryz.underlying84 Tryz.underlying262 hi hcmp hj
 have hty:=fun(w:World)=>run_eql_iface_types (P:=Tryz.prog) 191 262 (.agg #[.int .i64 pos,.iface 262 (.pointer (some b))]) (.pointer (some b)) Tryz.underlying84 (by decide) w
 unfold refV errK
 go_enter Tryz.func86,Tryz.ntmps86
 go_wp2
 refine wp_loop_rounds 2 ?_
 rw [rounds_succ]
 go_wp2
 rw [rounds_succ]
 go_wp2
 go_ret
 exact⟨rfl,(Below.refl _ _).alloc (Nat.le_refl _) _⟩
theorem is_other (pos:Int) (a b:Addr) (w:World) (hne:a≠b) (ha:There w a) (hb:There w b):
 Calls Tryz.prog 86 #[refV pos a,errK b] w fun e w'=>e= .returned (.bool false)∧Below w.heap.size w w':=by
 obtain⟨i,hi,hcmp⟩:=Option.map_eq_some_iff.1 isComp
 obtain⟨j,hj,hjs⟩:=Option.map_eq_some_iff.1 isSize
 obtain⟨ca,ta,ha⟩:=ha
 obtain⟨cb,tb,hb⟩:=hb
 have tT:=callTypeOf
 have cT:=callComparable
 have mR:=isMethodComparable
 have nW:=noIsF
 have nE:=noIsE
 have nU:=noUnwrapE
 have nUs:=noUnwrapsE
 have uW:=hasUnwrapF
 have mU:=methodUnwrapF
 have hbn:=below_new w (.cells #[.int .i64 pos,.iface 262 (.pointer (some a))] 191)
 have heq:=run_eql_iface_ptr_other (P:=Tryz.prog) (w.alloc (.cells #[.int .i64 pos,.iface 262 (.pointer (some a))] 191)) Tryz.underlying84 Tryz.underlying262 hi hcmp hj (by rw [hjs];decide) hne ((hbn.block _ (Array.getElem?_eq_some_iff.1 ha).1).trans ha) ((hbn.block _ (Array.getElem?_eq_some_iff.1 hb).1).trans hb)
 have hty:=fun(w:World)=>run_eql_iface_types (P:=Tryz.prog) 191 262 (.agg #[.int .i64 pos,.iface 262 (.pointer (some a))]) (.pointer (some b)) Tryz.underlying84 (by decide) w
 clear ha hb
 unfold refV errK
 go_enter Tryz.func86,Tryz.ntmps86
 go_wp2
 refine wp_loop_rounds 2 ?_
 rw [rounds_succ]
 go_wp2
 rw [rounds_succ]
 go_wp2
 go_ret
 exact⟨rfl,hbn⟩
open Go.RowKit
structure SenD where
 ni:Addr
 dn:Addr
 bk:Addr
 lo:Addr
 hu:Addr
 sm:Addr
structure GlD (σ:SenD) (w:World):Prop where
 ni:w.cell? ⟨4,0,none⟩=some (errK σ.ni)
 dn:w.cell? ⟨5,0,none⟩=some (errK σ.dn)
 bk:w.cell? ⟨7,0,none⟩=some (errK σ.bk)
 lo:w.cell? ⟨10,0,none⟩=some (errK σ.lo)
 hu:w.cell? ⟨6,0,none⟩=some (errK σ.hu)
 tni:There w σ.ni
 tdn:There w σ.dn
 tbk:There w σ.bk
 tlo:There w σ.lo
 thu:There w σ.hu
 n1:σ.dn≠σ.ni
 n2:σ.hu≠σ.ni
 n3:σ.hu≠σ.dn
 n4:σ.bk≠σ.ni∧σ.bk≠σ.dn∧σ.bk≠σ.hu
 n5:σ.lo≠σ.ni∧σ.lo≠σ.dn∧σ.lo≠σ.hu
structure GlS (σ:SenD) (w:World):Prop where
 sm:w.cell? ⟨8,0,none⟩=some (errK σ.sm)
 tsm:There w σ.sm
 n6:σ.sm≠σ.ni∧σ.sm≠σ.dn∧σ.sm≠σ.hu
def SenD.blk (σ:SenD) (b:Nat):Prop:=(b=4∨b=5∨b=7∨b=10∨b=6)∨b=σ.ni.block∨b=σ.dn.block∨b=σ.bk.block∨b=σ.lo.block∨b=σ.hu.block
def SenD.blkS (σ:SenD) (b:Nat):Prop:=b=8∨b=σ.sm.block
theorem GlD.lt {σ:SenD} {w:World} (h:GlD σ w) {b:Nat} (hb:σ.blk b):b < w.heap.size:=by
 rcases hb with(rfl | rfl | rfl | rfl | rfl) | rfl | rfl | rfl | rfl | rfl
 · exact World.block_lt_of_cell? w _ h.ni
 · exact World.block_lt_of_cell? w _ h.dn
 · exact World.block_lt_of_cell? w _ h.bk
 · exact World.block_lt_of_cell? w _ h.lo
 · exact World.block_lt_of_cell? w _ h.hu
 · exact h.tni.lt
 · exact h.tdn.lt
 · exact h.tbk.lt
 · exact h.tlo.lt
 · exact h.thu.lt
theorem GlS.lt {σ:SenD} {w:World} (h:GlS σ w) {b:Nat} (hb:σ.blkS b):b < w.heap.size:=by
 rcases hb with rfl | rfl
 · exact World.block_lt_of_cell? w _ h.sm
 · exact h.tsm.lt
theorem GlD.keep {σ:SenD} {w w':World} (h:GlD σ w) (hk: ∀b,σ.blk b→w'.heap[b]? =w.heap[b]?):GlD σ w':=by
 have hc: ∀g v,(g=4∨g=5∨g=7∨g=10∨g=6)→w.cell? ⟨g,0,none⟩=some v→w'.cell? ⟨g,0,none⟩=some v:=fun g v hg h=>(World.cell?_of_block (a:=⟨g,0,none⟩) (hk g (.inl hg))).trans h
 exact⟨hc _ _ (by decide) h.ni,hc _ _ (by decide) h.dn,hc _ _ (by decide) h.bk,hc _ _ (by decide) h.lo,hc _ _ (by decide) h.hu,h.tni.keep (hk _ (.inr (.inl rfl))),h.tdn.keep (hk _ (.inr (.inr (.inl rfl)))),h.tbk.keep (hk _ (.inr (.inr (.inr (.inl rfl))))),h.tlo.keep (hk _ (.inr (.inr (.inr (.inr (.inl rfl)))))),h.thu.keep (hk _ (.inr (.inr (.inr (.inr (.inr rfl)))))),h.n1,h.n2,h.n3,h.n4,h.n5⟩
theorem GlS.keep {σ:SenD} {w w':World} (h:GlS σ w) (hk: ∀b,σ.blkS b→w'.heap[b]? =w.heap[b]?):GlS σ w':=
 ⟨(World.cell?_of_block (a:=⟨8,0,none⟩) (hk _ (.inl rfl))).trans h.sm,h.tsm.keep (hk _ (.inr rfl)),h.n6⟩
theorem GlD.below {σ:SenD} {w w':World} (h:GlD σ w) (hb:Below w.heap.size w w'):GlD σ w':=h.keep fun b hb'=>hb.block b (h.lt hb')
theorem GlS.below {σ:SenD} {w w':World} (h:GlS σ w) (hb:Below w.heap.size w w'):GlS σ w':=h.keep fun b hb'=>hb.block b (h.lt hb')
inductive DErr where
 | ok | ni | dn | bk | lo | hu | sm
 | ref (n:Int)
def DErr.val (σ:SenD):DErr→Value
 | .ok=> .nilIface
 | .ni=>errK σ.ni
 | .dn=>errK σ.dn
 | .bk=>errK σ.bk
 | .lo=>errK σ.lo
 | .hu=>errK σ.hu
 | .sm=>errK σ.sm
 | .ref n=>refV n σ.dn
def DErr.code :DErr→Int
 | .ok=>0
 | .ni=>1
 | .dn=>11
 | .bk=>2
 | .lo=>2
 | .hu=>16
 | .sm=>2
 | .ref _=>11
theorem errno_ok (w:World):Calls Tryz.prog 75 #[.nilIface] w fun e w'=>e= .returned (.int .i64 0)∧w=w':=by
 go_enter Tryz.func75,Tryz.ntmps75
 go_wp2
 go_ret
 exact⟨rfl,rfl⟩
theorem errno_ni (σ:SenD) (w:World) (hG:GlD σ w):Calls Tryz.prog 75 #[errK σ.ni] w fun e w'=>e= .returned (.int .i64 1)∧w=w':=by
 have c1:=hG.ni
 unfold errK at *
 go_enter Tryz.func75,Tryz.ntmps75
 go_wp2_with fail
 refine(is_ptr_same σ.ni _).mono ?_
 rintro e w2 ⟨rfl,rfl⟩
 go_wp2_with fail
 go_ret
 exact⟨rfl,rfl⟩
theorem errno_dn (σ:SenD) (w:World) (hG:GlD σ w):Calls Tryz.prog 75 #[errK σ.dn] w fun e w'=>e= .returned (.int .i64 11)∧w=w':=by
 have c1:=hG.ni
 have c2:=hG.dn
 unfold errK at *
 go_enter Tryz.func75,Tryz.ntmps75
 go_wp2_with fail
 refine(is_ptr_other σ.dn σ.ni _ hG.n1 hG.tdn hG.tni).mono ?_
 rintro e w2 ⟨rfl,rfl⟩
 go_wp2_with fail
 refine(is_ptr_same σ.dn _).mono ?_
 rintro e w2 ⟨rfl,rfl⟩
 go_wp2_with fail
 go_ret
 exact⟨rfl,rfl⟩
theorem errno_hu (σ:SenD) (w:World) (hG:GlD σ w):Calls Tryz.prog 75 #[errK σ.hu] w fun e w'=>e= .returned (.int .i64 16)∧w=w':=by
 have c1:=hG.ni
 have c2:=hG.dn
 have c3:=hG.hu
 unfold errK at *
 go_enter Tryz.func75,Tryz.ntmps75
 go_wp2_with fail
 refine(is_ptr_other σ.hu σ.ni _ hG.n2 hG.thu hG.tni).mono ?_
 rintro e w2 ⟨rfl,rfl⟩
 go_wp2_with fail
 refine(is_ptr_other σ.hu σ.dn _ hG.n3 hG.thu hG.tdn).mono ?_
 rintro e w2 ⟨rfl,rfl⟩
 go_wp2_with fail
 refine(is_ptr_same σ.hu _).mono ?_
 rintro e w2 ⟨rfl,rfl⟩
 go_wp2_with fail
 go_ret
 exact⟨rfl,rfl⟩
theorem errno_arg (σ:SenD) (w:World) (hG:GlD σ w) (a:Addr) (ha:There w a) (hn:a≠σ.ni∧a≠σ.dn∧a≠σ.hu):Calls Tryz.prog 75 #[errK a] w fun e w'=>e= .returned (.int .i64 2)∧w=w':=by
 have c1:=hG.ni
 have c2:=hG.dn
 have c3:=hG.hu
 unfold errK at *
 obtain⟨h1,h2,h3⟩:=hn
 have H1:=qh h1
 have H2:=qh h2
 have H3:=qh h3
 clear h1 h2 h3
 go_enter Tryz.func75,Tryz.ntmps75
 go_wp2_with fail
 refine(is_ptr_other a σ.ni _ H1.out ha hG.tni).mono ?_
 rintro e w2 ⟨rfl,rfl⟩
 go_wp2_with fail
 refine(is_ptr_other a σ.dn _ H2.out ha hG.tdn).mono ?_
 rintro e w2 ⟨rfl,rfl⟩
 go_wp2_with fail
 refine(is_ptr_other a σ.hu _ H3.out ha hG.thu).mono ?_
 rintro e w2 ⟨rfl,rfl⟩
 go_wp2_with fail
 go_ret
 exact⟨rfl,rfl⟩
theorem errno_ref (σ:SenD) (w:World) (hG:GlD σ w) (n:Int):Calls Tryz.prog 75 #[refV n σ.dn] w fun e w'=>e= .returned (.int .i64 11)∧Below w.heap.size w w':=by
 have c1:=hG.ni
 have Hk:=qh (fun w' (hb:Below w.heap.size w w')=>(hG.below hb).dn)
 unfold refV errK at *
 go_enter Tryz.func75,Tryz.ntmps75
 go_wp2_with fail
 refine(is_other n σ.dn σ.ni _ hG.n1 hG.tdn hG.tni).mono ?_
 rintro e w2 ⟨rfl,hb2⟩
 have c2:=Hk.out w2 hb2
 go_wp2_with fail
 refine(is_same n σ.dn _).mono ?_
 rintro e w3 ⟨rfl,hb3⟩
 go_wp2_with fail
 go_ret
 exact⟨rfl,hb2.trans (hb3.mono hb2.size)⟩
theorem errno_any (σ:SenD) (w:World) (hG:GlD σ w) (x:DErr) (hx:x= .sm→GlS σ w):Calls Tryz.prog 75 #[x.val σ] w fun e w'=>e= .returned (.int .i64 x.code)∧Below w.heap.size w w':=by
 have hr: ∀(v:Value) (n:Int),Calls Tryz.prog 75 #[v] w (fun e w'=>e= .returned (.int .i64 n)∧w=w')→Calls Tryz.prog 75 #[v] w (fun e w'=>e= .returned (.int .i64 n)∧Below w.heap.size w w'):=
  fun v n h=>h.mono fun e w' ⟨h1,h2⟩=>⟨h1,h2 ▸ Below.refl _ _⟩
 cases x with
 | ok=>exact hr _ _ (errno_ok w)
 | ni=>exact hr _ _ (errno_ni σ w hG)
 | dn=>exact hr _ _ (errno_dn σ w hG)
 | bk=>exact hr _ _ (errno_arg σ w hG σ.bk hG.tbk hG.n4)
 | lo=>exact hr _ _ (errno_arg σ w hG σ.lo hG.tlo hG.n5)
 | hu=>exact hr _ _ (errno_hu σ w hG)
 | sm=>exact hr _ _ (errno_arg σ w hG σ.sm (hx rfl).tsm (hx rfl).n6)
 | ref n=>exact errno_ref σ w hG n
end Go.Proofs.YtpaikolnampcfaaGreatDoor
