/- Fields, one behind the other, as bytes. -/
import Derived.Test.YtmmebaphhgggfaaGreatDoorCodeBytes
import Derived.Test.YtmmebaphhgggfaaGreatDoorCodeField
import Derived.Test.YtmmebaphhgggfaaGreatDoorUnitLay
namespace Go.Proofs.YtmmebaphhgggfaaGreatDoor
open Go.RowKit
/-- Fields in memory: how wide each is, its number. -/
def FieldsAt (w : World) (b off : Nat) (fs : List (Int × Int)) : Prop := ∀ k f, fs[k]? = some f → w.cell? ⟨b, off + k * 2, none⟩ = some (.int .i64 f.1) ∧ w.cell? ⟨b, off + k * 2 + 1, none⟩ = some (.int .i64 f.2)
theorem FieldsAt.below {w w' : World} {b off : Nat} {fs : List (Int × Int)} (h : FieldsAt w b off fs) (hb : Below w.heap.size w w') : FieldsAt w' b off fs := fun k f hk => ⟨cell_below (h k f hk).1 hb, cell_below (h k f hk).2 hb⟩
def fieldBytes (fs : List (Int × Int)) : List Int := fs.flatMap fun f => le f.1.toNat f.2
theorem fieldBytes_snoc (fs : List (Int × Int)) (k : Nat) (f : Int × Int) (h : fs[k]? = some f) : fieldBytes (fs.take (k + 1)) = fieldBytes (fs.take k) ++ le f.1.toNat f.2 := by
  unfold fieldBytes
  rw [List.take_add_one, h]; simp
set_option maxRecDepth 100000 in
set_option maxHeartbeats 2000000 in
theorem laid_any (w : World) (b off : Nat) (fs : List (Int × Int)) (c : Nat) (hA : FieldsAt w b off fs) (hok : ∀ f ∈ fs, 0 ≤ top f.1 ∧ 0 ≤ f.2 ∧ f.2 ≤ top f.1) (hl : fs.length ≤ 1000) (hlen : (fieldBytes fs).length ≤ 1000000) :
    Calls Tryz.prog 63 #[.slice (some ⟨b, off, none⟩) fs.length c] w fun e w' => ∃ v, e = .returned v ∧ w'.ownsRow w.heap.size 5 1 v (fieldBytes fs).length (u8s (fieldBytes fs)) ∧ Below w.heap.size w w' := by
  have hbn := below_new w (.cells #[.pointer none, .bool false] 156)
  have hB := BlockIs.made w 156 #[.pointer none, .bool false]
  have H0 := Lib.hid (And.intro hbn hB)
  have HA := Lib.hid hA
  have Hok := Lib.hid hok
  clear hbn hB hA hok
  go_enter Tryz.func63, Tryz.ntmps63
  go_wp2_with fail
  go_loopg [5, 10] fs.length (fun gk _ i wx => ∃ k : Nat, gk = fs.length - k ∧ k ≤ fs.length ∧ i = .int .i64 (k : Int) ∧ Hid (∃ S, WrAt wx S w.heap.size (some (fieldBytes (fs.take k))) ∧ Below w.heap.size w wx))
  case atStart => exact ⟨0, rfl, Nat.zero_le _, rfl, Lib.hid ⟨fun _ => False, ⟨fun _ h => h.elim, ⟨none, [], H0.out.2, rfl, rfl⟩⟩, H0.out.1⟩⟩
  case round =>
    obtain ⟨k, hgk, hk, rfl, hK⟩ := hrel
    have Hgk := Lib.hid hgk
    clear hgk
    obtain ⟨S, hW, hbe⟩ := hK.out
    have HW := Lib.hid (And.intro hW hbe)
    clear hK hW hbe
    by_cases hlt : k < fs.length
    · have hq : fs[k]? = some fs[k] := List.getElem?_eq_getElem hlt
      have hm : fs[k] ∈ fs := List.getElem_mem hlt
      obtain ⟨c0, c1⟩ := HA.out.below HW.out.2 k _ hq
      have Hs := Lib.hid (fieldBytes_snoc fs k _ hq)
      have Hf := Lib.hid (Hok.out _ hm)
      clear hq hm
      generalize fs[k] = f at *
      obtain ⟨wd, n⟩ := f
      simp only at c0 c1
      have hb1 := below_new wr (.cells #[.int .i64 wd, .int .i64 n] 116)
      have hb2 := hb1.alloc hb1.size (.cells #[.int .i64 n] 3)
      have hn : ∀ z ∈ [n], -9223372036854775808 ≤ z ∧ z ≤ 9223372036854775807 := fun z hz => by
        obtain rfl := List.mem_singleton.1 hz
        have h1 := Hf.out.2.1
        have h2 := Hf.out.2.2
        simp only at h1 h2
        rcases top_cases wd with ⟨_, t⟩ | ⟨_, t⟩ | ⟨_, t⟩ | ⟨_, t⟩ | ⟨_, _, _, _, t⟩ <;> omega
      have HF : Hid (Calls Tryz.prog 95 #[.pointer (some ⟨w.heap.size, 0, none⟩), .int .i64 wd, .slice (some ⟨wr.heap.size + 1, 0, none⟩) 1 1] ((wr.alloc (.cells #[.int .i64 wd, .int .i64 n] 116)).alloc (.cells #[.int .i64 n] 3)) fun e w' => e = .returned (.tuple #[]) ∧
          Put ((wr.alloc (.cells #[.int .i64 wd, .int .i64 n] 116)).alloc (.cells #[.int .i64 n] 3)) S w.heap.size (some (fieldBytes (fs.take k) ++ le wd.toNat n)) w') := by
        have h := field_any _ S w.heap.size _ (HW.out.1.below hb2) wd _ 1 [n] (intsAt_lit (wr.alloc (.cells #[.int .i64 wd, .int .i64 n] 116)) [n] hn) (by simp)
        rw [fieldsB_one wd n Hf.out.1 Hf.out.2.1 Hf.out.2.2] at h
        simp only [World.size_alloc] at h
        exact Lib.hid h
      have Hb2 := Lib.hid hb2
      clear hb1 hb2 hn
      go_wp2_with fail
      refine HF.out.mono ?_
      rintro e w3 ⟨rfl, hP⟩
      go_wp2_with fail
      go_roundg (fs.length - (k + 1))
      case measure => rw [Hgk.out]; omega
      case rel =>
        refine ⟨k + 1, rfl, by omega, by go_num, Lib.hid ⟨_, by rw [Hs.out]; exact hP.wr, ?_⟩⟩
        have hbe := HW.out.2.trans (Hb2.out.mono HW.out.2.size)
        exact below_grown hbe hP.fr hbe.size (Nat.le_refl _)
    · obtain rfl : k = fs.length := by omega
      rw [List.take_length] at HW
      have HB := Lib.hid (wbytes_some _ S w.heap.size _ HW.out.1 hlen)
      go_wp2_with fail
      refine HB.out.mono ?_
      rintro e w3 ⟨v, rfl, ho, hb3⟩
      have Ho := Lib.hid ho
      clear ho
      go_wp2_with fail
      go_ret
      exact ⟨v, rfl, own_mono Ho.out HW.out.2.size, HW.out.2.trans (hb3.mono HW.out.2.size)⟩
end Go.Proofs.YtmmebaphhgggfaaGreatDoor
