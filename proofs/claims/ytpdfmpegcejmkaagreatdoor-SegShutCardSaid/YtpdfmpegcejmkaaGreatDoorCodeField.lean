/- A writer's fields. -/
import Derived.Test.YtpdfmpegcejmkaaGreatDoorKitInts
namespace Go.Proofs.YtpdfmpegcejmkaaGreatDoor
open Go.RowKit
theorem bytesIs_full {w : World} {B g n : Nat} {xs : List Int} (h : w.ownsRow B 5 1 (.slice (some ⟨g, 0, none⟩) n n) n (u8s xs)) : BytesIs w g xs := by
  rcases h.2 with ⟨h', _⟩ | ⟨g', cap, cur, hv, _, hg, _, _, hs, ht⟩
  · cases h'
  · obtain ⟨rfl, rfl⟩ : g = g' ∧ n = cap := by simpa using hv
    have e : cur = (u8s xs).toArray := by
      rw [← ht, Nat.mul_one]
      apply Array.ext'
      rw [List.take_of_length_le (by rw [Array.length_toList]; omega)]
    rw [e] at hg
    exact hg
theorem zeros_made (n : Nat) : (madeCells (#[.int .u8 0] : Array Value) n).toList = u8s (List.replicate n 0) := by
  unfold madeCells u8s
  rw [List.map_replicate, Array.toList_map]
  apply List.ext_getElem (by simp)
  intro i h1 h2
  simp [Nat.mod_one]
theorem below_bytes {w w1 wx : World} {g : Nat} (h1 : w.grownBy w1 none) (hg : w.heap.size ≤ g) (h2 : w1.grownBy wx (some g)) : Below w.heap.size w wx :=
  ⟨h2.os.trans h1.os, h2.tape.trans h1.tape, h2.output.trans h1.output, Nat.le_trans h1.size h2.size, fun k hk => (h2.block k (Nat.lt_of_lt_of_le hk h1.size) (by simp; omega)).trans (h1.block k hk (by simp))⟩
theorem take_flat (wd k : Nat) (ns : List Int) (n : Int) (h : ns[k]? = some n) : (ns.take (k + 1)).flatMap (le wd) = (ns.take k).flatMap (le wd) ++ le wd n := by
  rw [List.take_add_one, h]; simp
theorem zeros_split (n k : Nat) (h : k ≤ n) : List.replicate n (0 : Int) = List.replicate k 0 ++ List.replicate (n - k) 0 := by
  rw [List.replicate_append_replicate]; congr 1; omega
theorem ret_unit (fn : Func) (R : Ending → World → Prop) (P : Program) (a : Act) (w : World) (h : fn.results = #[]) (hd : a.defers = []) (hR : R (.returned (.tuple #[])) w) : bodyPost P fn R .ret a w :=
  bodyPost_ret (results_none h _ _ _) hd hR
set_option maxRecDepth 100000 in
theorem field_spoilt (w : World) (S : Nat → Prop) (g : Nat) (h : WrAt w S g none) (wd v : Value) :
    Calls Tryz.prog 75 #[.pointer (some ⟨g, 0, none⟩), wd, v] w fun e w' => e = .returned (.tuple #[]) ∧ w = w' := by
  obtain ⟨p, hb⟩ := h.isBlock
  go_enter Tryz.func75, Tryz.ntmps75
  go_wp2_with fail
  refine (whole_is w g p true hb).mono ?_
  rintro e w' ⟨rfl, rfl⟩
  go_wp2_with fail
  refine ret_unit _ _ _ _ _ rfl rfl ⟨rfl, rfl⟩
set_option maxRecDepth 100000 in
theorem field_no (w : World) (S : Nat → Prop) (g : Nat) (bs : List Int) (h : WrAt w S g (some bs)) (wd : Int) (v : Value) (ht : top wd < 0) :
    Calls Tryz.prog 75 #[.pointer (some ⟨g, 0, none⟩), .int .i64 wd, v] w fun e w' => e = .returned (.tuple #[]) ∧ Put w S g none w' := by
  obtain ⟨p, hb⟩ := h.isBlock
  go_enter Tryz.func75, Tryz.ntmps75
  go_wp2_with fail
  refine (whole_is w g p false hb).mono ?_
  rintro e w' ⟨rfl, rfl⟩
  go_wp2_with fail
  refine (greatest_any wd w).mono ?_
  rintro e w' ⟨rfl, rfl⟩
  go_wp2_with fail
  refine (spoil_any w S g _ h).mono ?_
  rintro e w' ⟨rfl, hP⟩
  go_wp2_with fail
  refine ret_unit _ _ _ _ _ rfl rfl ⟨rfl, hP⟩
set_option maxRecDepth 100000 in
set_option maxHeartbeats 4000000 in
theorem field_one (w : World) (S : Nat → Prop) (g : Nat) (bs : List Int) (h : WrAt w S g (some bs)) (A : Option Addr) (c : Nat) (ns : List Int) (hA : IntsAt w A ns) (hl : ns.length ≤ 1000000) :
    Calls Tryz.prog 75 #[.pointer (some ⟨g, 0, none⟩), .int .i64 1, .slice A ns.length c] w fun e w' => e = .returned (.tuple #[]) ∧ Put w S g (putO (some bs) (fieldsB 1 ns)) w' := by
  obtain ⟨i0, hi, hz0, hz1, hz2⟩ := info_parts infoByte
  obtain ⟨p, hb⟩ := h.isBlock
  have hlt := h.lt
  go_enter Tryz.func75, Tryz.ntmps75
  go_wp2_with fail
  refine (whole_is w g p false hb).mono ?_
  rintro e w' ⟨rfl, rfl⟩
  go_wp2_with fail
  refine (greatest_any 1 w).mono ?_
  rintro e w' ⟨rfl, rfl⟩
  rw [show top 1 = 255 from rfl]
  have HP := Lib.hid h
  have Hb := Lib.hid hb
  clear h hb
  go_wp2_with (refine wpList_make_full _ rfl _ _ _ rfl w.heap.size 5 i0 (.int .u8 0) 1 Tryz.underlying27 hi hz0 hz1 .i64 .i64 _ _ ns.length rfl rfl (by omega) (by omega) (by rw [hz2]; omega) (by unfold maxLen; omega) (Nat.le_refl _) ?_; intro w1 hown1 hgrow1)
  have hfull : BytesIs w1 w.heap.size (List.replicate ns.length 0) := bytesIs_full (n := ns.length) (by have h := hown1; rw [Nat.mul_one] at h; rw [← zeros_made]; exact h)
  clear hown1
  go_loopg [26] ns.length (fun gg i wx => ∃ k : Nat, gg = ns.length - k ∧ k ≤ ns.length ∧ i = .int .i64 (k : Int) ∧ BytesIs wx w.heap.size ((ns.take k).flatMap (le 1) ++ List.replicate ((ns.length - k)) 0) ∧ w1.grownBy wx (some w.heap.size) ∧ wx.heap.size = w1.heap.size ∧ Hid (∀ n ∈ ns.take k, 0 ≤ n ∧ n ≤ 255))
  case atStart => exact ⟨0, rfl, by omega, rfl, by simpa using hfull, World.grownBy.refl _ _, rfl, Lib.hid (by simp)⟩
  case round =>
    obtain ⟨k, hgk, hk, rfl, hbx, hgx, hsx, hok⟩ := hrel
    have Hgk := Lib.hid hgk; clear hgk
    have Hsx := Lib.hid hsx; clear hsx
    have hbel : Below w.heap.size w wr := below_bytes hgrow1 (Nat.le_refl _) hgx
    have hWr : WrAt wr S g (some bs) := HP.out.below hbel
    have Hgx := Lib.hid hgx; clear hgx
    have Hbx := Lib.hid hbx; clear hbx
    by_cases hlt2 : k < ns.length
    · obtain ⟨ab, ao, rfl⟩ := hA.some_ (by intro e; simp [e] at hlt2)
      have hcell := (hA.below hbel).one k hlt2
      have hbd := hA.bd k hlt2
      have hnk : ns[k]? = some (ns.getD k 0) := by rw [List.getD_eq_getElem?_getD, List.getElem?_eq_getElem hlt2]; rfl
      have hmem : ns.getD k 0 ∈ ns := List.mem_of_getElem? hnk
      have Hnk := Lib.hid hnk; clear hnk
      have Hmem := Lib.hid hmem; clear hmem
      generalize ns.getD k 0 = n at hcell hbd Hnk Hmem
      by_cases hgood : 0 ≤ n ∧ n ≤ 255
      · obtain ⟨hn0, hn1⟩ := hgood
        have hdl : ((ns.take k).flatMap (le 1)).length = k := by rw [flat_len, List.length_take]; omega
        have hZ : BytesIs wr w.heap.size ((ns.take k).flatMap (le 1) ++ List.replicate 1 0 ++ List.replicate ((ns.length - (k + 1))) 0) := by
          have := Hbx.out
          rw [zeros_split ((ns.length - k)) 1 (by omega), ← List.append_assoc, show (ns.length - k) - 1 = (ns.length - (k + 1)) by omega] at this
          exact this
        have HL := Lib.hid (lay_any wr w.heap.size (k) (ns.length - k) 1 n _ _ _ hZ hdl (by simp) (by decide) hn0 hn1 (by omega) (by omega))
        clear hdl hZ
        go_wp2_with fail
        refine HL.out.mono ?_
        rintro e w' ⟨rfl, hL⟩
        have hgx2 := Hgx.out.trans hL.fr
        go_wp2_with fail
        go_roundg (ns.length - (k + 1))
        case measure => rw [Hgk.out]; omega
        case rel => exact ⟨k + 1, rfl, by omega, by go_num, by rw [take_flat 1 k ns n Hnk.out]; exact hL.bytes, hgx2, hL.sz.trans Hsx.out, Lib.hid (by
          intro m hm
          rw [List.take_add_one, Hnk.out] at hm
          rcases List.mem_append.1 hm with h | h
          · exact hok.out m h
          · obtain rfl : m = n := by simpa using h
            exact ⟨hn0, hn1⟩)⟩
      · go_wp2_with fail
        all_goals
          refine (spoil_any wr S g _ hWr).mono ?_
          rintro e w' ⟨rfl, hP⟩
          go_wp2_with fail
          have hno : putO (some bs) (fieldsB 1 ns) = none := by rw [fieldsB_out 1 ns n Hmem.out (by show n < 0 ∨ (255 : Int) < n; omega)]; rfl
          exact ret_unit _ _ _ _ _ rfl rfl ⟨rfl, by rw [hno]; exact Put.after hbel hP HP.out.foot hlt⟩
    · obtain rfl : k = ns.length := by omega
      rw [List.take_length] at Hbx hok
      have hyes : fieldsB 1 ns = some (ns.flatMap (le 1)) := fieldsB_ok 1 ns (by decide) hok.out
      have Hyes := Lib.hid hyes; clear hyes
      have hb2 : BytesIs wr w.heap.size (ns.flatMap (le 1)) := by simpa using Hbx.out
      clear Hbx
      by_cases hz : ns = []
      · subst hz
        go_wp2_with fail
        refine (add_none wr _ _ _ _ rfl).mono ?_
        rintro e w' ⟨rfl, rfl⟩
        go_wp2_with fail
        go_end0
        exact ⟨rfl, by rw [Hyes.out]; exact Put.after hbel (by simpa [putO] using Put.same hWr) HP.out.foot hlt⟩
      · have hfl := flat_len 1 ns
        rw [Nat.one_mul] at hfl
        have hpos : 0 < ns.length := List.length_pos_iff.2 hz
        have HA := Lib.hid (add_some wr S g bs (ns.flatMap (le 1)) w.heap.size ns.length hWr (hb2.reads (flat_bd 1 ns)) (by intro e; rw [e] at hfl; simp at hfl; omega) (by omega) (BlockIs.lt hb2) (by omega) (by omega))
        rw [hfl] at HA
        have Hz := Lib.hid hz
        have hlx := BlockIs.lt hb2
        clear hfl hb2 hz
        go_wp2_with fail
        refine HA.out.mono ?_
        rintro e w' ⟨rfl, hP⟩
        go_wp2_with fail
        go_end0
        refine ⟨rfl, ?_⟩
        rw [Hyes.out]
        exact ⟨hP.wr.mono (by
          rintro k ((h | rfl) | h)
          · exact .inl h
          · exact .inr ⟨Nat.le_refl _, by have := hP.fr.size; omega⟩
          · exact .inr ⟨by have := hbel.size; omega, h.2⟩) (grow_foot HP.out.foot hlt (Nat.le_trans hbel.size hP.fr.size)), (grown_below hbel _).trans hP.fr⟩
set_option maxRecDepth 100000 in
set_option maxHeartbeats 4000000 in
theorem field_two (w : World) (S : Nat → Prop) (g : Nat) (bs : List Int) (h : WrAt w S g (some bs)) (A : Option Addr) (c : Nat) (ns : List Int) (hA : IntsAt w A ns) (hl : ns.length ≤ 1000000) :
    Calls Tryz.prog 75 #[.pointer (some ⟨g, 0, none⟩), .int .i64 2, .slice A ns.length c] w fun e w' => e = .returned (.tuple #[]) ∧ Put w S g (putO (some bs) (fieldsB 2 ns)) w' := by
  obtain ⟨i0, hi, hz0, hz1, hz2⟩ := info_parts infoByte
  obtain ⟨p, hb⟩ := h.isBlock
  have hlt := h.lt
  go_enter Tryz.func75, Tryz.ntmps75
  go_wp2_with fail
  refine (whole_is w g p false hb).mono ?_
  rintro e w' ⟨rfl, rfl⟩
  go_wp2_with fail
  refine (greatest_any 2 w).mono ?_
  rintro e w' ⟨rfl, rfl⟩
  rw [show top 2 = 65535 from rfl]
  have HP := Lib.hid h
  have Hb := Lib.hid hb
  clear h hb
  go_wp2_with (refine wpList_make_full _ rfl _ _ _ rfl w.heap.size 5 i0 (.int .u8 0) 1 Tryz.underlying27 hi hz0 hz1 .i64 .i64 _ _ (2 * ns.length) rfl rfl (by omega) (by omega) (by rw [hz2]; omega) (by unfold maxLen; omega) (Nat.le_refl _) ?_; intro w1 hown1 hgrow1)
  have hfull : BytesIs w1 w.heap.size (List.replicate (2 * ns.length) 0) := bytesIs_full (n := 2 * ns.length) (by have h := hown1; rw [Nat.mul_one] at h; rw [← zeros_made]; exact h)
  clear hown1
  go_loopg [26] ns.length (fun gg i wx => ∃ k : Nat, gg = ns.length - k ∧ k ≤ ns.length ∧ i = .int .i64 (k : Int) ∧ BytesIs wx w.heap.size ((ns.take k).flatMap (le 2) ++ List.replicate (2 * (ns.length - k)) 0) ∧ w1.grownBy wx (some w.heap.size) ∧ wx.heap.size = w1.heap.size ∧ Hid (∀ n ∈ ns.take k, 0 ≤ n ∧ n ≤ 65535))
  case atStart => exact ⟨0, rfl, by omega, rfl, by simpa using hfull, World.grownBy.refl _ _, rfl, Lib.hid (by simp)⟩
  case round =>
    obtain ⟨k, hgk, hk, rfl, hbx, hgx, hsx, hok⟩ := hrel
    have Hgk := Lib.hid hgk; clear hgk
    have Hsx := Lib.hid hsx; clear hsx
    have hbel : Below w.heap.size w wr := below_bytes hgrow1 (Nat.le_refl _) hgx
    have hWr : WrAt wr S g (some bs) := HP.out.below hbel
    have Hgx := Lib.hid hgx; clear hgx
    have Hbx := Lib.hid hbx; clear hbx
    by_cases hlt2 : k < ns.length
    · obtain ⟨ab, ao, rfl⟩ := hA.some_ (by intro e; simp [e] at hlt2)
      have hcell := (hA.below hbel).one k hlt2
      have hbd := hA.bd k hlt2
      have hnk : ns[k]? = some (ns.getD k 0) := by rw [List.getD_eq_getElem?_getD, List.getElem?_eq_getElem hlt2]; rfl
      have hmem : ns.getD k 0 ∈ ns := List.mem_of_getElem? hnk
      have Hnk := Lib.hid hnk; clear hnk
      have Hmem := Lib.hid hmem; clear hmem
      generalize ns.getD k 0 = n at hcell hbd Hnk Hmem
      by_cases hgood : 0 ≤ n ∧ n ≤ 65535
      · obtain ⟨hn0, hn1⟩ := hgood
        have hdl : ((ns.take k).flatMap (le 2)).length = k * 2 := by rw [flat_len, List.length_take]; omega
        have hZ : BytesIs wr w.heap.size ((ns.take k).flatMap (le 2) ++ List.replicate 2 0 ++ List.replicate (2 * (ns.length - (k + 1))) 0) := by
          have := Hbx.out
          rw [zeros_split (2 * (ns.length - k)) 2 (by omega), ← List.append_assoc, show 2 * (ns.length - k) - 2 = 2 * (ns.length - (k + 1)) by omega] at this
          exact this
        have HL := Lib.hid (lay_any wr w.heap.size (k * 2) (2 * ns.length - k * 2) 2 n _ _ _ hZ hdl (by simp) (by decide) hn0 hn1 (by omega) (by omega))
        clear hdl hZ
        go_wp2_with fail
        refine HL.out.mono ?_
        rintro e w' ⟨rfl, hL⟩
        have hgx2 := Hgx.out.trans hL.fr
        go_wp2_with fail
        go_roundg (ns.length - (k + 1))
        case measure => rw [Hgk.out]; omega
        case rel => exact ⟨k + 1, rfl, by omega, by go_num, by rw [take_flat 2 k ns n Hnk.out]; exact hL.bytes, hgx2, hL.sz.trans Hsx.out, Lib.hid (by
          intro m hm
          rw [List.take_add_one, Hnk.out] at hm
          rcases List.mem_append.1 hm with h | h
          · exact hok.out m h
          · obtain rfl : m = n := by simpa using h
            exact ⟨hn0, hn1⟩)⟩
      · go_wp2_with fail
        all_goals
          refine (spoil_any wr S g _ hWr).mono ?_
          rintro e w' ⟨rfl, hP⟩
          go_wp2_with fail
          have hno : putO (some bs) (fieldsB 2 ns) = none := by rw [fieldsB_out 2 ns n Hmem.out (by show n < 0 ∨ (65535 : Int) < n; omega)]; rfl
          exact ret_unit _ _ _ _ _ rfl rfl ⟨rfl, by rw [hno]; exact Put.after hbel hP HP.out.foot hlt⟩
    · obtain rfl : k = ns.length := by omega
      rw [List.take_length] at Hbx hok
      have hyes : fieldsB 2 ns = some (ns.flatMap (le 2)) := fieldsB_ok 2 ns (by decide) hok.out
      have Hyes := Lib.hid hyes; clear hyes
      have hb2 : BytesIs wr w.heap.size (ns.flatMap (le 2)) := by simpa using Hbx.out
      clear Hbx
      by_cases hz : ns = []
      · subst hz
        go_wp2_with fail
        refine (add_none wr _ _ _ _ rfl).mono ?_
        rintro e w' ⟨rfl, rfl⟩
        go_wp2_with fail
        go_end0
        exact ⟨rfl, by rw [Hyes.out]; exact Put.after hbel (by simpa [putO] using Put.same hWr) HP.out.foot hlt⟩
      · have hfl := flat_len 2 ns
        have hpos : 0 < ns.length := List.length_pos_iff.2 hz
        have HA := Lib.hid (add_some wr S g bs (ns.flatMap (le 2)) w.heap.size (2 * ns.length) hWr (hb2.reads (flat_bd 2 ns)) (by intro e; rw [e] at hfl; simp at hfl; omega) (by omega) (BlockIs.lt hb2) (by omega) (by omega))
        rw [hfl] at HA
        have Hz := Lib.hid hz
        have hlx := BlockIs.lt hb2
        clear hfl hb2 hz
        go_wp2_with fail
        refine HA.out.mono ?_
        rintro e w' ⟨rfl, hP⟩
        go_wp2_with fail
        go_end0
        refine ⟨rfl, ?_⟩
        rw [Hyes.out]
        exact ⟨hP.wr.mono (by
          rintro k ((h | rfl) | h)
          · exact .inl h
          · exact .inr ⟨Nat.le_refl _, by have := hP.fr.size; omega⟩
          · exact .inr ⟨by have := hbel.size; omega, h.2⟩) (grow_foot HP.out.foot hlt (Nat.le_trans hbel.size hP.fr.size)), (grown_below hbel _).trans hP.fr⟩
set_option maxRecDepth 100000 in
set_option maxHeartbeats 4000000 in
theorem field_four (w : World) (S : Nat → Prop) (g : Nat) (bs : List Int) (h : WrAt w S g (some bs)) (A : Option Addr) (c : Nat) (ns : List Int) (hA : IntsAt w A ns) (hl : ns.length ≤ 1000000) :
    Calls Tryz.prog 75 #[.pointer (some ⟨g, 0, none⟩), .int .i64 4, .slice A ns.length c] w fun e w' => e = .returned (.tuple #[]) ∧ Put w S g (putO (some bs) (fieldsB 4 ns)) w' := by
  obtain ⟨i0, hi, hz0, hz1, hz2⟩ := info_parts infoByte
  obtain ⟨p, hb⟩ := h.isBlock
  have hlt := h.lt
  go_enter Tryz.func75, Tryz.ntmps75
  go_wp2_with fail
  refine (whole_is w g p false hb).mono ?_
  rintro e w' ⟨rfl, rfl⟩
  go_wp2_with fail
  refine (greatest_any 4 w).mono ?_
  rintro e w' ⟨rfl, rfl⟩
  rw [show top 4 = 4294967295 from rfl]
  have HP := Lib.hid h
  have Hb := Lib.hid hb
  clear h hb
  go_wp2_with (refine wpList_make_full _ rfl _ _ _ rfl w.heap.size 5 i0 (.int .u8 0) 1 Tryz.underlying27 hi hz0 hz1 .i64 .i64 _ _ (4 * ns.length) rfl rfl (by omega) (by omega) (by rw [hz2]; omega) (by unfold maxLen; omega) (Nat.le_refl _) ?_; intro w1 hown1 hgrow1)
  have hfull : BytesIs w1 w.heap.size (List.replicate (4 * ns.length) 0) := bytesIs_full (n := 4 * ns.length) (by have h := hown1; rw [Nat.mul_one] at h; rw [← zeros_made]; exact h)
  clear hown1
  go_loopg [26] ns.length (fun gg i wx => ∃ k : Nat, gg = ns.length - k ∧ k ≤ ns.length ∧ i = .int .i64 (k : Int) ∧ BytesIs wx w.heap.size ((ns.take k).flatMap (le 4) ++ List.replicate (4 * (ns.length - k)) 0) ∧ w1.grownBy wx (some w.heap.size) ∧ wx.heap.size = w1.heap.size ∧ Hid (∀ n ∈ ns.take k, 0 ≤ n ∧ n ≤ 4294967295))
  case atStart => exact ⟨0, rfl, by omega, rfl, by simpa using hfull, World.grownBy.refl _ _, rfl, Lib.hid (by simp)⟩
  case round =>
    obtain ⟨k, hgk, hk, rfl, hbx, hgx, hsx, hok⟩ := hrel
    have Hgk := Lib.hid hgk; clear hgk
    have Hsx := Lib.hid hsx; clear hsx
    have hbel : Below w.heap.size w wr := below_bytes hgrow1 (Nat.le_refl _) hgx
    have hWr : WrAt wr S g (some bs) := HP.out.below hbel
    have Hgx := Lib.hid hgx; clear hgx
    have Hbx := Lib.hid hbx; clear hbx
    by_cases hlt2 : k < ns.length
    · obtain ⟨ab, ao, rfl⟩ := hA.some_ (by intro e; simp [e] at hlt2)
      have hcell := (hA.below hbel).one k hlt2
      have hbd := hA.bd k hlt2
      have hnk : ns[k]? = some (ns.getD k 0) := by rw [List.getD_eq_getElem?_getD, List.getElem?_eq_getElem hlt2]; rfl
      have hmem : ns.getD k 0 ∈ ns := List.mem_of_getElem? hnk
      have Hnk := Lib.hid hnk; clear hnk
      have Hmem := Lib.hid hmem; clear hmem
      generalize ns.getD k 0 = n at hcell hbd Hnk Hmem
      by_cases hgood : 0 ≤ n ∧ n ≤ 4294967295
      · obtain ⟨hn0, hn1⟩ := hgood
        have hdl : ((ns.take k).flatMap (le 4)).length = k * 4 := by rw [flat_len, List.length_take]; omega
        have hZ : BytesIs wr w.heap.size ((ns.take k).flatMap (le 4) ++ List.replicate 4 0 ++ List.replicate (4 * (ns.length - (k + 1))) 0) := by
          have := Hbx.out
          rw [zeros_split (4 * (ns.length - k)) 4 (by omega), ← List.append_assoc, show 4 * (ns.length - k) - 4 = 4 * (ns.length - (k + 1)) by omega] at this
          exact this
        have HL := Lib.hid (lay_any wr w.heap.size (k * 4) (4 * ns.length - k * 4) 4 n _ _ _ hZ hdl (by simp) (by decide) hn0 hn1 (by omega) (by omega))
        clear hdl hZ
        go_wp2_with fail
        refine HL.out.mono ?_
        rintro e w' ⟨rfl, hL⟩
        have hgx2 := Hgx.out.trans hL.fr
        go_wp2_with fail
        go_roundg (ns.length - (k + 1))
        case measure => rw [Hgk.out]; omega
        case rel => exact ⟨k + 1, rfl, by omega, by go_num, by rw [take_flat 4 k ns n Hnk.out]; exact hL.bytes, hgx2, hL.sz.trans Hsx.out, Lib.hid (by
          intro m hm
          rw [List.take_add_one, Hnk.out] at hm
          rcases List.mem_append.1 hm with h | h
          · exact hok.out m h
          · obtain rfl : m = n := by simpa using h
            exact ⟨hn0, hn1⟩)⟩
      · go_wp2_with fail
        all_goals
          refine (spoil_any wr S g _ hWr).mono ?_
          rintro e w' ⟨rfl, hP⟩
          go_wp2_with fail
          have hno : putO (some bs) (fieldsB 4 ns) = none := by rw [fieldsB_out 4 ns n Hmem.out (by show n < 0 ∨ (4294967295 : Int) < n; omega)]; rfl
          exact ret_unit _ _ _ _ _ rfl rfl ⟨rfl, by rw [hno]; exact Put.after hbel hP HP.out.foot hlt⟩
    · obtain rfl : k = ns.length := by omega
      rw [List.take_length] at Hbx hok
      have hyes : fieldsB 4 ns = some (ns.flatMap (le 4)) := fieldsB_ok 4 ns (by decide) hok.out
      have Hyes := Lib.hid hyes; clear hyes
      have hb2 : BytesIs wr w.heap.size (ns.flatMap (le 4)) := by simpa using Hbx.out
      clear Hbx
      by_cases hz : ns = []
      · subst hz
        go_wp2_with fail
        refine (add_none wr _ _ _ _ rfl).mono ?_
        rintro e w' ⟨rfl, rfl⟩
        go_wp2_with fail
        go_end0
        exact ⟨rfl, by rw [Hyes.out]; exact Put.after hbel (by simpa [putO] using Put.same hWr) HP.out.foot hlt⟩
      · have hfl := flat_len 4 ns
        have hpos : 0 < ns.length := List.length_pos_iff.2 hz
        have HA := Lib.hid (add_some wr S g bs (ns.flatMap (le 4)) w.heap.size (4 * ns.length) hWr (hb2.reads (flat_bd 4 ns)) (by intro e; rw [e] at hfl; simp at hfl; omega) (by omega) (BlockIs.lt hb2) (by omega) (by omega))
        rw [hfl] at HA
        have Hz := Lib.hid hz
        have hlx := BlockIs.lt hb2
        clear hfl hb2 hz
        go_wp2_with fail
        refine HA.out.mono ?_
        rintro e w' ⟨rfl, hP⟩
        go_wp2_with fail
        go_end0
        refine ⟨rfl, ?_⟩
        rw [Hyes.out]
        exact ⟨hP.wr.mono (by
          rintro k ((h | rfl) | h)
          · exact .inl h
          · exact .inr ⟨Nat.le_refl _, by have := hP.fr.size; omega⟩
          · exact .inr ⟨by have := hbel.size; omega, h.2⟩) (grow_foot HP.out.foot hlt (Nat.le_trans hbel.size hP.fr.size)), (grown_below hbel _).trans hP.fr⟩
set_option maxRecDepth 100000 in
set_option maxHeartbeats 4000000 in
theorem field_six (w : World) (S : Nat → Prop) (g : Nat) (bs : List Int) (h : WrAt w S g (some bs)) (A : Option Addr) (c : Nat) (ns : List Int) (hA : IntsAt w A ns) (hl : ns.length ≤ 1000000) :
    Calls Tryz.prog 75 #[.pointer (some ⟨g, 0, none⟩), .int .i64 6, .slice A ns.length c] w fun e w' => e = .returned (.tuple #[]) ∧ Put w S g (putO (some bs) (fieldsB 6 ns)) w' := by
  obtain ⟨i0, hi, hz0, hz1, hz2⟩ := info_parts infoByte
  obtain ⟨p, hb⟩ := h.isBlock
  have hlt := h.lt
  go_enter Tryz.func75, Tryz.ntmps75
  go_wp2_with fail
  refine (whole_is w g p false hb).mono ?_
  rintro e w' ⟨rfl, rfl⟩
  go_wp2_with fail
  refine (greatest_any 6 w).mono ?_
  rintro e w' ⟨rfl, rfl⟩
  rw [show top 6 = 1099511627776 from rfl]
  have HP := Lib.hid h
  have Hb := Lib.hid hb
  clear h hb
  go_wp2_with (refine wpList_make_full _ rfl _ _ _ rfl w.heap.size 5 i0 (.int .u8 0) 1 Tryz.underlying27 hi hz0 hz1 .i64 .i64 _ _ (6 * ns.length) rfl rfl (by omega) (by omega) (by rw [hz2]; omega) (by unfold maxLen; omega) (Nat.le_refl _) ?_; intro w1 hown1 hgrow1)
  have hfull : BytesIs w1 w.heap.size (List.replicate (6 * ns.length) 0) := bytesIs_full (n := 6 * ns.length) (by have h := hown1; rw [Nat.mul_one] at h; rw [← zeros_made]; exact h)
  clear hown1
  go_loopg [26] ns.length (fun gg i wx => ∃ k : Nat, gg = ns.length - k ∧ k ≤ ns.length ∧ i = .int .i64 (k : Int) ∧ BytesIs wx w.heap.size ((ns.take k).flatMap (le 6) ++ List.replicate (6 * (ns.length - k)) 0) ∧ w1.grownBy wx (some w.heap.size) ∧ wx.heap.size = w1.heap.size ∧ Hid (∀ n ∈ ns.take k, 0 ≤ n ∧ n ≤ 1099511627776))
  case atStart => exact ⟨0, rfl, by omega, rfl, by simpa using hfull, World.grownBy.refl _ _, rfl, Lib.hid (by simp)⟩
  case round =>
    obtain ⟨k, hgk, hk, rfl, hbx, hgx, hsx, hok⟩ := hrel
    have Hgk := Lib.hid hgk; clear hgk
    have Hsx := Lib.hid hsx; clear hsx
    have hbel : Below w.heap.size w wr := below_bytes hgrow1 (Nat.le_refl _) hgx
    have hWr : WrAt wr S g (some bs) := HP.out.below hbel
    have Hgx := Lib.hid hgx; clear hgx
    have Hbx := Lib.hid hbx; clear hbx
    by_cases hlt2 : k < ns.length
    · obtain ⟨ab, ao, rfl⟩ := hA.some_ (by intro e; simp [e] at hlt2)
      have hcell := (hA.below hbel).one k hlt2
      have hbd := hA.bd k hlt2
      have hnk : ns[k]? = some (ns.getD k 0) := by rw [List.getD_eq_getElem?_getD, List.getElem?_eq_getElem hlt2]; rfl
      have hmem : ns.getD k 0 ∈ ns := List.mem_of_getElem? hnk
      have Hnk := Lib.hid hnk; clear hnk
      have Hmem := Lib.hid hmem; clear hmem
      generalize ns.getD k 0 = n at hcell hbd Hnk Hmem
      by_cases hgood : 0 ≤ n ∧ n ≤ 1099511627776
      · obtain ⟨hn0, hn1⟩ := hgood
        have hdl : ((ns.take k).flatMap (le 6)).length = k * 6 := by rw [flat_len, List.length_take]; omega
        have hZ : BytesIs wr w.heap.size ((ns.take k).flatMap (le 6) ++ List.replicate 6 0 ++ List.replicate (6 * (ns.length - (k + 1))) 0) := by
          have := Hbx.out
          rw [zeros_split (6 * (ns.length - k)) 6 (by omega), ← List.append_assoc, show 6 * (ns.length - k) - 6 = 6 * (ns.length - (k + 1)) by omega] at this
          exact this
        have HL := Lib.hid (lay_any wr w.heap.size (k * 6) (6 * ns.length - k * 6) 6 n _ _ _ hZ hdl (by simp) (by decide) hn0 hn1 (by omega) (by omega))
        clear hdl hZ
        go_wp2_with fail
        refine HL.out.mono ?_
        rintro e w' ⟨rfl, hL⟩
        have hgx2 := Hgx.out.trans hL.fr
        go_wp2_with fail
        go_roundg (ns.length - (k + 1))
        case measure => rw [Hgk.out]; omega
        case rel => exact ⟨k + 1, rfl, by omega, by go_num, by rw [take_flat 6 k ns n Hnk.out]; exact hL.bytes, hgx2, hL.sz.trans Hsx.out, Lib.hid (by
          intro m hm
          rw [List.take_add_one, Hnk.out] at hm
          rcases List.mem_append.1 hm with h | h
          · exact hok.out m h
          · obtain rfl : m = n := by simpa using h
            exact ⟨hn0, hn1⟩)⟩
      · go_wp2_with fail
        all_goals
          refine (spoil_any wr S g _ hWr).mono ?_
          rintro e w' ⟨rfl, hP⟩
          go_wp2_with fail
          have hno : putO (some bs) (fieldsB 6 ns) = none := by rw [fieldsB_out 6 ns n Hmem.out (by show n < 0 ∨ (1099511627776 : Int) < n; omega)]; rfl
          exact ret_unit _ _ _ _ _ rfl rfl ⟨rfl, by rw [hno]; exact Put.after hbel hP HP.out.foot hlt⟩
    · obtain rfl : k = ns.length := by omega
      rw [List.take_length] at Hbx hok
      have hyes : fieldsB 6 ns = some (ns.flatMap (le 6)) := fieldsB_ok 6 ns (by decide) hok.out
      have Hyes := Lib.hid hyes; clear hyes
      have hb2 : BytesIs wr w.heap.size (ns.flatMap (le 6)) := by simpa using Hbx.out
      clear Hbx
      by_cases hz : ns = []
      · subst hz
        go_wp2_with fail
        refine (add_none wr _ _ _ _ rfl).mono ?_
        rintro e w' ⟨rfl, rfl⟩
        go_wp2_with fail
        go_end0
        exact ⟨rfl, by rw [Hyes.out]; exact Put.after hbel (by simpa [putO] using Put.same hWr) HP.out.foot hlt⟩
      · have hfl := flat_len 6 ns
        have hpos : 0 < ns.length := List.length_pos_iff.2 hz
        have HA := Lib.hid (add_some wr S g bs (ns.flatMap (le 6)) w.heap.size (6 * ns.length) hWr (hb2.reads (flat_bd 6 ns)) (by intro e; rw [e] at hfl; simp at hfl; omega) (by omega) (BlockIs.lt hb2) (by omega) (by omega))
        rw [hfl] at HA
        have Hz := Lib.hid hz
        have hlx := BlockIs.lt hb2
        clear hfl hb2 hz
        go_wp2_with fail
        refine HA.out.mono ?_
        rintro e w' ⟨rfl, hP⟩
        go_wp2_with fail
        go_end0
        refine ⟨rfl, ?_⟩
        rw [Hyes.out]
        exact ⟨hP.wr.mono (by
          rintro k ((h | rfl) | h)
          · exact .inl h
          · exact .inr ⟨Nat.le_refl _, by have := hP.fr.size; omega⟩
          · exact .inr ⟨by have := hbel.size; omega, h.2⟩) (grow_foot HP.out.foot hlt (Nat.le_trans hbel.size hP.fr.size)), (grown_below hbel _).trans hP.fr⟩
/-- Fields, whatever the width and the numbers. -/
theorem field_any (w : World) (S : Nat → Prop) (g : Nat) (s : Option (List Int)) (h : WrAt w S g s) (wd : Int) (A : Option Addr) (c : Nat) (ns : List Int) (hA : IntsAt w A ns) (hl : ns.length ≤ 1000000) :
    Calls Tryz.prog 75 #[.pointer (some ⟨g, 0, none⟩), .int .i64 wd, .slice A ns.length c] w fun e w' => e = .returned (.tuple #[]) ∧ Put w S g (putO s (fieldsB wd ns)) w' := by
  cases s with
  | none =>
    rw [none_putO]
    exact (field_spoilt w S g h _ _).mono fun e w' ⟨he, hw⟩ => ⟨he, hw ▸ Put.same h⟩
  | some bs =>
    rcases top_cases wd with ⟨rfl, t⟩ | ⟨rfl, t⟩ | ⟨rfl, t⟩ | ⟨rfl, t⟩ | ⟨_, _, _, _, t⟩
    · exact field_one w S g bs h A c ns hA hl
    · exact field_two w S g bs h A c ns hA hl
    · exact field_four w S g bs h A c ns hA hl
    · exact field_six w S g bs h A c ns hA hl
    · rw [fieldsB_bad wd ns (by omega), putO_none]
      exact field_no w S g bs h wd _ (by omega)
end Go.Proofs.YtpdfmpegcejmkaaGreatDoor
