/-
  Package object: what begins, Head, place, Field, Put, fits, setHead, Make and Final answer and leave.
-/
import Derived.Test.YtdpaffnpedcmpabHeapAt
import Derived.Test.YtdpaffnpedcmpabRet
import Derived.Deep.RegionHeld3
import Derived.Deep.RegionLaw
namespace Go.Proofs.Ytdpaffnpedcmpab
open Go.RowKit

section
variable {w0 : World} {F0 : List Nat} {hb : Nat} {ws : List Int} {kd : List PK} {ds : List (Int × List Int)}

set_option maxHeartbeats 800000 in
theorem obegins {sb tb : Nat} (a : Int) (w : World) (h : Has w0 F0 (rawA hb sb tb ws kd ds) w) (hw : WF kd) :
    Calls Try.prog 31 #[.pointer (some ⟨hb, 0, none⟩), .int .i64 a] w fun e w' => e = .returned (.bool (isAt kd a)) ∧ Keep [] w w' := by
  obtain ⟨c0, _⟩ := h.cells
  have HX := (show Hid (Has w0 F0 (rawA hb sb tb ws kd ds) w) from h)
  have HW := (show Hid (WF kd) from hw)
  clear h hw
  unfold isAt
  cases hf : findI kd a with
  | none =>
    have HF := (show Hid (findI kd a = none) from hf)
    clear hf
    go_enter Try.func31, Try.ntmps31
    go_wp2_with (first | (go_at_call 28; refine (xfind _ a HX.out HW.out).mono ?_; rw [HF.out]; simp only [foundV]; rintro e w1 ⟨rfl, hK1⟩))
    go_ret
    exact ⟨rfl, hK1⟩
  | some o =>
    obtain ⟨s, n⟩ := o
    have HF := (show Hid (findI kd a = some (s, n)) from hf)
    clear hf
    go_enter Try.func31, Try.ntmps31
    go_wp2_with (first | (go_at_call 28; refine (xfind _ a HX.out HW.out).mono ?_; rw [HF.out]; simp only [foundV]; rintro e w1 ⟨rfl, hK1⟩))
    go_ret
    exact ⟨rfl, hK1⟩
set_option maxHeartbeats 800000 in
theorem obegins_nil (a : Int) (w : World) :
    Calls Try.prog 31 #[.pointer none, .int .i64 a] w fun e w' => e = .returned (.bool false) ∧ w = w' := by
  go_enter Try.func31, Try.ntmps31
  go_wp2_with fail
  go_ret
  exact ⟨rfl, rfl⟩

/-- Head where there is none. -/
theorem ohead_none (pv : Option Addr) (a : Int) (w : World) (hc : ∀ w1, Keep [] w w1 → Calls Try.prog 31 #[.pointer pv, .int .i64 a] w1 fun e w' => e = .returned (.bool false) ∧ Keep [] w1 w') :
    Calls Try.prog 11 #[.pointer pv, .int .i64 a] w fun e w' => e = .returned (.tuple #[.agg #[.int .i64 0, .int .i64 0, .int .i64 0, .bool false], .int .i64 2]) ∧ Keep [] w w' := by
  have HC := (show Hid (∀ w1, Keep [] w w1 → Calls Try.prog 31 #[.pointer pv, .int .i64 a] w1 fun e w' => e = .returned (.bool false) ∧ Keep [] w1 w') from hc)
  have hK := Keep.alloc [] w (.cells #[.int .i64 0, .int .i64 0, .int .i64 0, .bool false] 31)
  have hx := heap_alloc_new w (.cells #[.int .i64 0, .int .i64 0, .int .i64 0, .bool false] 31)
  clear hc
  go_enter Try.func11, Try.ntmps11
  go_wp2_with (first | (go_at_call 31; refine (HC.out _ hK).mono ?_; rintro e w1 ⟨rfl, hK1⟩; have hx1 := hK1.blk hx (by simp); obtain ⟨f0, f1, f2, f3⟩ := four_free hx1; obtain ⟨d0, d1, d2, d3⟩ := four_cells hx1))
  obtain ⟨z, hk4⟩ := four_put hx1 (.int .i64 0) (.int .i64 0) (.int .i64 0) (.bool false)
  refine bodyPost_ret (results_cell_tmp_row rfl _ _ w.heap.size 31 #[.int .i64 0, .int .i64 0, .int .i64 0, .bool false] (0, 0) _ rfl z Try.underlying31 rfl (by kernel_rfl)) rfl ?_
  exact ⟨rfl, (((hK.trans hK1).mono (T := [w.heap.size]) (by simp)).trans hk4).drop (by simp)⟩

set_option maxRecDepth 100000 in
set_option maxHeartbeats 1600000 in
theorem ohead_yes {sb tb : Nat} (b m : Nat) (k c l : Int) (f : Bool) (w : World) (h : Has w0 F0 (rawA hb sb tb ws kd ds) w) (hw : WF kd) (hA : At kd ws b b m k c l f) :
    Calls Try.prog 11 #[.pointer (some ⟨hb, 0, none⟩), .int .i64 b] w fun e w' => e = .returned (.tuple #[.agg #[.int .i64 k, .int .i64 c, .int .i64 l, .bool f], .int .i64 0]) ∧ Keep [] w w' := by
  have HI := (show Hid (isAt kd (b : Int) = true) from isAt_yes hA)
  have hK := Keep.alloc [] w (.cells #[.int .i64 0, .int .i64 0, .int .i64 0, .bool false] 31)
  have hx := heap_alloc_new w (.cells #[.int .i64 0, .int .i64 0, .int .i64 0, .bool false] 31)
  have HX := (show Hid (Has w0 F0 (rawA hb sb tb ws kd ds) (w.alloc (.cells #[.int .i64 0, .int .i64 0, .int .i64 0, .bool false] 31))) from h.keep0 hK)
  have HW := (show Hid (WF kd) from hw)
  obtain ⟨_, e1, e2, e3, e4, e5⟩ := hA.facts hw
  have hlt : b < ws.length := by rw [h.cells.2.2.2.2]; omega
  obtain ⟨x, hx'⟩ : ∃ x, ws[b]?.getD 0 = x := ⟨_, rfl⟩
  have HV := (show Hid (ws[b]?.getD 0 = x) from hx')
  have hWd := hA.2.2
  rw [hx'] at hWd
  have HWD := (show Hid (Word x k c l f) from hWd)
  clear h hw hA hx' hWd e1 e2 e3 e4 e5
  go_enter Try.func11, Try.ntmps11
  go_wp2_with (first | (go_at_call 31; refine (obegins b _ HX.out HW.out).mono ?_; rw [HI.out]; rintro e w1 ⟨rfl, hK1⟩; have hx1 := hK1.blk hx (by simp); obtain ⟨c0, _, ⟨ab, ag, c2, hAr⟩, _, _⟩ := (HX.out.keep0 hK1).cells) | (go_at_call 32; refine (xload _ ab ag b hAr hlt).mono ?_; rw [HV.out]; rintro e w' ⟨rfl, rfl⟩) | (go_at_call 33; refine (hget_yes x k c l f _ HWD.out).mono ?_; rintro e w3 ⟨rfl, hK3⟩; have hx3 := (hK3.trans (Keep.alloc [] w3 (.cells #[.int .i64 k, .int .i64 c, .int .i64 l, .bool f] 31))).blk hx1 (by simp); have hy3 := heap_alloc_new w3 (.cells #[.int .i64 k, .int .i64 c, .int .i64 l, .bool f] 31); obtain ⟨f0, f1, f2, f3⟩ := four_free hx3; obtain ⟨d0, d1, d2, d3⟩ := four_cells hx3; obtain ⟨g0, g1, g2, g3⟩ := four_cells hy3; have hlw := lt_of_block hx1; have hne : w.heap.size ≠ w3.heap.size := (by have := hK3.size; omega)))
  obtain ⟨z, hk4⟩ := four_put hx3 (.int .i64 k) (.int .i64 c) (.int .i64 l) (.bool f)
  refine bodyPost_ret (results_cell_tmp_row rfl _ _ w.heap.size 31 #[.int .i64 k, .int .i64 c, .int .i64 l, .bool f] (0, 0) _ rfl z Try.underlying31 rfl (by kernel_rfl)) rfl ?_
  exact ⟨rfl, (((((hK.trans hK1).trans hK3).trans (Keep.alloc [] w3 _)).mono (T := [w.heap.size]) (by simp)).trans hk4).drop (by simp)⟩

theorem ohead (a k c l E : Int) (f : Bool) (w : World) (h : Has w0 F0 (heapA hb ws kd ds) w) (hT : HeadT kd ws a k c l f E) :
    Calls Try.prog 11 #[.pointer (some ⟨hb, 0, none⟩), .int .i64 a] w fun e w' => e = .returned (.tuple #[.agg #[.int .i64 k, .int .i64 c, .int .i64 l, .bool f], .int .i64 E]) ∧ Keep [] w w' := by
  obtain ⟨sb, tb, hr⟩ := h.raw
  have hw := h.fine.wf
  cases hT with
  | no hn =>
    refine ohead_none _ a w (fun w1 K => ?_)
    have := obegins a w1 (hr.keep0 K) hw
    rw [isAt_no hn] at this
    exact this
  | yes b m k c l f hA =>
    obtain ⟨rfl, _⟩ := hA.facts hw
    exact ohead_yes b m k c l f w hr hw hA
theorem ohead_nil (a : Int) (w : World) :
    Calls Try.prog 11 #[.pointer none, .int .i64 a] w fun e w' => e = .returned (.tuple #[.agg #[.int .i64 0, .int .i64 0, .int .i64 0, .bool false], .int .i64 2]) ∧ Keep [] w w' :=
  ohead_none none a w (fun w1 _ => (obegins_nil a w1).mono (by rintro e w' ⟨rfl, rfl⟩; exact ⟨rfl, Keep.refl _ _⟩))

/-! ### Fields -/
set_option maxRecDepth 100000 in
set_option maxHeartbeats 1600000 in
theorem oplace_head (pv : Option Addr) (a i : Int) (k c l E : Int) (f : Bool) (w : World) (hc : Calls Try.prog 11 #[.pointer pv, .int .i64 a] w fun e w' => e = .returned (.tuple #[.agg #[.int .i64 k, .int .i64 c, .int .i64 l, .bool f], .int .i64 E]) ∧ Keep [] w w') (hE : E ≠ 0) :
    Calls Try.prog 26 #[.pointer pv, .int .i64 a, .int .i64 i] w fun e w' => e = .returned (.tuple #[.int .i64 0, .int .i64 E]) ∧ Keep [] w w' := by
  have HC := (show Hid (Calls Try.prog 11 #[.pointer pv, .int .i64 a] w fun e w' => e = .returned (.tuple #[.agg #[.int .i64 k, .int .i64 c, .int .i64 l, .bool f], .int .i64 E]) ∧ Keep [] w w') from hc)
  have hd : (E == 0) = false := by simpa using hE
  clear hc
  go_enter Try.func26, Try.ntmps26
  go_wp2_with (first | (go_at_call 11; refine HC.out.mono ?_; rintro e w1 ⟨rfl, hK1⟩))
  go_ret2
  exact ⟨rfl, hK1.trans (Keep.alloc [] _ _)⟩
set_option maxRecDepth 100000 in
set_option maxHeartbeats 1600000 in
theorem oplace_arg (pv : Option Addr) (a i : Int) (k c l : Int) (f : Bool) (w : World) (hc : Calls Try.prog 11 #[.pointer pv, .int .i64 a] w fun e w' => e = .returned (.tuple #[.agg #[.int .i64 k, .int .i64 c, .int .i64 l, .bool f], .int .i64 0]) ∧ Keep [] w w') (hi : ¬ (0 ≤ i ∧ i < l)) :
    Calls Try.prog 26 #[.pointer pv, .int .i64 a, .int .i64 i] w fun e w' => e = .returned (.tuple #[.int .i64 0, .int .i64 1]) ∧ Keep [] w w' := by
  have HC := (show Hid (Calls Try.prog 11 #[.pointer pv, .int .i64 a] w fun e w' => e = .returned (.tuple #[.agg #[.int .i64 k, .int .i64 c, .int .i64 l, .bool f], .int .i64 0]) ∧ Keep [] w w') from hc)
  clear hc
  by_cases h0 : i < 0
  · go_enter Try.func26, Try.ntmps26
    go_wp2_with (first | (go_at_call 11; refine HC.out.mono ?_; rintro e w1 ⟨rfl, hK1⟩))
    go_ret2
    exact ⟨rfl, hK1.trans (Keep.alloc [] _ _)⟩
  · have h1 : l ≤ i := by omega
    clear hi
    go_enter Try.func26, Try.ntmps26
    go_wp2_with (first | (go_at_call 11; refine HC.out.mono ?_; rintro e w1 ⟨rfl, hK1⟩; have hy := heap_alloc_new w1 (.cells #[.int .i64 k, .int .i64 c, .int .i64 l, .bool f] 31); obtain ⟨g0, g1, g2, g3⟩ := four_cells hy))
    go_ret2
    exact ⟨rfl, hK1.trans (Keep.alloc [] _ _)⟩
set_option maxRecDepth 100000 in
set_option maxHeartbeats 1600000 in
theorem oplace_yes (pv : Option Addr) (b j : Nat) (k c l : Int) (f : Bool) (w : World) (hc : Calls Try.prog 11 #[.pointer pv, .int .i64 b] w fun e w' => e = .returned (.tuple #[.agg #[.int .i64 k, .int .i64 c, .int .i64 l, .bool f], .int .i64 0]) ∧ Keep [] w w') (hj : (j : Int) < l) (hb : b ≤ 20000) (hl : l ≤ 1023) :
    Calls Try.prog 26 #[.pointer pv, .int .i64 b, .int .i64 j] w fun e w' => e = .returned (.tuple #[.int .i64 ((b + 1 + j : Nat) : Int), .int .i64 0]) ∧ Keep [] w w' := by
  have HC := (show Hid (Calls Try.prog 11 #[.pointer pv, .int .i64 b] w fun e w' => e = .returned (.tuple #[.agg #[.int .i64 k, .int .i64 c, .int .i64 l, .bool f], .int .i64 0]) ∧ Keep [] w w') from hc)
  have hd : decide (l ≤ (j : Int)) = false := by rw [decide_eq_false_iff_not]; omega
  have hd0 : decide ((j : Int) < 0) = false := by rw [decide_eq_false_iff_not]; omega
  clear hc
  go_enter Try.func26, Try.ntmps26
  go_wp2_with (first | (go_at_call 11; refine HC.out.mono ?_; rintro e w1 ⟨rfl, hK1⟩; have hy := heap_alloc_new w1 (.cells #[.int .i64 k, .int .i64 c, .int .i64 l, .bool f] 31); obtain ⟨g0, g1, g2, g3⟩ := four_cells hy))
  go_ret2
  exact ⟨by go_num, hK1.trans (Keep.alloc [] _ _)⟩
theorem oplace (a i : Int) (p : Nat) (E : Int) (w : World) (h : Has w0 F0 (heapA hb ws kd ds) w) (hT : PlaceT kd ws a i p E) :
    Calls Try.prog 26 #[.pointer (some ⟨hb, 0, none⟩), .int .i64 a, .int .i64 i] w fun e w' => e = .returned (.tuple #[.int .i64 p, .int .i64 E]) ∧ Keep [] w w' := by
  cases hT with
  | none hn => exact oplace_head _ a i _ _ _ _ _ w (ohead a _ _ _ _ _ w h (.no hn)) (by omega)
  | arg b m k c l f hA hi => exact oplace_arg _ a i _ _ _ _ w (ohead a _ _ _ _ _ w h (.yes b m k c l f hA)) hi
  | yes b m j k c l f hA e hj hl =>
    obtain ⟨rfl, e1, e2, e3, e4, e5⟩ := hA.facts h.fine.wf
    subst e
    have := hA.2.2.bd
    exact oplace_yes _ b j k c l f w (ohead b _ _ _ _ _ w h (.yes b m k c l f hA)) hj (by omega) (by omega)

set_option maxHeartbeats 1600000 in
theorem ofield_no (pv : Option Addr) (a i E : Int) (w : World) (hc : Calls Try.prog 26 #[.pointer pv, .int .i64 a, .int .i64 i] w fun e w' => e = .returned (.tuple #[.int .i64 0, .int .i64 E]) ∧ Keep [] w w') (hE : E ≠ 0) :
    Calls Try.prog 13 #[.pointer pv, .int .i64 a, .int .i64 i] w fun e w' => e = .returned (.tuple #[.int .i64 0, .int .i64 E]) ∧ Keep [] w w' := by
  have HC := (show Hid (Calls Try.prog 26 #[.pointer pv, .int .i64 a, .int .i64 i] w fun e w' => e = .returned (.tuple #[.int .i64 0, .int .i64 E]) ∧ Keep [] w w') from hc)
  have hd : (E == 0) = false := by simpa using hE
  clear hc
  go_enter Try.func13, Try.ntmps13
  go_wp2_with (first | (go_at_call 26; refine HC.out.mono ?_; rintro e w1 ⟨rfl, hK1⟩))
  go_ret2
  exact ⟨rfl, hK1⟩
set_option maxHeartbeats 1600000 in
theorem ofield (a i N E : Int) (w : World) (h : Has w0 F0 (heapA hb ws kd ds) w) (hT : FieldT kd ws a i N E) :
    Calls Try.prog 13 #[.pointer (some ⟨hb, 0, none⟩), .int .i64 a, .int .i64 i] w fun e w' => e = .returned (.tuple #[.int .i64 N, .int .i64 E]) ∧ Keep [] w w' := by
  cases hT with
  | no E hp hE => exact ofield_no _ a i E w (oplace a i 0 E w h hp) (by omega)
  | yes p hp hlt =>
    obtain ⟨sb, tb, hr⟩ := h.raw
    have HC := (show Hid (Calls Try.prog 26 #[.pointer (some ⟨hb, 0, none⟩), .int .i64 a, .int .i64 i] w fun e w' => e = .returned (.tuple #[.int .i64 p, .int .i64 0]) ∧ Keep [] w w') from oplace a i p 0 w h hp)
    have HR := (show Hid (Has w0 F0 (rawA hb sb tb ws kd ds) w) from hr)
    obtain ⟨x, hx'⟩ : ∃ x, ws[p]?.getD 0 = x := ⟨_, rfl⟩
    have HV := (show Hid (ws[p]?.getD 0 = x) from hx')
    rw [hx']
    clear hr h hp hx'
    go_enter Try.func13, Try.ntmps13
    go_wp2_with (first | (go_at_call 26; refine HC.out.mono ?_; rintro e w1 ⟨rfl, hK1⟩; obtain ⟨c0, _, ⟨ab, ag, c2, hAr⟩, _, _⟩ := (HR.out.keep0 hK1).cells) | (go_at_call 32; refine (xload _ ab ag p hAr hlt).mono ?_; rw [HV.out]; rintro e w' ⟨rfl, rfl⟩))
    go_ret2
    exact ⟨rfl, hK1⟩
set_option maxHeartbeats 1600000 in
theorem oput_no (pv : Option Addr) (a i x E : Int) (w : World) (hc : Calls Try.prog 26 #[.pointer pv, .int .i64 a, .int .i64 i] w fun e w' => e = .returned (.tuple #[.int .i64 0, .int .i64 E]) ∧ Keep [] w w') (hE : E ≠ 0) :
    Calls Try.prog 9 #[.pointer pv, .int .i64 a, .int .i64 i, .int .i64 x] w fun e w' => e = .returned (.int .i64 E) ∧ Keep [] w w' := by
  have HC := (show Hid (Calls Try.prog 26 #[.pointer pv, .int .i64 a, .int .i64 i] w fun e w' => e = .returned (.tuple #[.int .i64 0, .int .i64 E]) ∧ Keep [] w w') from hc)
  have hd : (E == 0) = false := by simpa using hE
  clear hc
  go_enter Try.func9, Try.ntmps9
  go_wp2_with (first | (go_at_call 26; refine HC.out.mono ?_; rintro e w1 ⟨rfl, hK1⟩))
  go_ret
  exact ⟨rfl, hK1⟩
set_option maxHeartbeats 1600000 in
theorem oput (a i x E : Int) (ws' : List Int) (w : World) (h : Has w0 F0 (heapA hb ws kd ds) w) (hT : PutT kd ws a i x E ws') (hx : inI x) :
    Calls Try.prog 9 #[.pointer (some ⟨hb, 0, none⟩), .int .i64 a, .int .i64 i, .int .i64 x] w fun e w' => e = .returned (.int .i64 E) ∧ Has w0 F0 (heapA hb ws' kd ds) w' := by
  have hfin := hT.fine h.fine hx
  cases hT with
  | no E hp hE =>
    refine (oput_no _ a i x E w (oplace a i 0 E w h hp) (by omega)).mono ?_
    rintro e w' ⟨rfl, hK⟩
    exact ⟨rfl, h.keep0 hK⟩
  | yes p hp hlt =>
    obtain ⟨sb, tb, hr⟩ := h.raw
    have HC := (show Hid (Calls Try.prog 26 #[.pointer (some ⟨hb, 0, none⟩), .int .i64 a, .int .i64 i] w fun e w' => e = .returned (.tuple #[.int .i64 p, .int .i64 0]) ∧ Keep [] w w') from oplace a i p 0 w h hp)
    have HR := (show Hid (Has w0 F0 (rawA hb sb tb ws kd ds) w) from hr)
    have HFI := (show Hid (Fine (ws.set p x) kd ds) from hfin)
    clear hr h hp hfin hx
    go_enter Try.func9, Try.ntmps9
    go_wp2_with (first | (go_at_call 26; refine HC.out.mono ?_; rintro e w1 ⟨rfl, hK1⟩; obtain ⟨c0, _, ⟨ab, ag, c2, hAr⟩, _, _⟩ := (HR.out.keep0 hK1).cells) | (go_at_call 27; refine (xstore _ ab p x (HR.out.keep0 hK1) c2 hlt).mono ?_; rintro e w2 ⟨rfl, hH2⟩))
    go_ret
    exact ⟨rfl, hH2.heap HFI.out⟩

/-! ### Heads -/
set_option maxHeartbeats 1600000 in
theorem osethead {sb tb : Nat} (b : Nat) (k c l : Int) (f : Bool) (w : World) (h : Has w0 F0 (rawA hb sb tb ws kd ds) w) (hm : mayH k c l f = true) (hlt : b < ws.length) :
    Calls Try.prog 25 #[.pointer (some ⟨hb, 0, none⟩), .int .i64 b, .agg #[.int .i64 k, .int .i64 c, .int .i64 l, .bool f]] w fun e w' => e = .returned (.int .i64 0) ∧ Has w0 F0 (rawA hb sb tb (ws.set b (putH k c l f)) kd ds) w' := by
  have hK := Keep.alloc [] w (.cells #[.int .i64 k, .int .i64 c, .int .i64 l, .bool f] 31)
  have hx := heap_alloc_new w (.cells #[.int .i64 k, .int .i64 c, .int .i64 l, .bool f] 31)
  obtain ⟨g0, g1, g2, g3⟩ := four_cells hx
  have HX := (show Hid (Has w0 F0 (rawA hb sb tb ws kd ds) (w.alloc (.cells #[.int .i64 k, .int .i64 c, .int .i64 l, .bool f] 31))) from h.keep0 hK)
  have HM := (show Hid (mayH k c l f = true) from hm)
  obtain ⟨x, hx'⟩ : ∃ x, putH k c l f = x := ⟨_, rfl⟩
  have HP := (show Hid (putN k c l f = x) from by show _ = _; unfold putN; rw [if_pos hm]; exact hx')
  rw [hx']
  clear h hm hx'
  go_enter Try.func25, Try.ntmps25
  go_wp2_with (first | (go_at_call 45; refine (hput_any k c l f _).mono ?_; rw [HP.out, HM.out]; rintro e w1 ⟨rfl, hK1⟩; obtain ⟨c0, _, ⟨ab, ag, c2, hAr⟩, _, _⟩ := (HX.out.keep0 hK1).cells) | (go_at_call 27; refine (xstore _ ab b x (HX.out.keep0 hK1) c2 hlt).mono ?_; rintro e w2 ⟨rfl, hH2⟩))
  go_ret
  exact ⟨rfl, hH2⟩

end

end Go.Proofs.Ytdpaffnpedcmpab
