/-
  BlockRuns answers true, whatever it is given.
-/
import Derived.Test.YtmnmgibhjjdkaaaFills5
import Derived.Test.YtmnmgibhjjdkaaaRefBits
import Derived.Test.YtmnmgibhjjdkaaaLists
namespace Go.Proofs.Ytmnmgibhjjdkaaa
open Go.RowKit

set_option maxRecDepth 100000 in
set_option maxHeartbeats 1000000 in
theorem runs5_no (c : Int) (ao : Option Addr) (n cp : Nat) (w : World) (h : ¬ (0 ≤ c ∧ c < 5)) :
    Calls Try.prog 3 #[.int .i64 c, .slice ao n cp] w fun e w' => e = .returned (.bool true) ∧ Keep [] w w' := by
  rcases (show c < 0 ∨ 0 ≤ c ∧ 4 < c by omega) with h1 | ⟨h0, h1⟩
  all_goals
    go_enter Try.func3, Try.ntmps3
    go_wp2_with (first | (go_at_call 7; refine (knew_no _ _ h).mono ?_; rintro e w1 ⟨rfl, hK1⟩) | (go_at_call 8; refine (err_any _ _).mono ?_; rintro e w' ⟨rfl, rfl⟩) | (go_at_call 9; refine (awake5_any _).mono ?_; rintro e w8 ⟨rfl, hK8⟩))
    go_ret
    exact ⟨rfl, hK1.trans hK8⟩

theorem div3_in (v : Int) (h : -9223372036854775808 ≤ v ∧ v ≤ 9223372036854775807) : -9223372036854775808 ≤ v.tdiv 3 ∧ v.tdiv 3 ≤ 9223372036854775807 := by
  rcases Int.le_total 0 v with h0 | h0
  · rw [Int.tdiv_eq_ediv_of_nonneg h0]; omega
  · have e : v.tdiv 3 = -((-v).tdiv 3) := by rw [Int.neg_tdiv, Int.neg_neg]
    rw [e, Int.tdiv_eq_ediv_of_nonneg (by omega)]; omega
theorem decide_beq (a b : Int) : decide (a = b) = (a == b) := by
  by_cases h : a = b <;> simp [h]

set_option maxRecDepth 100000 in
set_option maxHeartbeats 8000000 in
theorem runs5_any (c : Nat) (ao : Option Addr) (n cp : Nat) (L : List Int) (w : World) (hc2 : c < 5) (hn : n ≤ 9223372036854775807) (hl : ListAt w ao .i64 n L) :
    Calls Try.prog 3 #[.int .i64 c, .slice ao n cp] w fun e w' => e = .returned (.bool true) ∧ Keep [] w w' := by
  obtain ⟨s, m, hs, hm, hq1, hq2, hsm, hs1, hm1, hm2, hs2⟩ := room_facts c hc2
  have HN := (show Hid (ListAt w ao .i64 n L) from hl)
  have HSZ := (show Hid (sizesL[c]?.getD 0 = s) from hs)
  have hm0 : (m : Int) ≠ 0 := by omega
  have hc0 : decide ((c : Int) < 0) = false := by rw [decide_eq_false_iff_not]; omega
  have hc4 : decide (4 < (c : Int)) = false := by rw [decide_eq_false_iff_not]; omega
  have hmk : ∀ w, (Instr.makeSlice 34 (.int .i64 (m : Int)) (.int .i64 (m : Int))).run Try.prog w = .ok (.slice (some ⟨w.heap.size, 0, none⟩) m m) (w.alloc (.cells (madeCells #[.bool false] m) 4)) :=
    fun w => run_make_row' (P := Try.prog) 34 4 (.bool false) 1 Try.underlying34 Try.infoBool rfl .i64 .i64 m (by omega) (by omega) w
  clear hl
  go_enter Try.func3, Try.ntmps3
  go_wp2_with fail
  refine (knew_ok c w hc2).mono ?_
  rw [hs, hm]
  rintro e w1 ⟨pb, b, g, rfl, hA, hK, hp, hb, hg⟩
  have hc := hA.cell
  clear hs hm
  go_wp2_with (first | (go_at_call 8; refine (err_any _ _).mono ?_; rintro e w' ⟨rfl, rfl⟩) | (go_at_call 10; refine (rsizes_any _).mono ?_; rintro e w2 ⟨gs, rfl, hr, hK2, hgs⟩; have hx := hr.cell (i := c) hc2; rw [HSZ.out] at hx))
  have hR := BRow.made w2 4 m
  have hKa := Keep.alloc [] w2 (.cells (madeCells #[.bool false] m) 4)
  have hA5 := (hA.keep hK2 (by simp) (by simp) (by simp)).keep hKa (by simp) (by simp) (by simp)
  have hK5 := (hK.trans hK2).trans hKa
  have lt4 := hA.lt
  have sz4 := hK2.size
  have sz1 := hK.size
  clear hA hK hK2 hKa hmk hx hr hc
  generalize w2.alloc (.cells (madeCells #[.bool false] m) 4) = w3 at *
  obtain ⟨gm, hgm⟩ : ∃ gm, w2.heap.size = gm := ⟨_, rfl⟩
  rw [hgm] at hR sz4 ⊢
  have hgs2 : pb < gm ∧ b < gm ∧ g < gm ∧ w.heap.size ≤ gm := by omega
  clear hgm sz4 sz1 lt4 hgs HSZ
  go_loopw [9] (fun i wr => ∃ (j : Nat) (xs : List Bool), i = .int .i64 j ∧ j ≤ n ∧ j ≤ 90 ∧ Hid (xs.length = m) ∧ IsPage wr pb b g s xs ∧ BRow wr 4 gm xs ∧ Keep [g, gm] w wr) (fun i _ => 90 - (intOf i).toNat)
  case atStart => exact ⟨0, _, rfl, by omega, by omega, offs_length m, hA5, hR, hK5.mono (by simp)⟩
  case round =>
    obtain ⟨j, xs, rfl, hj, hj90, HL, hA6, hR6, hK6⟩ := hrel
    clear hA5 hR hK5
    by_cases hlt2 : j < n ∧ j < 90
    · obtain ⟨hjn, hj9⟩ := hlt2
      obtain ⟨ab, off, rfl, hab, hc⟩ := HN.out.cells (by omega)
      have hx := (hK6.cell hab (by simp; omega) (off + j)).trans (hc j hjn)
      have hv := bounds_i64 (HN.out.wf j hjn)
      generalize L[j]?.getD 0 = v at *
      clear hc
      by_cases h3 : v.tmod 3 = 0
      · have h3d : decide (v.tmod 3 = 0) = true := by rw [decide_eq_true_iff]; exact h3
        obtain ⟨k, hk⟩ : ∃ k, v.tdiv 3 = k := ⟨_, rfl⟩
        have hkb : -9223372036854775808 ≤ k ∧ k ≤ 9223372036854775807 := by rw [← hk]; exact div3_in v hv
        cases hh : hasR xs k
        · obtain ⟨e1, e2⟩ := gv_no xs k hh
          have HH := (show Hid (hasR xs k = false) from hh)
          clear hh e1 e2
          go_wp2_with fail
          refine (kgive_no pb b g k s _ _ hA6 HH.out).mono ?_
          rintro e w' ⟨rfl, rfl⟩
          go_wp2_with (first | (go_at_call 8; refine (err_any _ _).mono ?_; rintro e w' ⟨rfl, rfl⟩))
          refine (rhas_any gm m m k _ _ hR6 HL.out).mono ?_
          rw [HH.out]
          rintro e w' ⟨rfl, rfl⟩
          obtain ⟨ys, hys⟩ : ∃ ys, ys = xs := ⟨_, rfl⟩
          rw [← hys] at hA6 hR6 HL
          have hA9 := hA6
          have hR9 := hR6
          have hK9 := hK6
          have HY := HL
          clear hys hA6 hR6 hK6 HL HH
          have HC0 := (show Hid (noneB ys = ((cntA ys : Int) == 0)) from (none_count ys).trans (decide_beq _ _))
          have HC1 := (show Hid (allB ys = ((cntA ys : Int) == (m : Int))) from by have := all_count ys; rw [HY.out] at this; exact this.trans (decide_beq _ _))
          obtain ⟨cy, hcy⟩ : ∃ cy, cntA ys = cy := ⟨_, rfl⟩
          have HCY := (show Hid (cntA ys = cy) from hcy)
          clear hcy
          have hc9 := hA9.cell
          go_wp2_with (first | (go_at_call 8; refine (err_any _ _).mono ?_; rintro e w' ⟨rfl, rfl⟩) | (go_at_call 15; refine (kempty_any pb b g _ _ _ hA9).mono ?_; rw [HC0.out, HCY.out]; rintro e w' ⟨rfl, rfl⟩) | (go_at_call 17; refine (kfull_any pb b g _ _ _ hA9).mono ?_; rw [HC1.out, HCY.out]; rintro e w' ⟨rfl, rfl⟩) | (go_at_call 16; refine (rcount_any gm m m _ _ hR9 HY.out (by omega)).mono ?_; rw [HCY.out]; rintro e w' ⟨rfl, rfl⟩) | (go_at_call 18; refine (bcount_any b g _ _ hA9.bits).mono ?_; rw [HCY.out]; rintro e w' ⟨rfl, rfl⟩))
          all_goals
            go_roundw
            case rel => exact ⟨j + 1, ys, by go_num, by omega, by omega, HY, hA9, hR9, hK9⟩
            case measure => simp [intOf]; omega
        · obtain ⟨kn, rfl⟩ := Int.eq_ofNat_of_zero_le (has_in xs k hh).1
          have hkn : kn < xs.length := by have := (has_in xs kn hh).2; omega
          have hkm : kn < m := by rw [← HL.out]; exact hkn
          have HH := (show Hid (hasR xs kn = true) from hh)
          clear hh
          go_wp2_with fail
          refine (kgive_yes pb b g kn s _ _ hA6 HH.out).mono ?_
          rintro e w5 ⟨rfl, hA7, hK7⟩
          have hR7 := hR6.keep hK7 (by simp; omega)
          have y1 := hR7.cell hkn
          have y2 := hR7.free kn
          have hR9 := hR7.put kn false
          have hKs : Keep [gm] w5 (w5.setCell ⟨gm, kn, none⟩ (.bool false)) := Keep.setCell _ _ (by simp)
          have hA9 := hA7.keep hKs (by simp; omega) (by simp; omega) (by simp; omega)
          have hK9 := (hK6.trans (hK7.mono (by simp))).trans (hKs.mono (T := [g, gm]) (by simp))
          have HY := (show Hid ((xs.set kn false).length = m) from (List.length_set ..).trans HL.out)
          go_wp2_with (first | (go_at_call 8; refine (err_any _ _).mono ?_; rintro e w' ⟨rfl, rfl⟩))
          refine (rhas_any gm m m kn _ _ hR7 HL.out).mono ?_
          rw [HH.out]
          rintro e w' ⟨rfl, rfl⟩
          generalize xs.set kn false = ys at *
          clear hA6 hR6 hK6 HL HH hA7 hK7 hR7 hKs
          have HC0 := (show Hid (noneB ys = ((cntA ys : Int) == 0)) from (none_count ys).trans (decide_beq _ _))
          have HC1 := (show Hid (allB ys = ((cntA ys : Int) == (m : Int))) from by have := all_count ys; rw [HY.out] at this; exact this.trans (decide_beq _ _))
          obtain ⟨cy, hcy⟩ : ∃ cy, cntA ys = cy := ⟨_, rfl⟩
          have HCY := (show Hid (cntA ys = cy) from hcy)
          clear hcy
          have hc9 := hA9.cell
          go_wp2_with (first | (go_at_call 8; refine (err_any _ _).mono ?_; rintro e w' ⟨rfl, rfl⟩) | (go_at_call 15; refine (kempty_any pb b g _ _ _ hA9).mono ?_; rw [HC0.out, HCY.out]; rintro e w' ⟨rfl, rfl⟩) | (go_at_call 17; refine (kfull_any pb b g _ _ _ hA9).mono ?_; rw [HC1.out, HCY.out]; rintro e w' ⟨rfl, rfl⟩) | (go_at_call 16; refine (rcount_any gm m m _ _ hR9 HY.out (by omega)).mono ?_; rw [HCY.out]; rintro e w' ⟨rfl, rfl⟩) | (go_at_call 18; refine (bcount_any b g _ _ hA9.bits).mono ?_; rw [HCY.out]; rintro e w' ⟨rfl, rfl⟩))
          all_goals
            go_roundw
            case rel => exact ⟨j + 1, ys, by go_num, by omega, by omega, HY, hA9, hR9, hK9⟩
            case measure => simp [intOf]; omega
      · have h3d : decide (v.tmod 3 = 0) = false := by rw [decide_eq_false_iff_not]; exact h3
        rcases nextR_spec xs false _ 0 rfl with ⟨h1, _⟩ | ⟨kn, h1, _, hkn, _⟩
        · have HH := (show Hid (nextR xs (0 : Int).toNat false = -1) from h1)
          clear h1
          go_wp2_with fail
          refine (ktake_no pb b g s _ _ hA6 HH.out).mono ?_
          rintro e w' ⟨rfl, rfl⟩
          go_wp2_with fail
          refine (rnext_any gm m m 0 false _ _ hR6 HL.out (by omega) (by omega)).mono ?_
          rw [HH.out]
          rintro e w' ⟨rfl, rfl⟩
          obtain ⟨ys, hys⟩ : ∃ ys, ys = xs := ⟨_, rfl⟩
          rw [← hys] at hA6 hR6 HL
          have hA9 := hA6
          have hR9 := hR6
          have hK9 := hK6
          have HY := HL
          clear hys hA6 hR6 hK6 HL HH
          have HC0 := (show Hid (noneB ys = ((cntA ys : Int) == 0)) from (none_count ys).trans (decide_beq _ _))
          have HC1 := (show Hid (allB ys = ((cntA ys : Int) == (m : Int))) from by have := all_count ys; rw [HY.out] at this; exact this.trans (decide_beq _ _))
          obtain ⟨cy, hcy⟩ : ∃ cy, cntA ys = cy := ⟨_, rfl⟩
          have HCY := (show Hid (cntA ys = cy) from hcy)
          clear hcy
          have hc9 := hA9.cell
          go_wp2_with (first | (go_at_call 8; refine (err_any _ _).mono ?_; rintro e w' ⟨rfl, rfl⟩) | (go_at_call 15; refine (kempty_any pb b g _ _ _ hA9).mono ?_; rw [HC0.out, HCY.out]; rintro e w' ⟨rfl, rfl⟩) | (go_at_call 17; refine (kfull_any pb b g _ _ _ hA9).mono ?_; rw [HC1.out, HCY.out]; rintro e w' ⟨rfl, rfl⟩) | (go_at_call 16; refine (rcount_any gm m m _ _ hR9 HY.out (by omega)).mono ?_; rw [HCY.out]; rintro e w' ⟨rfl, rfl⟩) | (go_at_call 18; refine (bcount_any b g _ _ hA9.bits).mono ?_; rw [HCY.out]; rintro e w' ⟨rfl, rfl⟩))
          all_goals
            go_roundw
            case rel => exact ⟨j + 1, ys, by go_num, by omega, by omega, HY, hA9, hR9, hK9⟩
            case measure => simp [intOf]; omega
        · have HH := (show Hid (nextR xs (0 : Int).toNat false = kn) from h1)
          clear h1
          have hkm : kn < m := by rw [← HL.out]; exact hkn
          have hk0 : decide ((kn : Int) < 0) = false := by rw [decide_eq_false_iff_not]; omega
          go_wp2_with fail
          refine (ktake_yes pb b g kn s _ _ hA6 HH.out hkn).mono ?_
          rintro e w5 ⟨rfl, hA7, hK7⟩
          have hR7 := hR6.keep hK7 (by simp; omega)
          have y1 := hR7.cell hkn
          have y2 := hR7.free kn
          have hR9 := hR7.put kn true
          have hKs : Keep [gm] w5 (w5.setCell ⟨gm, kn, none⟩ (.bool true)) := Keep.setCell _ _ (by simp)
          have hA9 := hA7.keep hKs (by simp; omega) (by simp; omega) (by simp; omega)
          have hK9 := (hK6.trans (hK7.mono (by simp))).trans (hKs.mono (T := [g, gm]) (by simp))
          have HY := (show Hid ((xs.set kn true).length = m) from (List.length_set ..).trans HL.out)
          go_wp2_with fail
          refine (rnext_any gm m m 0 false _ _ hR7 HL.out (by omega) (by omega)).mono ?_
          rw [HH.out]
          rintro e w' ⟨rfl, rfl⟩
          generalize xs.set kn true = ys at *
          clear hA6 hR6 hK6 HL HH hA7 hK7 hR7 hKs
          have HC0 := (show Hid (noneB ys = ((cntA ys : Int) == 0)) from (none_count ys).trans (decide_beq _ _))
          have HC1 := (show Hid (allB ys = ((cntA ys : Int) == (m : Int))) from by have := all_count ys; rw [HY.out] at this; exact this.trans (decide_beq _ _))
          obtain ⟨cy, hcy⟩ : ∃ cy, cntA ys = cy := ⟨_, rfl⟩
          have HCY := (show Hid (cntA ys = cy) from hcy)
          clear hcy
          have hc9 := hA9.cell
          go_wp2_with (first | (go_at_call 8; refine (err_any _ _).mono ?_; rintro e w' ⟨rfl, rfl⟩) | (go_at_call 15; refine (kempty_any pb b g _ _ _ hA9).mono ?_; rw [HC0.out, HCY.out]; rintro e w' ⟨rfl, rfl⟩) | (go_at_call 17; refine (kfull_any pb b g _ _ _ hA9).mono ?_; rw [HC1.out, HCY.out]; rintro e w' ⟨rfl, rfl⟩) | (go_at_call 16; refine (rcount_any gm m m _ _ hR9 HY.out (by omega)).mono ?_; rw [HCY.out]; rintro e w' ⟨rfl, rfl⟩) | (go_at_call 18; refine (bcount_any b g _ _ hA9.bits).mono ?_; rw [HCY.out]; rintro e w' ⟨rfl, rfl⟩))
          all_goals
            go_roundw
            case rel => exact ⟨j + 1, ys, by go_num, by omega, by omega, HY, hA9, hR9, hK9⟩
            case measure => simp [intOf]; omega
    · have hK9 := hK6.drop (T := []) (by simp; omega)
      have hc9 := hA6.cell
      have hsz : (xs.length : Int) = m := by rw [HL.out]
      have HZ := (show Hid ((xs.length : Int) = m) from hsz)
      clear hK6 hR6 hsz
      rcases (show j = n ∨ j < n ∧ j = 90 by omega) with rfl | ⟨hjn, rfl⟩
      all_goals
        go_wp2_with (first | (go_at_call 19; refine (kwords_any pb b g _ _ _ hA6).mono ?_; rintro e w' ⟨rfl, rfl⟩) | (go_at_call 20; refine (bsize_any b g _ _ hA6.bits).mono ?_; rw [HZ.out]; rintro e w' ⟨rfl, rfl⟩) | (go_at_call 9; refine (awake5_any _).mono ?_; rintro e wq ⟨rfl, hKq⟩))
        go_ret
        exact ⟨rfl, hK9.trans hKq⟩

end Go.Proofs.Ytmnmgibhjjdkaaa

namespace Go.Proofs.Ytmnmgibhjjdkaaa.blockRuns
open Go.RowKit
theorem walk (a0 : Int) (o1 : Option Addr) (len1 cap1 : Nat) (A1 : List Int) (_w0 : (Lit.int .i64 a0).wf = true) (w1 : len1 ≤ 9223372036854775807) (w : World) (u1 : ListAt w o1 .i64 len1 A1) :
    Calls Try.prog 3 #[.int .i64 a0, .slice o1 len1 cap1] w fun e w' => e = .returned (.bool true) ∧ Keep [] w w' := by
  by_cases h : 0 ≤ a0 ∧ a0 < 5
  · obtain ⟨c, rfl⟩ := Int.eq_ofNat_of_zero_le h.1
    exact runs5_any c o1 len1 cap1 A1 w (by omega) w1 u1
  · exact runs5_no a0 o1 len1 cap1 w h
end Go.Proofs.Ytmnmgibhjjdkaaa.blockRuns
