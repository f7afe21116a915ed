/-
  HandleOrder: the first slot that does not hold is taken; all are told by slot.
-/
import Derived.Test.YtenggkgmbmboeaaAwake10
import Derived.Test.YtenggkgmbmboeaaOrderM
import Derived.Test.YtenggkgmbmboeaaPRow
import Derived.Test.YtenggkgmbmboeaaLists
import Derived.Test.YtenggkgmbmboeaaClass
import Derived.Test.YtenggkgmbmboeaaOpens
import Derived.Deep.CutRange
namespace Go.Proofs.Ytenggkgmbmboeaa.handleOrder
open Go.RowKit

theorem Try.infoBoolH : (Try.prog.info? 4).map (fun i => (i.zero, i.size, i.bytes)) = some (some (.bool false), 1, 1) := by kernel_rfl

set_option maxRecDepth 100000 in
set_option maxHeartbeats 6400000 in
theorem core (n k n0 : Nat) (ao : Option Addr) (dn dc : Nat) (A : Nat → Nat) (w : World) (hn : n < 256) (hd : dn ≤ 9223372036854775807) (hl : U8At w ao dn A) (hn0 : (n : Int) % 60 = n0) (hk : (1 : Int) + n0 = k) (hk1 : 1 ≤ k) (hk2 : k ≤ 60) :
    Calls Try.prog 6 #[.int .u8 n, .slice ao dn dc] w fun e w' => e = .returned (.bool true) ∧ Keep [] w w' := by
  obtain ⟨i0, hi, hz0, hz1, hz2⟩ := info_parts Try.infoIntC
  have hI : Hid (Try.prog.info? 3 = some i0 ∧ i0.zero = some (.int .i64 0) ∧ i0.size = 1 ∧ i0.bytes = 8) := ⟨hi, hz0, hz1, hz2⟩
  clear hi hz0 hz1 hz2
  have HN := (show Hid (U8At w ao dn A) from hl)
  clear hl
  go_enter Try.func6, Try.ntmps6
  go_wp2_with fail
  refine (hnew_any _).mono ?_
  rintro e w1 ⟨b, rfl, hI1, hK1, hb⟩
  have hb1 := hI1.lt
  have HKW := (show Hid (Keep [] w w1) from hK1)
  clear hK1
  go_wp2_with fail
  clear hn0 hk
  go_loopw [7, 8] (fun l i wr => ∃ (jn : Nat) (la : Option Addr) (lc : Nat) (xs : List Int), l = .slice la jn lc ∧ i = .int .i64 jn ∧ jn ≤ k ∧ Hid (IsHand wr b xs onesL) ∧ Hid (HOK 0 xs onesL) ∧ Hid (Pref xs jn) ∧ Hid (∀ t : Nat, t < jn → xs[t]?.getD 0 = (t : Int) + 1) ∧ Hid (wr.ownsRow w1.heap.size 3 1 (.slice la jn lc) jn (ints (upH jn))) ∧ Keep [b] w1 wr) (fun _ i _ => k - (intOf i).toNat)
  case atStart => exact ⟨0, none, 0, zeros 512, rfl, rfl, by omega, hI1, HOK.fresh, Pref.zeros, fun t h => by omega, World.ownsRow_nil _ _ _ _, Keep.refl _ _⟩
  case round =>
    obtain ⟨jn, la, lc, xs, rfl, rfl, hjn, HI, HK, HP, HX, HO, hK⟩ := hrel
    obtain ⟨w2, rfl⟩ : ∃ w2, w2 = wr := ⟨_, rfl⟩
    clear hI1
    by_cases hlt : jn < k
    · have HT := (show Hid (HoldT xs onesL ((jn : Int) + 1) (512 + (jn : Int)) 0 (xs.set jn ((jn : Int) + 1))) from .inr (.inr ⟨by omega, jn, HP.out.free (by omega), by rw [onesL_get jn (by omega)]; omega, rfl, rfl⟩))
      have hm1 : (512 + (jn : Int)) % 512 = jn := by omega
      have hm2 : (512 + (jn : Int)).tmod 512 = jn := by rw [Int.tmod_eq_emod_of_nonneg (by omega)]; omega
      go_upto_region 10 with (first | (go_at_call 12; refine (hhold b ((jn : Int) + 1) (512 + (jn : Int)) 0 xs onesL _ _ HI.out HK.out (by omega) (by omega) HT.out).mono ?_; rintro e w3 ⟨rfl, hI3, hK3⟩))
      have HI3 := (show Hid (IsHand w3 b (xs.set jn ((jn : Int) + 1)) onesL) from hI3)
      have hK3w := hK.trans hK3
      have HO3 := (show Hid (w3.ownsRow w1.heap.size 3 1 (.slice la jn lc) jn (ints (upH jn))) from own_keep HO.out hK3 (by simp; omega))
      clear hI3 HI HO hK3
      go_upto_region 12 with (first | (go_at_call 14; refine (err_any _ _).mono ?_; rintro e w' ⟨rfl, rfl⟩))
      have hsz3 := hK3w.size
      have HNB := (show Hid (b ∉ (Value.slice la jn lc).ownBlock.toList) from fun e => by have := own_block HO3.out b (by simpa using e); omega)
      go_wp2_with (first | (at_builtin; refine append_ints rfl (.tmp 48) (.tmp 50) 46 rfl w1.heap.size 3 i0 Try.underlying46 hI.out (.slice la jn lc) jn (upH jn) [512 + (jn : Int)] rfl (HO3.out.alloc _) (some ⟨w3.heap.size, 0, none⟩) 1 1 rfl rfl (IntsAt.single w3 3 _ (by omega) (by omega)) (fun e => by cases e) (by omega) (by simp; omega) ?_; intro v' w5 hown5 hgrow; have HK5 := (show Hid (Keep [b] w1 w5) from (hK3w.trans (Keep.alloc [b] _ _)).grownS hgrow (own_block HO3.out)); have HI5 := (show Hid (IsHand w5 b (xs.set jn ((jn : Int) + 1)) onesL) from (HI3.out.keep (Keep.alloc [] w3 _) (by simp)).keep (Keep.ofGrown hgrow) HNB.out); obtain ⟨lb, lbc, rfl, _⟩ := own_form hown5 (by rw [← upH_succ]; exact upH_bd _ (by omega)); have HO5 := (show Hid (w5.ownsRow w1.heap.size 3 1 (.slice lb (jn + 1) lbc) (jn + 1) (ints (upH (jn + 1)))) from by show World.ownsRow _ _ _ _ _ _ _; rw [upH_succ]; exact hown5); clear hown5 hgrow))
      go_roundw
      case rel => exact ⟨jn + 1, lb, lbc, _, rfl, by go_num, by omega, HI5, HT.out.ok HK.out (by omega), HP.out.set (by rw [HK.out.lx]; omega) _ (by omega), fun t ht => by
        by_cases e : jn = t
        · subst e; rw [set_get_same _ _ _ (by rw [HK.out.lx]; omega)]
        · rw [set_get_other _ _ _ _ e]; exact HX.out t (by omega), HO5, HK5.out⟩
      case measure => simp [intOf]; omega
    · obtain rfl : jn = k := by omega
      obtain ⟨g, cap, hsl, hLl, hbg, hPR⟩ := own_prow HO.out (by omega)
      cases hsl
      obtain ⟨e1, e2⟩ := start HK.out HP.out HX.out
      have hI2 := HI.out
      rw [e1, e2] at hI2
      have hgb : g ≠ b := by omega
      have HK2 := (show Hid (Keep [] w w2) from ((HKW.out.mono (by simp)).trans hK).drop (by simp; omega))
      have hgw : w.heap.size ≤ g := by have := HKW.out.size; omega
      have hmk : ∀ w, (Instr.makeSlice 51 (.int .i64 (jn : Int)) (.int .i64 (jn : Int))).run Try.prog w = .ok (.slice (some ⟨w.heap.size, 0, none⟩) jn jn) (w.alloc (.cells (madeCells #[.bool false] jn) 4)) :=
        fun w => run_make_row' (P := Try.prog) 51 4 (.bool false) 1 Try.underlying51 Try.infoBoolH rfl .i64 .i64 jn (by omega) (by omega) w
      have hBR := BRow.made w2 4 jn
      have hKa := Keep.alloc [] w2 (.cells (madeCells #[.bool false] jn) 4)
      have hIa := hI2.keep hKa (by simp)
      have hPa := hPR.keep hKa (by simp)
      have hbl := hI2.lt
      have hgl := hPR.lt
      have HKa := (show Hid (Keep [] w (w2.alloc (.cells (madeCells #[.bool false] jn) 4))) from HK2.out.trans hKa)
      have hgf : w2.heap.size < (w2.alloc (.cells (madeCells #[.bool false] jn) 4)).heap.size := by simp
      have hwf : w.heap.size ≤ w2.heap.size := HK2.out.size
      clear HO HX HP HK HI e1 e2 hI2 hPR hK HKW hKa
      go_wp2_with fail
      clear hmk
      generalize w2.alloc (.cells (madeCells #[.bool false] jn) 4) = w3 at *
      generalize w2.heap.size = gf at *
      have h1 : b ≠ gf := by omega
      have h2 : g ≠ gf := by omega
      have HP3 := (show Hid (PRow w3 3 g (LF jn 0 (offs jn))) from by show PRow _ _ _ _; rw [LF_zero]; exact hPa)
      clear hPa
      go_loopw [12] (fun i wr => ∃ (i1 : Nat) (fr : List Bool), i = .int .i64 i1 ∧ i1 ≤ 30 ∧ i1 ≤ dn ∧ Hid (fr.length = jn) ∧ Hid (IsHand wr b (xsF jn 0 fr) (tsF fr)) ∧ Hid (PRow wr 3 g (LF jn 0 fr)) ∧ Hid (BRow wr 4 gf fr) ∧ Keep [b, gf] w3 wr) (fun i _ => 30 - (intOf i).toNat)
      case atStart => exact ⟨0, offs jn, rfl, by omega, by omega, offs_length jn, hIa, HP3, hBR, Keep.refl _ _⟩
      case round =>
        obtain ⟨i1, fr, rfl, hi1, hid, HFL, HI, HPR, HBR, hK⟩ := hrel
        obtain ⟨w4, rfl⟩ : ∃ w4, w4 = wr := ⟨_, rfl⟩
        clear hIa HP3 hBR
        by_cases hgo : i1 < dn ∧ i1 < 30
        · obtain ⟨hg1, hg2⟩ := hgo
          obtain ⟨p, off, rfl, hps, hcell⟩ := HN.out.cells (by omega)
          have hKw4 := (HKa.out.mono (T := [b, gf]) (by simp)).trans hK
          have hc := (hKw4.cell hps (by simp; omega) (off + i1)).trans (hcell i1 hg1)
          have ha8 := HN.out.lt i1
          generalize A i1 = a at hc ha8
          obtain ⟨j, hji, hjt, hjk⟩ : ∃ j : Nat, (a : Int) % (jn : Int) = j ∧ (a : Int).tmod (jn : Int) = j ∧ j < jn := ⟨a % jn, rfl, by rw [Int.tmod_eq_emod_of_nonneg (by omega)]; rfl, Nat.mod_lt _ (by omega)⟩
          have hcj := HPR.out.cell (i := j) (by unfold LF; rw [tab_length]; exact hjk)
          rw [LF_zero, upH_get jn j hjk] at hcj
          have hcf := HBR.out.cell (i := j) (by rw [HFL.out]; exact hjk)
          have hff := HBR.out.free j
          have hL2 : LF jn 0 (fr.set j true) = LF jn 0 fr := by rw [LF_zero, LF_zero]
          have HL2 := (show Hid (LF jn 0 (fr.set j true) = LF jn 0 fr) from hL2)
          have HFL2 := (show Hid ((fr.set j true).length = jn) from by show _ = _; rw [List.length_set]; exact HFL.out)
          clear hcell hL2 hKw4
          cases hf : fr[j]?.getD false with
          | false =>
            rw [hf] at hcf
            have HD := (show Hid (DropT (xsF jn 0 fr) (tsF fr) (512 + (j : Int)) 0 (xsF jn 0 (fr.set j true)) (tsF (fr.set j true))) from drop_yes hk2 HFL.out hjk hf)
            clear hf
            go_upto_region 19 with (first | (go_at_call 15; refine (hdrop b (512 + (j : Int)) 0 _ _ _ _ _ HI.out (okF jn 0 fr hk2) (by omega) HD.out).mono ?_; rintro e w5 ⟨rfl, hI5, hK5⟩) | (go_at_call 14; refine (err_any _ _).mono ?_; rintro e w' ⟨rfl, rfl⟩))
            have hB5 := HBR.out.keep hK5 (by simpa using h1.symm)
            have hcf5 := (hK5.cell HBR.out.lt (by simpa using h1.symm) j).trans hcf
            have hff5 := hB5.free j
            have hkf : Keep [gf] w5 (w5.setCell ⟨gf, j, none⟩ (.bool true)) := Keep.setCell _ _ (by simp)
            have HB6 := (show Hid (BRow (w5.setCell ⟨gf, j, none⟩ (.bool true)) 4 gf (fr.set j true)) from hB5.put j true)
            have HI6 := (show Hid (IsHand (w5.setCell ⟨gf, j, none⟩ (.bool true)) b (xsF jn 0 (fr.set j true)) (tsF (fr.set j true))) from hI5.keep hkf (by simpa using h1))
            have HP6 := (show Hid (PRow (w5.setCell ⟨gf, j, none⟩ (.bool true)) 3 g (LF jn 0 (fr.set j true))) from by show PRow _ _ _ _; rw [HL2.out]; exact (HPR.out.keep hK5 (by simpa using hgb)).keep hkf (by simpa using h2))
            have HK6 := (show Hid (Keep [b, gf] w3 (w5.setCell ⟨gf, j, none⟩ (.bool true))) from (hK.trans (hK5.mono (by simp))).trans (hkf.mono (by simp)))
            clear hB5 hI5 hkf hK5 hK hcf hff
            go_wp2_with fail
            go_roundw
            case rel => exact ⟨i1 + 1, _, by go_num, by omega, by omega, HFL2, HI6, HP6, HB6, HK6.out⟩
            case measure => simp [intOf]; omega
          | true =>
            rw [hf] at hcf
            have HD := (show Hid (DropT (xsF jn 0 fr) (tsF fr) (512 + (j : Int)) 6 (xsF jn 0 (fr.set j true)) (tsF (fr.set j true))) from drop_no HFL.out hk2 hjk hf)
            clear hf
            go_upto_region 19 with (first | (go_at_call 15; refine (hdrop b (512 + (j : Int)) 6 _ _ _ _ _ HI.out (okF jn 0 fr hk2) (by omega) HD.out).mono ?_; rintro e w5 ⟨rfl, hI5, hK5⟩) | (go_at_call 14; refine (err_any _ _).mono ?_; rintro e w' ⟨rfl, rfl⟩))
            have hB5 := HBR.out.keep hK5 (by simpa using h1.symm)
            have hcf5 := (hK5.cell HBR.out.lt (by simpa using h1.symm) j).trans hcf
            have hff5 := hB5.free j
            have hkf : Keep [gf] w5 (w5.setCell ⟨gf, j, none⟩ (.bool true)) := Keep.setCell _ _ (by simp)
            have HB6 := (show Hid (BRow (w5.setCell ⟨gf, j, none⟩ (.bool true)) 4 gf (fr.set j true)) from hB5.put j true)
            have HI6 := (show Hid (IsHand (w5.setCell ⟨gf, j, none⟩ (.bool true)) b (xsF jn 0 (fr.set j true)) (tsF (fr.set j true))) from hI5.keep hkf (by simpa using h1))
            have HP6 := (show Hid (PRow (w5.setCell ⟨gf, j, none⟩ (.bool true)) 3 g (LF jn 0 (fr.set j true))) from by show PRow _ _ _ _; rw [HL2.out]; exact (HPR.out.keep hK5 (by simpa using hgb)).keep hkf (by simpa using h2))
            have HK6 := (show Hid (Keep [b, gf] w3 (w5.setCell ⟨gf, j, none⟩ (.bool true))) from (hK.trans (hK5.mono (by simp))).trans (hkf.mono (by simp)))
            clear hB5 hI5 hkf hK5 hK hcf hff
            go_wp2_with fail
            go_roundw
            case rel => exact ⟨i1 + 1, _, by go_num, by omega, by omega, HFL2, HI6, HP6, HB6, HK6.out⟩
            case measure => simp [intOf]; omega
        · have HK4 := (show Hid (Keep [] w w4) from ((HKa.out.mono (T := [b, gf]) (by simp)).trans hK).drop (by simp; omega))
          clear hK HKa
          have hg9 : (decide (i1 < dn) = false) ∨ (decide (i1 < dn) = true ∧ decide ((i1 : Int) < 30) = false) := by
            simp only [decide_eq_false_iff_not, decide_eq_true_eq]; omega
          clear hgo HN hd hid hi1
          have HPF := (show Hid (Pref (xsF jn jn fr) jn) from prefF jn fr hk2)
          have HLN := (show Hid ((allH (xsF jn jn fr) (tsF fr)).length = jn) from HPF.out.len (by omega) _)
          rcases hg9 with hg9 | ⟨hg9, hg8⟩
          all_goals
            go_wp2_with fail
            go_loopw [15] (fun i wr => ∃ (j : Nat), i = .int .i64 j ∧ j ≤ jn ∧ Hid (IsHand wr b (xsF jn j fr) (tsF fr)) ∧ Hid (PRow wr 3 g (LF jn j fr)) ∧ Hid (BRow wr 4 gf fr) ∧ Keep [b, g] w4 wr) (fun i _ => jn - (intOf i).toNat)
            case atStart => exact ⟨0, rfl, by omega, HI, HPR, HBR, Keep.refl _ _⟩
            case round =>
              obtain ⟨j, rfl, hj, HI5, HP5, HB5, hK5⟩ := hrel
              obtain ⟨w5, rfl⟩ : ∃ w5, w5 = wr := ⟨_, rfl⟩
              clear HI HPR HBR
              by_cases hjk : j < jn
              · have hcf := HB5.out.cell (i := j) (by rw [HFL.out]; exact hjk)
                cases hf : fr[j]?.getD false with
                | false =>
                  rw [hf] at hcf
                  obtain ⟨y1, y2⟩ := hold_no (k := jn) hf
                  have HI6 := (show Hid (IsHand w5 b (xsF jn (j + 1) fr) (tsF fr)) from by show IsHand _ _ _ _; rw [y1]; exact HI5.out)
                  have HP6 := (show Hid (PRow w5 3 g (LF jn (j + 1) fr)) from by show PRow _ _ _ _; rw [y2]; exact HP5.out)
                  clear hf y1 y2 HI5 HP5
                  go_wp2_with fail
                  go_roundw
                  case rel => exact ⟨j + 1, by go_num, by omega, HI6, HP6, HB5, hK5⟩
                  case measure => simp [intOf]; omega
                | true =>
                  rw [hf] at hcf
                  obtain ⟨y1, y2⟩ := hold_yes hk2 hjk hf
                  have HT := (show Hid (HoldT (xsF jn j fr) (tsF fr) (700 + (j : Int)) (1024 + (j : Int)) 0 (xsF jn (j + 1) fr)) from y1)
                  have HL2 := (show Hid (LF jn (j + 1) fr = (LF jn j fr).set j (1024 + (j : Int))) from y2)
                  have hm1 : (1024 + (j : Int)) % 512 = j := by omega
                  have hm2 : (1024 + (j : Int)).tmod 512 = j := by rw [Int.tmod_eq_emod_of_nonneg (by omega)]; omega
                  clear hf y1 y2
                  go_upto_region 27 with (first | (go_at_call 12; refine (hhold b (700 + (j : Int)) (1024 + (j : Int)) 0 _ _ _ _ HI5.out (okF jn j fr hk2) (by omega) (by omega) HT.out).mono ?_; rintro e w6 ⟨rfl, hI6, hK6⟩))
                  have hP6 := HP5.out.keep hK6 (by simpa using hgb)
                  have hB6 := HB5.out.keep hK6 (by simpa using h1.symm)
                  have hcg6 := hP6.cell (i := j) (by unfold LF; rw [tab_length]; exact hjk)
                  have hfg6 := hP6.free j
                  have hkg : Keep [g] w6 (w6.setCell ⟨g, j, none⟩ (.int .i64 (1024 + (j : Int)))) := Keep.setCell _ _ (by simp)
                  have HP7 := (show Hid (PRow (w6.setCell ⟨g, j, none⟩ (.int .i64 (1024 + (j : Int)))) 3 g (LF jn (j + 1) fr)) from by show PRow _ _ _ _; rw [HL2.out]; exact hP6.put j _)
                  have HI7 := (show Hid (IsHand (w6.setCell ⟨g, j, none⟩ (.int .i64 (1024 + (j : Int)))) b (xsF jn (j + 1) fr) (tsF fr)) from hI6.keep hkg (by simpa using hgb.symm))
                  have HB7 := (show Hid (BRow (w6.setCell ⟨g, j, none⟩ (.int .i64 (1024 + (j : Int)))) 4 gf fr) from hB6.keep hkg (by simpa using h2.symm))
                  have HK7 := (show Hid (Keep [b, g] w4 (w6.setCell ⟨g, j, none⟩ (.int .i64 (1024 + (j : Int))))) from (hK5.trans (hK6.mono (by simp))).trans (hkg.mono (by simp)))
                  clear hP6 hB6 hkg hI6 hK6 hK5 hcf
                  go_wp2_with (first | (go_at_call 14; refine (err_any _ _).mono ?_; rintro e w' ⟨rfl, rfl⟩))
                  go_roundw
                  case rel => exact ⟨j + 1, by go_num, by omega, HI7, HP7, HB7, HK7.out⟩
                  case measure => simp [intOf]; omega
              · obtain rfl : j = jn := by omega
                have HK5 := (show Hid (Keep [] w w5) from ((HK4.out.mono (T := [b, g]) (by simp)).trans hK5).drop (by simp; omega))
                clear hK5 HK4
                go_upto_region 31 with (first | (go_at_call 22; refine (hall b _ _ _ HI5.out (okF j j fr hk2) (by omega)).mono ?_; rw [HLN.out]; rintro e w6 ⟨va, vc, rfl, hHe, hK6⟩))
                have HI6 := (show Hid (IsHand w6 b (xsF j j fr) (tsF fr)) from HI5.out.keep hK6 (by simp))
                go_upto_region 33 with (first | (go_at_call 19; refine (hroom b _ _ _ HI6.out (okF j j fr hk2) (by omega)).mono ?_; rw [HLN.out]; rintro e w7 ⟨rfl, hK7⟩))
                have HP7 := (show Hid (PRow w7 3 g (LF j j fr)) from (HP5.out.keep hK6 (by simp)).keep hK7 (by simp))
                have HB7 := (show Hid (BRow w7 4 gf fr) from (HB5.out.keep hK6 (by simp)).keep hK7 (by simp))
                have HH7 := (show Hid (HeldsAt w5 w7 va j vc (allH (xsF j j fr) (tsF fr))) from hHe.keep hK7 (by simp))
                have HK7 := (show Hid (Keep [] w w7) from (HK5.out.trans hK6).trans hK7)
                clear hHe hK6 hK7 HI6 HI5 HP5 HB5 HK5
                go_wp2_with fail
                go_loopw [19] (fun i wr => ∃ p : Nat, i = .int .i64 p ∧ p ≤ j ∧ Hid (∃ m, wr = w7.drewN m)) (fun i _ => j - (intOf i).toNat)
                case atStart => exact ⟨0, rfl, by omega, 0, rfl⟩
                case round =>
                  obtain ⟨p, rfl, hp, hD⟩ := hrel
                  have hK8 : Keep [] w7 wr := by obtain ⟨m, e⟩ := hD.out; rw [e]; exact Keep.drewN _ _ _
                  by_cases hpj : p < j
                  · obtain ⟨ba, rfl, _, hba, hcs⟩ := (HH7.out.keep hK8 (by simp)).cells (by omega)
                    obtain ⟨z0, z1⟩ := hcs p _ (allF j fr hk2 p hpj)
                    have z2 := (HP7.out.keep hK8 (by simp)).cell (i := p) (by unfold LF; rw [tab_length]; exact hpj)
                    have z3 := (HB7.out.keep hK8 (by simp)).cell (i := p) (by rw [HFL.out]; exact hpj)
                    simp only at z0 z1
                    generalize (LF j j fr)[p]?.getD 0 = y at z0 z2
                    have hne : ((p : Int) + 1 == 700 + (p : Int)) = false := by rw [beq_eq_false_iff_ne]; omega
                    clear hcs
                    cases hf : fr[p]?.getD false with
                    | false =>
                      rw [hf] at z1 z3
                      rw [if_neg (by simp)] at z1
                      clear hf
                      go_wp2_with fail
                      go_quiet (fail)
                      go_wp2_with fail
                      go_roundw
                      case rel =>
                        refine ⟨p + 1, by go_num, by omega, ?_⟩
                        obtain ⟨m, e⟩ := hD.out
                        exact ⟨m + nq, by rw [e, World.drewN_drewN]⟩
                      case measure => simp [intOf]; omega
                    | true =>
                      rw [hf] at z1 z3
                      rw [if_pos rfl] at z1
                      clear hf
                      go_wp2_with fail
                      go_quiet (fail)
                      go_wp2_with fail
                      go_roundw
                      case rel =>
                        refine ⟨p + 1, by go_num, by omega, ?_⟩
                        obtain ⟨m, e⟩ := hD.out
                        exact ⟨m + nq, by rw [e, World.drewN_drewN]⟩
                      case measure => simp [intOf]; omega
                  · obtain rfl : p = j := by omega
                    go_wp2_with (first | (go_at_call 9; refine (awake10_any _).mono ?_; rintro e w8 ⟨rfl, hK9⟩))
                    go_ret
                    exact ⟨rfl, HK7.out.trans (hK8.trans hK9)⟩

theorem walk (a0 : Int) (o1 : Option Addr) (len1 cap1 : Nat) (A1 : Nat → Nat) (w0 : (Lit.int .u8 a0).wf = true) (w1 : len1 ≤ 9223372036854775807) (w : World) (u1 : U8At w o1 len1 A1) :
    Calls Try.prog 6 #[.int .u8 a0, .slice o1 len1 cap1] w fun e w' => e = .returned (.bool true) ∧ Keep [] w w' := by
  have h0 := bounds_u8 w0
  obtain ⟨n, rfl⟩ := Int.eq_ofNat_of_zero_le h0.1
  exact core n (1 + n % 60) (n % 60) o1 len1 cap1 A1 w (by omega) w1 u1 (by omega) (by omega) (by omega) (by omega)

end Go.Proofs.Ytenggkgmbmboeaa.handleOrder
