/-
  SpaceRuns: whatever is allocated, freed, stored: each address, each error, each block, each word, are the document's.
-/
import Derived.Test.YtfmfnmpibnddmaaSpaceDuo
import Derived.Test.YtfmfnmpibnddmaaSame
import Derived.Test.YtfmfnmpibnddmaaRecs
import Derived.Deep.RegionHeld3
import Derived.Deep.CutRange
namespace Go.Proofs.Ytfmfnmpibnddmaa.spaceRuns
open Go.RowKit

theorem each_small {kd : List PK} (h : WF kd) : (eachK kd).length ≤ 1000000 := by
  have := h.each_len kd.length
  have := h.len2
  unfold eachK
  omega

set_option maxRecDepth 100000 in
set_option maxHeartbeats 1000000 in
theorem runs_no (p : Int) (ao : Option Addr) (n c : Nat) (w : World) (h : ¬ (1 ≤ p ∧ p ≤ 256)) :
    Calls Try.prog 3 #[.int .i64 p, .slice ao n c] w fun e w' => e = .returned (.bool true) ∧ Keep [] w w' := by
  by_cases h1 : p < 1
  · have hd : decide (p < 1) = true := decide_eq_true h1
    go_enter Try.func3, Try.ntmps3
    go_wp2_with (first | (go_at_call 9; refine (snew_no p _ h).mono ?_; rintro e w' ⟨rfl, rfl⟩) | (go_at_call 10; refine (err_any _ _).mono ?_; rintro e w' ⟨rfl, rfl⟩) | (go_at_call 11; refine (awake6_any _).mono ?_; rintro e we ⟨rfl, hKe⟩))
    go_ret
    exact ⟨rfl, hKe⟩
  · have hd : decide (p < 1) = false := decide_eq_false h1
    have h2 : 256 < p := by omega
    have hd2 : decide (256 < p) = true := decide_eq_true h2
    go_enter Try.func3, Try.ntmps3
    go_wp2_with (first | (go_at_call 9; refine (snew_no p _ h).mono ?_; rintro e w' ⟨rfl, rfl⟩) | (go_at_call 10; refine (err_any _ _).mono ?_; rintro e w' ⟨rfl, rfl⟩) | (go_at_call 11; refine (awake6_any _).mono ?_; rintro e we ⟨rfl, hKe⟩))
    go_ret
    exact ⟨rfl, hKe⟩

set_option maxRecDepth 100000 in
set_option maxHeartbeats 16000000 in
theorem runs_any (p : Nat) (ao : Option Addr) (n c : Nat) (A : Nat → Nat → Value) (w : World) (h1 : 1 ≤ p) (h2 : p ≤ 256) (hn : n ≤ 9223372036854775807) (hl : Recs w ao [.b, .i .i64, .i .i64] n A) :
    Calls Try.prog 3 #[.int .i64 p, .slice ao n c] w fun e w' => e = .returned (.bool true) ∧ Keep [] w w' := by
  have HU := (show Hid (Recs w ao [.b, .i .i64, .i .i64] n A) from hl)
  clear hl
  have hp1 : decide ((p : Int) < 1) = false := decide_eq_false (by omega)
  have hp2 : decide ((256 : Int) < (p : Int)) = false := decide_eq_false (by omega)
  have HCAP := (show Hid ((64 : Int) * ((((freshK p).length : Nat) : Int) - 1) = ((p : Int) - 1) * 64) from by show _ = _; rw [freshK_length]; omega)
  have HUF := (show Hid (usedK (freshK p) = 0) from used_fresh p h1)
  go_enter Try.func3, Try.ntmps3
  go_wp2_with fail
  refine (hnew p w w (Keep.refl _ _) h1 h2).mono ?_
  rintro e w1 ⟨sb, rfl, hH⟩
  obtain ⟨ab, hc0⟩ := hH.c0
  obtain ⟨pb, hc1⟩ := hH.c1
  by_cases hbig : 40 < p
  · have hd : decide ((40 : Int) < (p : Int)) = true := decide_eq_true (by omega)
    have HH := (show Hid (Held w w1 sb (zeros (64 * p)) (freshK p)) from hH)
    clear hH
    go_wp2_with (first | (go_at_call 10; refine (err_any _ _).mono ?_; rintro e w' ⟨rfl, rfl⟩) | (go_at_call 12; refine (hcap sb _ _ _ HH.out).mono ?_; rw [HCAP.out]; rintro e w' ⟨rfl, rfl⟩) | (go_at_call 13; refine (hused sb _ _ _ HH.out).mono ?_; rw [HUF.out]; rintro e w3 ⟨rfl, hH3⟩) | (go_at_call 11; refine (awake6_any _).mono ?_; rintro e we ⟨rfl, hKe⟩))
    go_ret
    exact ⟨rfl, hH3.K.trans hKe⟩
  · have hd : decide ((40 : Int) < (p : Int)) = false := decide_eq_false (by omega)
    go_wp2_with (first | (go_at_call 10; refine (err_any _ _).mono ?_; rintro e w' ⟨rfl, rfl⟩))
    refine (duo_new hH h1 h2).mono ?_
    rintro e w2 ⟨mb, rfl, hD⟩
    have HD0 := (show Hid (Duo w w2 sb (zeros (64 * p)) (freshK p) mb (zeros (64 * p)) (freshK p)) from hD)
    have HKL0 := (show Hid ((freshK p).length = p) from freshK_length p)
    clear hD hH hc0 hc1 HCAP HUF
    go_wp2_with fail
    clear hp1 hp2 hd
    go_loopw [8] (fun i wr => ∃ (j : Nat) (ws : List Int) (kd : List PK), i = .int .i64 j ∧ j ≤ n ∧ j ≤ 60 ∧ Hid (kd.length = p) ∧ Hid (Duo w wr sb ws kd mb ws kd)) (fun i _ => n - (intOf i).toNat)
    case atStart => exact ⟨0, _, _, rfl, by omega, by omega, HKL0, HD0⟩
    case round =>
      obtain ⟨j, ws, kd, rfl, hj, hj60, HKL, HD⟩ := hrel
      obtain ⟨w5, rfl⟩ : ∃ w5, w5 = wr := ⟨_, rfl⟩
      clear HD0 HKL0
      by_cases hlt : j < n ∧ j < 60
      · obtain ⟨hjn, hj6⟩ := hlt
        obtain ⟨b, off, rfl, hab, hc⟩ := HU.out.cells (by omega)
        have hKw := HD.out.K
        obtain ⟨ai, hai⟩ := HU.out.ok j 0 .b hjn rfl
        obtain ⟨aN, haN, wN⟩ := HU.out.ok j 1 (.i .i64) hjn rfl
        obtain ⟨aX, haX, wX⟩ := HU.out.ok j 2 (.i .i64) hjn rfl
        have bN := bounds_i64 wN
        have bX := bounds_i64 wX
        have q0 := hc j 0 hjn (by simp)
        have q1 := hc j 1 hjn (by simp)
        have q2 := hc j 2 hjn (by simp)
        rw [hai] at q0
        rw [haN] at q1
        rw [haX] at q2
        simp only [List.length_cons, List.length_nil, Nat.reduceAdd, Nat.add_zero] at q0 q1 q2
        simp only [← Nat.add_assoc] at q1 q2
        have HQ := (show Hid (∀ wz, Keep [] w wz → wz.cell? ⟨b, off + j * 3 + 1, none⟩ = some (.int .i64 aN) ∧ wz.cell? ⟨b, off + j * 3 + 2, none⟩ = some (.int .i64 aX)) from fun wz K => ⟨(K.cell hab (by simp) _).trans q1, (K.cell hab (by simp) _).trans q2⟩)
        have c0 := (hKw.cell hab (by simp) (off + j * 3)).trans q0
        obtain ⟨c1, c2⟩ := HQ.out w5 hKw
        have hd1 : decide (j < n) = true := decide_eq_true hjn
        have hd2 : decide ((j : Int) < 60) = true := decide_eq_true (by omega)
        have hji0 : (0 : Int) ≤ (j : Int) := by omega
        have hji1 : (j : Int) < n := by omega
        clear hai haN haX wN wX hc q0 q1 q2
        cases ai
        · obtain ⟨N, E, ws', kd', hT⟩ := allocT_ex (kd := kd) ws aN HD.out.wf
          have HT := (show Hid (AllocT kd ws aN N E ws' kd') from hT)
          obtain ⟨s1, s2, s3, s4⟩ := hT.spec HD.out.wf HD.out.len
          have HKL' := (show Hid (kd'.length = p) from s2.trans HKL.out)
          have HWL := (show Hid (ws'.length = 64 * p) from by show _ = _; rw [s3, HD.out.len, HKL.out])
          have hl0 := HD.out.len
          rw [HKL.out] at hl0
          rw [hl0] at s4
          clear hT s1 s2 s3 hl0
          go_wp2_with fail
          refine (dalloc sb mb ws ws kd kd _ aN N E ws' kd' HD.out HT.out).mono ?_
          rintro e w6 ⟨rfl, hD6⟩
          obtain ⟨d1, d2⟩ := HQ.out w6 hD6.K
          clear c0 c1 c2 HD
          go_wp2_with fail
          refine (ealloc sb mb ws' ws kd' kd _ aN N E ws' kd' hD6 HT.out).mono ?_
          rintro e w7 ⟨rfl, hD7⟩
          clear d1 d2 hD6
          have hD7a := hD7.keep0 (Keep.alloc [] w7 (.cells #[.int .i64 N, .int .i64 E] 46))
          have hx7 := heap_alloc_new w7 (.cells #[.int .i64 N, .int .i64 E] 46)
          go_wp2_with fail
          obtain ⟨bx, hbx⟩ : ∃ bx, w7.heap.size = bx := ⟨_, rfl⟩
          rw [hbx] at hx7 ⊢
          generalize w7.alloc (.cells #[.int .i64 N, .int .i64 E] 46) = w8 at *
          have x0 : w8.cell? ⟨bx, 0, none⟩ = some (.int .i64 N) := by simp [World.cell?, hx7]
          have x1 : w8.cell? ⟨bx, 1, none⟩ = some (.int .i64 E) := by simp [World.cell?, hx7]
          have HD8 := (show Hid (Duo w w8 sb ws' kd' mb ws' kd') from hD7a)
          clear hD7 hD7a hbx
          go_quiet (first | (go_at_call 10; exact Calls.quiet_of_same ((err_any _ _).mono (by rintro e w' ⟨rfl, rfl⟩; exact ⟨rfl, rfl⟩))))
          have HD9 := (show Hid (Duo w (w8.drewN nq) sb ws' kd' mb ws' kd') from HD8.out.keep0 (Keep.drewN _ _ _))
          have y1 : (w8.drewN nq).cell? ⟨bx, 1, none⟩ = some (.int .i64 E) := x1
          clear HD8 x0 x1 hx7
          generalize w8.drewN nq = w9 at *
          rcases s4 with ⟨rfl, a, rfl, ha⟩ | ⟨hE, rfl⟩
          · obtain ⟨ab2, hc0⟩ := HD9.out.c0
            obtain ⟨d1, d2⟩ := HQ.out w9 HD9.out.K
            go_wp2_with fail
            have HDd := (show Hid (Duo w w9.drew sb ws' kd' mb ws' kd') from HD9.out.keep0 (Keep.drew _ _))
            have hc0d : w9.drew.cell? ⟨sb, 0, none⟩ = some (.pointer (some ⟨ab2, 0, none⟩)) := hc0
            have d2d : w9.drew.cell? ⟨b, off + j * 3 + 2, none⟩ = some (.int .i64 aX) := d2
            clear hc0 d1 d2 y1 HD9
            go_region_held3 (fun wz => wz.cell? ⟨sb, 0, none⟩ = some (.pointer (some ⟨ab2, 0, none⟩)) ∧ wz.cell? ⟨b, off + j * 3 + 2, none⟩ = some (.int .i64 aX)) (go_keep) (first | (go_at_call 20; refine (dstore sb mb ws' ws' kd' kd' _ ab2 a aX HDd.out hc0d (by rw [HWL.out]; exact ha)).mono ?_; rintro e wS ⟨rfl, hDS, hcS⟩; have dS2 := (HQ.out wS hDS.K).2))
            go_wp2_with fail
            obtain ⟨gw, hgw, g1, g2, g3, g4, g5, g6, g7⟩ := hDS.words
            rw [HKL'.out] at hgw
            have gc := (g6 a (by rw [HWL.out]; exact ha)).1
            have gf := (g6 a (by rw [HWL.out]; exact ha)).2
            obtain ⟨wl, hwl⟩ : ∃ wl, 64 * p = wl := ⟨_, rfl⟩
            rw [hwl] at hgw ha
            have hwlb : wl ≤ 16384 := by omega
            have ha0 : (0 : Int) ≤ (a : Int) := by omega
            have ha1 : (a : Int) < wl := by omega
            have HDY := (show Hid (Duo w (wS.setCell ⟨gw, a, none⟩ (.int .i64 aX)).drew sb (ws'.set a aX) kd' mb (ws'.set a aX) kd') from (g7 a aX).keep0 (Keep.drew _ _))
            have kS : Keep [gw] wS (wS.setCell ⟨gw, a, none⟩ (.int .i64 aX)) := Keep.setCell _ _ (by simp)
            have z1 := (kS.cell g5 (by simpa using g3) 0).trans hgw
            have z2 := (HQ.out (wS.setCell ⟨gw, a, none⟩ (.int .i64 aX)) (g7 a aX).K).2
            have z3 : (wS.setCell ⟨gw, a, none⟩ (.int .i64 aX)).drew.cell? ⟨mb, 0, none⟩ = some (.slice (some ⟨gw, 0, none⟩) wl wl) := z1
            have z4 : (wS.setCell ⟨gw, a, none⟩ (.int .i64 aX)).drew.cell? ⟨b, off + j * 3 + 2, none⟩ = some (.int .i64 aX) := z2
            generalize ws'[a]?.getD 0 = oldv at gc
            clear hDS hcS g6 g7 hwl HDd hc0d d2d
            go_region_held3 (fun wz => wz.cell? ⟨mb, 0, none⟩ = some (.slice (some ⟨gw, 0, none⟩) wl wl) ∧ wz.cell? ⟨b, off + j * 3 + 2, none⟩ = some (.int .i64 aX)) (go_keep) (first | (fail))
            clear z1 z2 z3 z4 kS hgw gc gf dS2
            generalize (wS.setCell ⟨gw, a, none⟩ (.int .i64 aX)).drew = wY at *

            obtain ⟨ln9, hln9⟩ : ∃ ln, (eachK kd').length = ln := ⟨_, rfl⟩
            have HLN9 := (show Hid ((eachK kd').length = ln9) from hln9)
            have hb9 : ln9 ≤ 1000000 := by rw [← hln9]; exact each_small HDY.out.wf
            clear hln9
            go_wp2_with fail
            refine (dused sb mb _ _ _ _ _ HDY.out).mono ?_
            rintro e wA ⟨rfl, hDA⟩
            go_wp2_with fail
            refine (eused sb mb _ _ _ _ _ hDA).mono ?_
            rintro e wB ⟨rfl, hDB⟩
            go_wp2_with fail
            refine (deach sb mb _ _ _ _ _ hDB).mono ?_
            rw [HLN9.out]
            rintro e wC ⟨la9, lc9, rfl, hIa, hKC⟩
            have hDC := hDB.keep0 hKC
            go_wp2_with fail
            refine (eeach sb mb _ _ _ _ _ hDC).mono ?_
            rw [HLN9.out]
            rintro e wD ⟨lb9, ld9, rfl, hIb, hKD⟩
            have hDD := hDC.keep0 hKD
            go_wp2_with fail
            refine (same_eq la9 lb9 ln9 lc9 ld9 (eachK kd') _ (hIa.keep hKD (by simp [Off])) hIb HLN9.out hb9).mono ?_
            rintro e wE ⟨rfl, hKE⟩
            have HDE := (show Hid (Duo w wE sb (ws'.set a aX) kd' mb (ws'.set a aX) kd') from hDD.keep0 hKE)
            clear hDA hDB hDC hDD hIa hIb
            go_wp2_with fail
            go_roundw
            case rel => exact ⟨j + 1, _, _, by go_num, by omega, by omega, HKL', HDE⟩
            case measure => simp [intOf]; omega
          · have hE0 : (E == 0) = false := by rcases hE with rfl | rfl <;> rfl
            clear hE
            obtain ⟨ln9, hln9⟩ : ∃ ln, (eachK kd').length = ln := ⟨_, rfl⟩
            have HLN9 := (show Hid ((eachK kd').length = ln9) from hln9)
            have hb9 : ln9 ≤ 1000000 := by rw [← hln9]; exact each_small HD9.out.wf
            clear hln9
            go_wp2_with fail
            refine (dused sb mb _ _ _ _ _ HD9.out).mono ?_
            rintro e wA ⟨rfl, hDA⟩
            go_wp2_with fail
            refine (eused sb mb _ _ _ _ _ hDA).mono ?_
            rintro e wB ⟨rfl, hDB⟩
            go_wp2_with fail
            refine (deach sb mb _ _ _ _ _ hDB).mono ?_
            rw [HLN9.out]
            rintro e wC ⟨la9, lc9, rfl, hIa, hKC⟩
            have hDC := hDB.keep0 hKC
            go_wp2_with fail
            refine (eeach sb mb _ _ _ _ _ hDC).mono ?_
            rw [HLN9.out]
            rintro e wD ⟨lb9, ld9, rfl, hIb, hKD⟩
            have hDD := hDC.keep0 hKD
            go_wp2_with fail
            refine (same_eq la9 lb9 ln9 lc9 ld9 (eachK kd') _ (hIa.keep hKD (by simp [Off])) hIb HLN9.out hb9).mono ?_
            rintro e wE ⟨rfl, hKE⟩
            have HDE := (show Hid (Duo w wE sb ws' kd' mb ws' kd') from hDD.keep0 hKE)
            clear hDA hDB hDC hDD hIa hIb
            go_wp2_with fail
            go_roundw
            case rel => exact ⟨j + 1, _, _, by go_num, by omega, by omega, HKL', HDE⟩
            case measure => simp [intOf]; omega
        · go_wp2_with fail
          refine (eeach sb mb _ _ _ _ _ HD.out).mono ?_
          obtain ⟨ln, hln⟩ : ∃ ln, (eachK kd).length = ln := ⟨_, rfl⟩
          have HLN := (show Hid ((eachK kd).length = ln) from hln)
          have hlnb : ln ≤ 1000000 := by rw [← hln]; exact each_small HD.out.wf
          rw [hln]
          rintro e w6 ⟨la, lc, rfl, hIL, hK6⟩
          have HIL := (show Hid (IntsAt w6 la (eachK kd)) from hIL)
          have HD6 := (show Hid (Duo w w6 sb ws kd mb ws kd) from HD.out.keep0 hK6)
          clear hln hIL HD c0 c1 c2
          by_cases hit : 0 < ln ∧ 0 ≤ aN ∧ aN < 256
          · obtain ⟨k1, k2, k3⟩ := hit
            obtain ⟨gl, ol, el, hgl, hcl⟩ := HIL.out.cells (by rw [HLN.out]; exact k1)
            subst el
            obtain ⟨r, hr⟩ : ∃ r : Nat, aN % (ln : Int) = r := ⟨(aN % (ln : Int)).toNat, by have := Int.emod_nonneg aN (show (ln : Int) ≠ 0 by omega); omega⟩
            have hr1 : r < ln := by have := Int.emod_lt_of_pos aN (show (0 : Int) < (ln : Int) by omega); omega
            have hrt : aN.tmod (ln : Int) = r := by rw [Int.tmod_eq_emod_of_nonneg k2]; exact hr
            have hcx := hcl r (by rw [HLN.out]; exact hr1)
            have e1 : decide (0 < ln) = true := decide_eq_true k1
            have e2 : decide ((0 : Int) ≤ aN) = true := decide_eq_true k2
            have e3 : decide (aN < 256) = true := decide_eq_true k3
            have hri0 : (0 : Int) ≤ (r : Int) := by omega
            have hri1 : (r : Int) < ln := by omega
            have hlnz : ¬ (ln : Int) = 0 := by omega
            have hlnz2 : ¬ ln = 0 := by omega
            generalize (eachK kd)[r]?.getD 0 = x at hcx
            clear hcl
            obtain ⟨E, kd', hFT⟩ := freeT_ex (kd := kd) x HD6.out.wf
            have HFT := (show Hid (FreeT kd x E kd') from hFT)
            have HKL' := (show Hid (kd'.length = p) from (hFT.spec HD6.out.wf).2.trans HKL.out)
            clear hFT
            go_wp2_with fail
            refine (dfree sb mb ws ws kd kd _ x E kd' HD6.out HFT.out).mono ?_
            rintro e w3 ⟨rfl, hD3⟩
            go_wp2_with (first | (go_at_call 10; refine (err_any _ _).mono ?_; rintro e w' ⟨rfl, rfl⟩))
            refine (efree sb mb ws ws kd' kd _ x E kd' hD3 HFT.out).mono ?_
            rintro e w4 ⟨rfl, hD4⟩
            have HD4 := (show Hid (Duo w w4 sb ws kd' mb ws kd') from hD4)
            clear hD3 hD4

            obtain ⟨ln9, hln9⟩ : ∃ ln, (eachK kd').length = ln := ⟨_, rfl⟩
            have HLN9 := (show Hid ((eachK kd').length = ln9) from hln9)
            have hb9 : ln9 ≤ 1000000 := by rw [← hln9]; exact each_small HD4.out.wf
            clear hln9
            go_wp2_with fail
            refine (dused sb mb _ _ _ _ _ HD4.out).mono ?_
            rintro e wA ⟨rfl, hDA⟩
            go_wp2_with fail
            refine (eused sb mb _ _ _ _ _ hDA).mono ?_
            rintro e wB ⟨rfl, hDB⟩
            go_wp2_with fail
            refine (deach sb mb _ _ _ _ _ hDB).mono ?_
            rw [HLN9.out]
            rintro e wC ⟨la9, lc9, rfl, hIa, hKC⟩
            have hDC := hDB.keep0 hKC
            go_wp2_with fail
            refine (eeach sb mb _ _ _ _ _ hDC).mono ?_
            rw [HLN9.out]
            rintro e wD ⟨lb9, ld9, rfl, hIb, hKD⟩
            have hDD := hDC.keep0 hKD
            go_wp2_with fail
            refine (same_eq la9 lb9 ln9 lc9 ld9 (eachK kd') _ (hIa.keep hKD (by simp [Off])) hIb HLN9.out hb9).mono ?_
            rintro e wE ⟨rfl, hKE⟩
            have HDE := (show Hid (Duo w wE sb ws kd' mb ws kd') from hDD.keep0 hKE)
            clear hDA hDB hDC hDD hIa hIb
            go_wp2_with fail
            go_roundw
            case rel => exact ⟨j + 1, _, _, by go_num, by omega, by omega, HKL', HDE⟩
            case measure => simp [intOf]; omega
          · by_cases k1 : 0 < ln
            · have e1 : decide (0 < ln) = true := decide_eq_true k1
              by_cases k2 : 0 ≤ aN
              · have e2 : decide ((0 : Int) ≤ aN) = true := decide_eq_true k2
                have e3 : decide (aN < 256) = false := decide_eq_false (fun k3 => hit ⟨k1, k2, k3⟩)
                clear hit
                obtain ⟨E, kd', hFT⟩ := freeT_ex (kd := kd) aN HD6.out.wf
                have HFT := (show Hid (FreeT kd aN E kd') from hFT)
                have HKL' := (show Hid (kd'.length = p) from (hFT.spec HD6.out.wf).2.trans HKL.out)
                clear hFT
                go_wp2_with fail
                refine (dfree sb mb ws ws kd kd _ aN E kd' HD6.out HFT.out).mono ?_
                rintro e w3 ⟨rfl, hD3⟩
                go_wp2_with (first | (go_at_call 10; refine (err_any _ _).mono ?_; rintro e w' ⟨rfl, rfl⟩))
                refine (efree sb mb ws ws kd' kd _ aN E kd' hD3 HFT.out).mono ?_
                rintro e w4 ⟨rfl, hD4⟩
                have HD4 := (show Hid (Duo w w4 sb ws kd' mb ws kd') from hD4)
                clear hD3 hD4

                obtain ⟨ln9, hln9⟩ : ∃ ln, (eachK kd').length = ln := ⟨_, rfl⟩
                have HLN9 := (show Hid ((eachK kd').length = ln9) from hln9)
                have hb9 : ln9 ≤ 1000000 := by rw [← hln9]; exact each_small HD4.out.wf
                clear hln9
                go_wp2_with fail
                refine (dused sb mb _ _ _ _ _ HD4.out).mono ?_
                rintro e wA ⟨rfl, hDA⟩
                go_wp2_with fail
                refine (eused sb mb _ _ _ _ _ hDA).mono ?_
                rintro e wB ⟨rfl, hDB⟩
                go_wp2_with fail
                refine (deach sb mb _ _ _ _ _ hDB).mono ?_
                rw [HLN9.out]
                rintro e wC ⟨la9, lc9, rfl, hIa, hKC⟩
                have hDC := hDB.keep0 hKC
                go_wp2_with fail
                refine (eeach sb mb _ _ _ _ _ hDC).mono ?_
                rw [HLN9.out]
                rintro e wD ⟨lb9, ld9, rfl, hIb, hKD⟩
                have hDD := hDC.keep0 hKD
                go_wp2_with fail
                refine (same_eq la9 lb9 ln9 lc9 ld9 (eachK kd') _ (hIa.keep hKD (by simp [Off])) hIb HLN9.out hb9).mono ?_
                rintro e wE ⟨rfl, hKE⟩
                have HDE := (show Hid (Duo w wE sb ws kd' mb ws kd') from hDD.keep0 hKE)
                clear hDA hDB hDC hDD hIa hIb
                go_wp2_with fail
                go_roundw
                case rel => exact ⟨j + 1, _, _, by go_num, by omega, by omega, HKL', HDE⟩
                case measure => simp [intOf]; omega
              · have e2 : decide ((0 : Int) ≤ aN) = false := decide_eq_false k2
                clear hit
                obtain ⟨E, kd', hFT⟩ := freeT_ex (kd := kd) aN HD6.out.wf
                have HFT := (show Hid (FreeT kd aN E kd') from hFT)
                have HKL' := (show Hid (kd'.length = p) from (hFT.spec HD6.out.wf).2.trans HKL.out)
                clear hFT
                go_wp2_with fail
                refine (dfree sb mb ws ws kd kd _ aN E kd' HD6.out HFT.out).mono ?_
                rintro e w3 ⟨rfl, hD3⟩
                go_wp2_with (first | (go_at_call 10; refine (err_any _ _).mono ?_; rintro e w' ⟨rfl, rfl⟩))
                refine (efree sb mb ws ws kd' kd _ aN E kd' hD3 HFT.out).mono ?_
                rintro e w4 ⟨rfl, hD4⟩
                have HD4 := (show Hid (Duo w w4 sb ws kd' mb ws kd') from hD4)
                clear hD3 hD4

                obtain ⟨ln9, hln9⟩ : ∃ ln, (eachK kd').length = ln := ⟨_, rfl⟩
                have HLN9 := (show Hid ((eachK kd').length = ln9) from hln9)
                have hb9 : ln9 ≤ 1000000 := by rw [← hln9]; exact each_small HD4.out.wf
                clear hln9
                go_wp2_with fail
                refine (dused sb mb _ _ _ _ _ HD4.out).mono ?_
                rintro e wA ⟨rfl, hDA⟩
                go_wp2_with fail
                refine (eused sb mb _ _ _ _ _ hDA).mono ?_
                rintro e wB ⟨rfl, hDB⟩
                go_wp2_with fail
                refine (deach sb mb _ _ _ _ _ hDB).mono ?_
                rw [HLN9.out]
                rintro e wC ⟨la9, lc9, rfl, hIa, hKC⟩
                have hDC := hDB.keep0 hKC
                go_wp2_with fail
                refine (eeach sb mb _ _ _ _ _ hDC).mono ?_
                rw [HLN9.out]
                rintro e wD ⟨lb9, ld9, rfl, hIb, hKD⟩
                have hDD := hDC.keep0 hKD
                go_wp2_with fail
                refine (same_eq la9 lb9 ln9 lc9 ld9 (eachK kd') _ (hIa.keep hKD (by simp [Off])) hIb HLN9.out hb9).mono ?_
                rintro e wE ⟨rfl, hKE⟩
                have HDE := (show Hid (Duo w wE sb ws kd' mb ws kd') from hDD.keep0 hKE)
                clear hDA hDB hDC hDD hIa hIb
                go_wp2_with fail
                go_roundw
                case rel => exact ⟨j + 1, _, _, by go_num, by omega, by omega, HKL', HDE⟩
                case measure => simp [intOf]; omega
            · obtain rfl : ln = 0 := by omega
              clear hit k1
              obtain ⟨E, kd', hFT⟩ := freeT_ex (kd := kd) aN HD6.out.wf
              have HFT := (show Hid (FreeT kd aN E kd') from hFT)
              have HKL' := (show Hid (kd'.length = p) from (hFT.spec HD6.out.wf).2.trans HKL.out)
              clear hFT
              go_wp2_with fail
              refine (dfree sb mb ws ws kd kd _ aN E kd' HD6.out HFT.out).mono ?_
              rintro e w3 ⟨rfl, hD3⟩
              go_wp2_with (first | (go_at_call 10; refine (err_any _ _).mono ?_; rintro e w' ⟨rfl, rfl⟩))
              refine (efree sb mb ws ws kd' kd _ aN E kd' hD3 HFT.out).mono ?_
              rintro e w4 ⟨rfl, hD4⟩
              have HD4 := (show Hid (Duo w w4 sb ws kd' mb ws kd') from hD4)
              clear hD3 hD4

              obtain ⟨ln9, hln9⟩ : ∃ ln, (eachK kd').length = ln := ⟨_, rfl⟩
              have HLN9 := (show Hid ((eachK kd').length = ln9) from hln9)
              have hb9 : ln9 ≤ 1000000 := by rw [← hln9]; exact each_small HD4.out.wf
              clear hln9
              go_wp2_with fail
              refine (dused sb mb _ _ _ _ _ HD4.out).mono ?_
              rintro e wA ⟨rfl, hDA⟩
              go_wp2_with fail
              refine (eused sb mb _ _ _ _ _ hDA).mono ?_
              rintro e wB ⟨rfl, hDB⟩
              go_wp2_with fail
              refine (deach sb mb _ _ _ _ _ hDB).mono ?_
              rw [HLN9.out]
              rintro e wC ⟨la9, lc9, rfl, hIa, hKC⟩
              have hDC := hDB.keep0 hKC
              go_wp2_with fail
              refine (eeach sb mb _ _ _ _ _ hDC).mono ?_
              rw [HLN9.out]
              rintro e wD ⟨lb9, ld9, rfl, hIb, hKD⟩
              have hDD := hDC.keep0 hKD
              go_wp2_with fail
              refine (same_eq la9 lb9 ln9 lc9 ld9 (eachK kd') _ (hIa.keep hKD (by simp [Off])) hIb HLN9.out hb9).mono ?_
              rintro e wE ⟨rfl, hKE⟩
              have HDE := (show Hid (Duo w wE sb ws kd' mb ws kd') from hDD.keep0 hKE)
              clear hDA hDB hDC hDD hIa hIb
              go_wp2_with fail
              go_roundw
              case rel => exact ⟨j + 1, _, _, by go_num, by omega, by omega, HKL', HDE⟩
              case measure => simp [intOf]; omega
      · have hways : (decide (j < n) = false) ∨ (decide (j < n) = true ∧ decide ((j : Int) < 60) = false) := by
          by_cases h : j < n
          · exact .inr ⟨decide_eq_true h, decide_eq_false (fun k => hlt ⟨h, by omega⟩)⟩
          · exact .inl (decide_eq_false h)
        rcases hways with hd1 | ⟨hd1, hd2⟩
        all_goals (go_wp2_with fail)
        all_goals
          clear hd1 hlt HU
          obtain ⟨wl, hwl⟩ : ∃ wl, 64 * p = wl := ⟨_, rfl⟩
          have HWL := (show Hid (64 * p = wl) from hwl)
          have HLW := (show Hid (ws.length = wl) from by show _ = _; rw [HD.out.len, HKL.out]; exact hwl)
          have hwlb : wl ≤ 16384 := by omega
          clear hwl
          go_loopw [14] (fun i wr => ∃ (t : Nat) (z : Int), i = .int .i64 z ∧ Hid (z = (t : Int) - 1) ∧ t ≤ wl + 2 ∧ Hid (Duo w wr sb ws kd mb ws kd)) (fun i _ => wl + 2 - (intOf i + 1).toNat)
          case atStart => exact ⟨0, -1, rfl, rfl, by omega, HD⟩
          case round =>
            obtain ⟨t, z, rfl, HZ, ht, HD2⟩ := hrel
            obtain ⟨w6, rfl⟩ : ∃ w6, w6 = wr := ⟨_, rfl⟩
            have hz1 : -1 ≤ z := by have := HZ.out; omega
            have hz2 : z ≤ wl + 1 := by have := HZ.out; omega
            obtain ⟨gw, hgw, _, _, _, _, _, _, _⟩ := HD2.out.words
            rw [HKL.out, HWL.out] at hgw
            by_cases hzl : z ≤ wl
            · have hdz : decide (z ≤ (wl : Int)) = true := decide_eq_true hzl
              obtain ⟨x, y, bb, hv, hv2⟩ : ∃ x y bb, foundV (findI kd z) = .tuple #[.int .i64 x, .int .i64 y, .bool bb] ∧ foundA (findI kd z) = .agg #[.int .i64 x, .int .i64 y, .bool bb] := by
                cases findI kd z with
                | none => exact ⟨0, 0, false, rfl, rfl⟩
                | some o => obtain ⟨s, m⟩ := o; exact ⟨s, m, true, rfl, rfl⟩
              have HV := (show Hid (foundV (findI kd z) = .tuple #[.int .i64 x, .int .i64 y, .bool bb] ∧ foundA (findI kd z) = .agg #[.int .i64 x, .int .i64 y, .bool bb]) from ⟨hv, hv2⟩)
              clear hv hv2
              go_wp2_with fail
              refine (dfind sb mb ws ws kd kd _ z HD2.out).mono ?_
              rw [HV.out.1]
              rintro e w7 ⟨rfl, hD7⟩
              clear hgw
              go_wp2_with fail
              refine (efind sb mb ws ws kd kd _ z hD7).mono ?_
              rw [HV.out.2]
              rintro e w8 ⟨rfl, hD8⟩
              have HD8 := (show Hid (Duo w (w8.alloc (.cells #[.int .i64 x, .int .i64 y, .bool bb] 56)) sb ws kd mb ws kd) from hD8.keep0 (Keep.alloc _ _ _))
              clear hD7 hD8
              go_wp2_with fail
              go_roundw
              case rel =>
                exact ⟨t + 1, z + 1, by go_num, by have := HZ.out; show _ = _; omega, by have := HZ.out; omega, HD8⟩
              case measure => simp [intOf]; omega
            · have hdz : decide (z ≤ (wl : Int)) = false := decide_eq_false hzl
              go_wp2_with fail
              clear hgw hdz
              go_loopw [19] (fun i wr => ∃ t : Nat, i = .int .i64 t ∧ t ≤ wl ∧ Hid (Duo w wr sb ws kd mb ws kd)) (fun i _ => wl - (intOf i).toNat)
              case atStart => exact ⟨0, rfl, by omega, HD2⟩
              case round =>
                obtain ⟨t3, rfl, ht3, HD3⟩ := hrel
                obtain ⟨w7, rfl⟩ : ∃ w7, w7 = wr := ⟨_, rfl⟩
                obtain ⟨gx, hgx, _, _, _, _, _, gcx, _⟩ := HD3.out.words
                rw [HKL.out, HWL.out] at hgx
                obtain ⟨ab3, hab3⟩ := HD3.out.c0
                by_cases htl : t3 < wl
                · have hcx := (gcx t3 (by rw [HLW.out]; exact htl)).1
                  have hti0 : (0 : Int) ≤ (t3 : Int) := by omega
                  have hti1 : (t3 : Int) < wl := by omega
                  have HLD := (show Hid (Calls Try.prog 26 #[.pointer (some ⟨ab3, 0, none⟩), .int .i64 t3] w7 fun e w' => e = .returned (.tuple #[.int .i64 (ws[t3]?.getD 0), .int .i64 0]) ∧ w7 = w') from hload sb ab3 t3 ws kd w7 HD3.out.held hab3 (by rw [HLW.out]; exact htl))
                  generalize ws[t3]?.getD 0 = y at hcx HLD
                  clear gcx
                  go_wp2_with (first | (go_at_call 26; refine HLD.out.mono ?_; rintro e w' ⟨rfl, rfl⟩) | (go_at_call 10; refine (err_any _ _).mono ?_; rintro e w' ⟨rfl, rfl⟩))
                  go_roundw
                  case rel => exact ⟨t3 + 1, by go_num, by omega, HD3⟩
                  case measure => simp [intOf]; omega
                · obtain rfl : t3 = wl := by omega
                  have HCAP2 := (show Hid ((64 : Int) * (((kd.length : Nat) : Int) - 1) = ((p : Int) - 1) * 64) from by show _ = _; rw [HKL.out]; omega)
                  have hKz := HD3.out.K
                  clear gcx
                  go_wp2_with (first | (go_at_call 12; refine (hcap sb _ _ _ HD3.out.held).mono ?_; rw [HCAP2.out]; rintro e w' ⟨rfl, rfl⟩) | (go_at_call 11; refine (awake6_any _).mono ?_; rintro e we ⟨rfl, hKe⟩))
                  go_ret
                  exact ⟨rfl, hKz.trans hKe⟩

theorem walk (a0 : Int) (o1 : Option Addr) (len1 cap1 : Nat) (A1 : Nat → Nat → Value) (_w0 : (Lit.int .i64 a0).wf = true) (w1 : len1 ≤ 9223372036854775807) (w : World) (u1 : Recs w o1 [.b, .i .i64, .i .i64] len1 A1) :
    Calls Try.prog 3 #[.int .i64 a0, .slice o1 len1 cap1] w fun e w' => e = .returned (.bool true) ∧ Keep [] w w' := by
  by_cases h : 1 ≤ a0 ∧ a0 ≤ 256
  · obtain ⟨p, rfl⟩ := Int.eq_ofNat_of_zero_le (show 0 ≤ a0 by omega)
    exact runs_any p o1 len1 cap1 A1 w (by omega) (by omega) w1 u1
  · exact runs_no a0 o1 len1 cap1 w h

end Go.Proofs.Ytfmfnmpibnddmaa.spaceRuns
