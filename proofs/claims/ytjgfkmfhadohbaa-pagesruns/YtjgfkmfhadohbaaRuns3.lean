/-
  PagesRuns answers true, whatever it is given.
-/
import Derived.Test.YtjgfkmfhadohbaaAwake3
import Derived.Test.YtjgfkmfhadohbaaRefPages
import Derived.Test.YtjgfkmfhadohbaaRecs
import Derived.Deep.RegionHeld3
namespace Go.Proofs.Ytjgfkmfhadohbaa
open Go.RowKit

set_option maxRecDepth 100000 in
set_option maxHeartbeats 1000000 in
theorem runs3_no (p : Int) (ao : Option Addr) (n c : Nat) (w : World) (h : ¬ (1 ≤ p ∧ p ≤ 256)) :
    Calls Try.prog 3 #[.int .i64 p, .slice ao n c] w fun e w' => e = .returned (.bool true) ∧ Keep [] w w' := by
  rcases (show p < 1 ∨ 1 ≤ p ∧ 256 < p by omega) with h1 | ⟨h0, h1⟩
  all_goals
    go_enter Try.func3, Try.ntmps3
    go_wp2_with (first | (go_at_call 8; refine (pnew_no _ _ h).mono ?_; rintro e w' ⟨rfl, rfl⟩) | (go_at_call 9; refine (err_any _ _).mono ?_; rintro e w' ⟨rfl, rfl⟩) | (go_at_call 10; refine (awake3_any _).mono ?_; rintro e w8 ⟨rfl, hK8⟩))
    go_ret
    exact ⟨rfl, hK8⟩

set_option maxRecDepth 100000 in
set_option maxHeartbeats 8000000 in
theorem runs3_any (p : Nat) (ao : Option Addr) (n c : Nat) (A : Nat → Nat → Value) (w : World) (h1 : 1 ≤ p) (h2 : p ≤ 256) (hn : n ≤ 9223372036854775807) (hl : Recs w ao [.b, .i .i64, .i .i64] n A) :
    Calls Try.prog 3 #[.int .i64 p, .slice ao n c] w fun e w' => e = .returned (.bool true) ∧ Keep [] w w' := by
  have hp0 : decide ((p : Int) < 1) = false := by rw [decide_eq_false_iff_not]; omega
  have hp1 : decide (256 < (p : Int)) = false := by rw [decide_eq_false_iff_not]; omega
  go_enter Try.func3, Try.ntmps3
  go_wp2_with fail
  refine (pnew_ok p w h1 h2).mono ?_
  rintro e w1 ⟨pb, b, g, rfl, hA, hK, hp, hb, hg⟩
  have hc := hA.cell
  go_wp2_with (first | (go_at_call 9; refine (err_any _ _).mono ?_; rintro e w' ⟨rfl, rfl⟩))
  refine (rnew_ok p w1 h1 (by omega)).mono ?_
  rintro e w2 ⟨gm, rfl, hR, hK2, hgm⟩
  have hA1 := hA.keep hK2 (by simp) (by simp) (by simp)
  have hK1 : Keep [] w w2 := hK.trans hK2
  have l1 := hA.lt
  have hsz := hK.size
  clear hA hK hK2 hc
  have HN := (show Hid (Recs w ao [.b, .i .i64, .i .i64] n A) from hl)
  clear hl
  go_wp2_with fail
  go_loopw [8] (fun i wr => ∃ (j : Nat) (xs : List Bool), j ≤ n ∧ j ≤ 60 ∧ i = .int .i64 j ∧ IsPages wr pb b g xs ∧ BRow wr 4 gm xs ∧ Hid (xs.length = p) ∧ Keep [g, gm] w wr) (fun i _ => 60 - (intOf i).toNat)
  case atStart => exact ⟨0, _, by omega, by omega, rfl, hA1, hR, fresh_length _, hK1.mono (by simp)⟩
  case round =>
    obtain ⟨j, xs, hj, hj60, rfl, hA2, hR2, HL, hK2⟩ := hrel
    clear hA1 hR hK1
    have lt2 := hA2.lt
    have ltm := hR2.lt
    by_cases hlt2 : j < n ∧ j < 60
    · obtain ⟨hlt, hlt6⟩ := hlt2
      obtain ⟨ab, off, rfl, hab, hc⟩ := HN.out.cells (by omega)
      have hbS : ab ∉ [g, gm] := by simp; omega
      obtain ⟨ai, hai⟩ := HN.out.ok j 0 .b hlt rfl
      obtain ⟨aa, haa, wa⟩ := HN.out.ok j 1 (.i .i64) hlt rfl
      obtain ⟨ak, hak, wk⟩ := HN.out.ok j 2 (.i .i64) hlt rfl
      have ba := bounds_i64 wa
      have bk := bounds_i64 wk
      have q0 := hc j 0 hlt (by simp)
      have q1 := hc j 1 hlt (by simp)
      have q2 := hc j 2 hlt (by simp)
      rw [hai] at q0
      rw [haa] at q1
      rw [hak] at q2
      simp only [List.length_cons, List.length_nil, Nat.reduceAdd, Nat.add_zero] at q0 q1 q2
      simp only [← Nat.add_assoc] at q1 q2
      have c0 := (hK2.cell hab hbS (off + j * 3)).trans q0
      have c1 := (hK2.cell hab hbS (off + j * 3 + 1)).trans q1
      have c2 := (hK2.cell hab hbS (off + j * 3 + 2)).trans q2
      clear hai haa hak wa wk hc q0 q1 q2
      have T1 := takeR_length xs ak
      have T2 := giveR_length xs aa ak
      cases ai
      · have HY := (show Hid ((takeR xs ak).length = p) from T1.trans HL.out)
        clear T1 T2
        generalize hys : takeR xs ak = ys at *
        have HYS := (show Hid (takeR xs ak = ys) from hys)
        clear hys
        have hq := cntA_le ys
        rw [HY.out] at hq
        have hwr : IntKind.i64.wrap ((p : Int) - cntA ys) = (p : Int) - cntA ys := IntWalk.i64_in _ (by omega)
        go_wp2_with fail
        refine (ptake_any pb b g ak xs wr hA2 bk.2).mono ?_
        rw [HYS.out]
        rintro e w5 ⟨rfl, hA5, hK5⟩
        have hR5 := hR2.keep hK5 (by simp; omega)
        have hab5 : ab < wr.heap.size := Nat.lt_of_lt_of_le hab hK2.size
        have d2 := (hK5.cell hab5 (by simp; omega) (off + j * 3 + 2)).trans c2
        have s5 := hK5.size
        clear hA2 hR2 c0 c1 c2
        go_wp2_with fail
        refine (rtake_any gm p p ak xs w5 hR5 HL.out (by omega)).mono ?_
        rw [HYS.out]
        rintro e w6 ⟨rfl, hR6, hK6⟩
        have hA6 := hA5.keep hK6 (by simp; omega) (by simp; omega) (by simp; omega)
        have hK7 := (hK2.trans (hK5.mono (by simp))).trans (hK6.mono (T := [g, gm]) (by simp))
        clear hR5 hA5 d2 hK5 hK6 hK2
        generalize takeN xs ak = tn at *
        generalize takeE xs ak = te at *
        go_wp2_with fail
        have hKb := Keep.alloc [] w6 (Obj.cells #[Value.int .i64 tn, Value.int .i64 te] 42)
        have hA8 := hA6.keep hKb (by simp) (by simp) (by simp)
        have hR8 := hR6.keep hKb (by simp)
        have hbx := heap_alloc_new w6 (Obj.cells #[Value.int .i64 tn, Value.int .i64 te] 42)
        have hK8 := hK7.trans (hKb.mono (T := [g, gm]) (by simp))
        clear hA6 hR6 hK7 hKb
        generalize w6.alloc (Obj.cells #[Value.int .i64 tn, Value.int .i64 te] 42) = w7 at *
        generalize w6.heap.size = bx at *
        have x0 : w7.cell? ⟨bx, 0, none⟩ = some (.int .i64 tn) := by simp [World.cell?, hbx]
        have x1 : w7.cell? ⟨bx, 1, none⟩ = some (.int .i64 te) := by simp [World.cell?, hbx]
        have hA9 := hA8.drew
        have hR9 := hR8.keep (Keep.drew [] w7) (by simp)
        have hK9 := hK8.trans (Keep.drew [g, gm] w7)
        clear hA8 hR8 hK8 hbx
        go_region_held3 (fun wz => wz.cell? ⟨bx, 0, none⟩ = some (.int .i64 tn) ∧ wz.cell? ⟨bx, 1, none⟩ = some (.int .i64 te)) (go_keep) (first | (go_at_call 9; refine (err_any _ _).mono ?_; rintro e w' ⟨rfl, rfl⟩))
        go_wp2_with (first | (go_at_call 16; refine (pleft_any pb b g _ _ hA9).mono ?_; rw [HY.out]; rintro e w10 ⟨rfl, hK10⟩; have hR10 := hR9.keep hK10 (by simp)) | (go_at_call 17; refine (rcount_any gm p p _ _ hR10 HY.out (by omega)).mono ?_; rintro e w' ⟨rfl, rfl⟩))
        have hA10 := hA9.keep hK10 (by simp) (by simp) (by simp)
        go_roundw
        case rel => exact ⟨j + 1, ys, by omega, by omega, by go_num, hA10, hR10, HY, hK9.trans (hK10.mono (by simp))⟩
        case measure => simp [intOf]; omega
      · have HY := (show Hid ((giveR xs aa ak).length = p) from T2.trans HL.out)
        clear T1 T2
        generalize hys : giveR xs aa ak = ys at *
        have HYS := (show Hid (giveR xs aa ak = ys) from hys)
        clear hys
        generalize hge : giveE xs aa ak = ge at *
        have HGE := (show Hid (giveE xs aa ak = ge) from hge)
        clear hge
        have hq := cntA_le ys
        rw [HY.out] at hq
        have hwr : IntKind.i64.wrap ((p : Int) - cntA ys) = (p : Int) - cntA ys := IntWalk.i64_in _ (by omega)
        go_wp2_with fail
        have hA3 := hA2.drew
        have hR3 := hR2.keep (Keep.drew [] wr) (by simp)
        have hK3 := hK2.trans (Keep.drew [g, gm] wr)
        have hab3 : ab < wr.drew.heap.size := Nat.lt_of_lt_of_le hab hK3.size
        have x1 : wr.drew.cell? ⟨ab, off + j * 3 + 1, none⟩ = some (.int .i64 aa) := c1
        have x2 : wr.drew.cell? ⟨ab, off + j * 3 + 2, none⟩ = some (.int .i64 ak) := c2
        clear hA2 hR2 hK2
        go_region_held3 (fun wz => wz.cell? ⟨ab, off + j * 3 + 1, none⟩ = some (.int .i64 aa) ∧ wz.cell? ⟨ab, off + j * 3 + 2, none⟩ = some (.int .i64 ak)) (go_keep) (first | (go_at_call 12; refine (pgive_any pb b g aa ak xs _ hA3 ba.2 bk.2).mono ?_; rw [HYS.out, HGE.out]; rintro e w5 ⟨rfl, hA5, hK5⟩; have hR5 := hR3.keep hK5 (by simp; omega); have y1 := (hK5.cell hab3 (by simp; omega) (off + j * 3 + 1)).trans x1; have y2 := (hK5.cell hab3 (by simp; omega) (off + j * 3 + 2)).trans x2; have hab5 := Nat.lt_of_lt_of_le hab3 hK5.size) | (go_at_call 9; refine (err_any _ _).mono ?_; rintro e w' ⟨rfl, rfl⟩) | (go_at_call 13; refine (rgive_any gm p p aa ak xs _ hR5 HL.out (by omega) ba.2).mono ?_; rw [HYS.out, HGE.out]; rintro e w6 ⟨rfl, hR6, hK6⟩; have hA6 := hA5.keep hK6 (by simp; omega) (by simp; omega) (by simp; omega); have z1 := (hK6.cell hab5 (by simp; omega) (off + j * 3 + 1)).trans y1; have z2 := (hK6.cell hab5 (by simp; omega) (off + j * 3 + 2)).trans y2))
        have hK7 := (hK3.trans (hK5.mono (by simp))).trans (hK6.mono (T := [g, gm]) (by simp))
        clear hA5 hR5 hA3 hR3 x1 x2 y1 y2 z1 z2 hK5 hK6 hK3 c0 c1 c2
        go_wp2_with (first | (go_at_call 16; refine (pleft_any pb b g _ _ hA6).mono ?_; rw [HY.out]; rintro e w7 ⟨rfl, hK8⟩; have hR7 := hR6.keep hK8 (by simp)) | (go_at_call 17; refine (rcount_any gm p p _ _ hR7 HY.out (by omega)).mono ?_; rintro e w' ⟨rfl, rfl⟩))
        have hA7 := hA6.keep hK8 (by simp) (by simp) (by simp)
        go_roundw
        case rel => exact ⟨j + 1, ys, by omega, by omega, by go_num, hA7, hR7, HY, hK7.trans (hK8.mono (by simp))⟩
        case measure => simp [intOf]; omega
    · have hK5 := hK2.drop (T := []) (by simp; omega)
      have hcc := hA2.cell
      clear hK2
      rcases (show j = n ∨ j < n ∧ j = 60 by omega) with rfl | ⟨hjn, rfl⟩
      all_goals
        go_wp2_with fail
        go_loop [12] (fun i => ∃ z : Nat, i = .int .i64 z ∧ z ≤ p) (fun i => p - (intOf i).toNat)
        case atStart => exact ⟨0, rfl, by omega⟩
        case round =>
          obtain ⟨z, rfl, hz⟩ := hrel
          by_cases hzp : z < p
          · go_wp2_with (first | (go_at_call 18; refine (bhas_any b g z _ _ hA2.bits).mono ?_; rintro e w' ⟨rfl, rfl⟩) | (go_at_call 19; refine (rhas_any gm p p z _ _ hR2 HL.out).mono ?_; rintro e w' ⟨rfl, rfl⟩))
            go_round
            case rel => exact ⟨z + 1, by go_num, by omega⟩
            case measure => simp [intOf] <;> omega
          · obtain rfl : z = p := by omega
            go_wp2_with (go_at_call 10; refine (awake3_any _).mono ?_; rintro e w8 ⟨rfl, hK8⟩)
            go_ret
            exact ⟨rfl, hK5.trans hK8⟩

end Go.Proofs.Ytjgfkmfhadohbaa

namespace Go.Proofs.Ytjgfkmfhadohbaa.pagesRuns
open Go.RowKit
theorem walk (a0 : Int) (o1 : Option Addr) (len1 cap1 : Nat) (A1 : Nat → Nat → Value) (_w0 : (Lit.int .i64 a0).wf = true) (w1 : len1 ≤ 9223372036854775807) (w : World) (u1 : Recs w o1 [.b, .i .i64, .i .i64] len1 A1) :
    Calls Try.prog 3 #[.int .i64 a0, .slice o1 len1 cap1] w fun e w' => e = .returned (.bool true) ∧ Keep [] w w' := by
  by_cases h : 1 ≤ a0 ∧ a0 ≤ 256
  · obtain ⟨p, rfl⟩ := Int.eq_ofNat_of_zero_le (show 0 ≤ a0 by omega)
    exact runs3_any p o1 len1 cap1 A1 w (by omega) (by omega) w1 u1
  · exact runs3_no a0 o1 len1 cap1 w h
end Go.Proofs.Ytjgfkmfhadohbaa.pagesRuns
