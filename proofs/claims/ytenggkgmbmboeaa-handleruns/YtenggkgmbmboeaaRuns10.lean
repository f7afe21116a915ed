/-
  HandleRuns: whatever is held, asked for, dropped: each handle, each address, each error, is the document's.
-/
import Derived.Test.YtenggkgmbmboeaaAwake10
import Derived.Test.YtenggkgmbmboeaaRHand
import Derived.Test.YtenggkgmbmboeaaAsks
import Derived.Deep.CutRange
import Derived.Deep.CutBlock
namespace Go.Proofs.Ytenggkgmbmboeaa.handleRuns
open Go.RowKit

/-- Handles of the program and of the document, that hold the same. -/
structure Both (w : World) (b rb g1 g2 : Nat) (xs ts : List Int) : Prop where
  i : IsHand w b xs ts
  r : RHandAt w rb g1 g2 xs ts
  n1 : b ≠ rb
  n2 : b ≠ g1
  n3 : b ≠ g2
theorem Both.keep0 {w w' : World} {b rb g1 g2 : Nat} {xs ts : List Int} (h : Both w b rb g1 g2 xs ts) (k : Keep [] w w') : Both w' b rb g1 g2 xs ts := ⟨h.i.keep k (by simp), h.r.keep0 k, h.n1, h.n2, h.n3⟩

theorem Both.after {w w' : World} {b rb g1 g2 : Nat} {xs ts : List Int} (h : Both w b rb g1 g2 xs ts) (k : Keep [b] w w') : RHandAt w' rb g1 g2 xs ts := h.r.keep k (by simpa using h.n1.symm) (by simpa using h.n2.symm) (by simpa using h.n3.symm)
theorem Both.next {w w' : World} {b rb g1 g2 : Nat} {xs ts xs' ts' xs0 ts0 : List Int} {w0 : World} (h : Both w0 b rb g1 g2 xs0 ts0) (hi : IsHand w b xs ts) (k : Keep [g1, g2] w w') (hr : RHandAt w' rb g1 g2 xs' ts') (e1 : xs = xs') (e2 : ts = ts') : Both w' b rb g1 g2 xs' ts' :=
  ⟨by rw [← e1, ← e2]; exact hi.keep k (by have := h.n2; have := h.n3; simp; omega), hr, h.n1, h.n2, h.n3⟩

theorem rem_q (x q : Nat) (h : 0 < q) : ∃ r : Nat, (x : Int) % (q : Int) = r ∧ (x : Int).tmod (q : Int) = r ∧ r < q := ⟨x % q, rfl, by rw [Int.tmod_eq_emod_of_nonneg (by omega)]; rfl, Nat.mod_lt _ h⟩
theorem all_bd {B : Nat} {xs ts : List Int} (h : HOK B xs ts) (hB : B ≤ 1000) (i : Nat) (p : Int × Int) (e : (allH xs ts)[i]? = some p) : 0 ≤ p.1 ∧ p.1 ≤ 1000000 := by
  obtain ⟨j, hj, _, rfl⟩ := allTo_mem xs ts 512 p (List.mem_of_getElem? e)
  have := h.t j hj
  simp only
  omega

set_option maxRecDepth 100000 in
set_option maxHeartbeats 6400000 in
theorem core (ao : Option Addr) (n c : Nat) (A : Nat → Nat → Int) (w : World) (hn : n ≤ 80) (hl : Asks w ao 2 n A) :
    Calls Try.prog 3 #[.slice ao n c] w fun e w' => e = .returned (.bool true) ∧ Keep [] w w' := by
  have HN := (show Hid (Asks w ao 2 n A) from hl)
  have hn8 : decide (80 < (n : Int)) = false := by rw [decide_eq_false_iff_not]; omega
  clear hl
  go_enter Try.func3, Try.ntmps3
  go_wp2_with fail
  refine (hnew_any _).mono ?_
  rintro e w1 ⟨b, rfl, hI1, hK1, hb⟩
  have hb1 := hI1.lt
  go_wp2_with fail
  refine (rhnew _).mono ?_
  rintro e w2 ⟨rb, g1, g2, rfl, hR2, hK2, hrb, hg1, hg2⟩
  have hK12 := hK1.trans hK2
  have HK12 := (show Hid (Keep [] w w2) from hK12)
  have HB2 := (show Hid (Both w2 b rb g1 g2 (zeros 512) onesL) from ⟨hI1.keep hK2 (by simp), hR2, by omega, by omega, by omega⟩)
  have hs1 : w.heap.size ≤ w1.heap.size := hK1.size
  have HF := (show Hid (w.heap.size ≤ b ∧ w.heap.size ≤ g1 ∧ w.heap.size ≤ g2 ∧ w.heap.size ≤ rb) from ⟨hb, by omega, by omega, by omega⟩)
  clear hK1 hK2 hI1 hR2 hK12 hb hrb hg1 hg2 hb1 hs1
  go_wp2_with fail
  go_loopw [5] (fun i wr => ∃ (j : Nat) (xs ts : List Int), i = .int .i64 j ∧ j ≤ n ∧ Hid (Both wr b rb g1 g2 xs ts) ∧ Hid (HOK j xs ts) ∧ Hid (Keep [b, g1, g2] w wr)) (fun i _ => n - (intOf i).toNat)
  case atStart => exact ⟨0, zeros 512, onesL, rfl, by omega, HB2, HOK.fresh, HK12.out.mono (by simp)⟩
  case round =>
    obtain ⟨j, xs, ts, rfl, hj, HB, HK, HKw⟩ := hrel
    obtain ⟨w3, rfl⟩ : ∃ w3, w3 = wr := ⟨_, rfl⟩
    clear HB2 HK12
    by_cases hlt : j < n
    · obtain ⟨p, off, rfl, hps, hcell⟩ := HN.out.cells (by omega)
      have hpS : p ∉ [b, g1, g2] := by have := HF.out; simp; omega
      have c0 := (HKw.out.cell hps hpS (off + j * 2)).trans (hcell j 0 hlt (by omega))
      have c1 := (HKw.out.cell hps hpS (off + j * 2 + 1)).trans (hcell j 1 hlt (by omega))
      have v1 := HN.out.low j 1
      have v2 := HN.out.high j 1
      have u1 := HN.out.low j 0
      have u2 := HN.out.high j 0
      clear hcell hpS
      generalize A j 0 = d at *
      generalize A j 1 = x at *
      have hql := allH_len xs ts
      obtain ⟨q, hq⟩ : ∃ q, (allH xs ts).length = q := ⟨_, rfl⟩
      have HQ := (show Hid ((allH xs ts).length = q) from hq)
      rw [hq] at hql
      clear hq
      go_upto_region 10 with (first | (go_at_call 11; refine (rall rb g1 g2 xs ts _ HB.out.r HK.out (by omega)).mono ?_; rw [HQ.out]; rintro e w4 ⟨va, vc, rfl, hA, hK4⟩))
      have HA := (show Hid (HeldsAt w3 w4 va q vc (allH xs ts)) from hA)
      have HB4 := (show Hid (Both w4 b rb g1 g2 xs ts) from HB.out.keep0 hK4)
      have HKw4 := (show Hid (Keep [b, g1, g2] w w4) from HKw.out.trans (hK4.mono (by simp)))
      have d0 := (hK4.cell (lt_of_cell c0) (by simp) _).trans c0
      clear hA HB HKw hK4 c0 c1
      obtain ⟨gd, hgd⟩ : ∃ gd : Bool, gd = (decide (1 < d) && decide (0 < q) && decide (0 ≤ x) && decide (x < 100)) := ⟨_, rfl⟩
      go_cut [59] from 28 to 132 (fun v wz => v = .bool gd ∧ wz = w4)
      case first =>
        by_cases q1 : 1 < d
        · by_cases q2 : 0 < q
          · by_cases q3 : 0 ≤ x
            · by_cases q4 : x < 100
              · have hg : gd = true := by rw [hgd]; simp [q1, q2, q3, q4]
                clear hgd
                go_wp2_with fail
                go_meet
                exact ⟨by rw [hg], rfl⟩
              · have hg : gd = false := by rw [hgd]; simp [q1, q2, q3, q4]
                have q4' : decide (x < 100) = false := decide_eq_false q4
                clear hgd q4
                go_wp2_with fail
                go_meet
                exact ⟨by rw [hg], rfl⟩
            · have hg : gd = false := by rw [hgd]; simp [q1, q2, q3]
              have q3' : decide (0 ≤ x) = false := decide_eq_false q3
              clear hgd q3
              go_wp2_with fail
              go_meet
              exact ⟨by rw [hg], rfl⟩
          · have hg : gd = false := by rw [hgd]; simp [q1, q2]
            have q2' : q = 0 := by omega
            subst q2'
            clear hgd q2
            go_wp2_with fail
            go_meet
            exact ⟨by rw [hg], rfl⟩
        · have hg : gd = false := by rw [hgd]; simp [q1]
          have q1' : decide (1 < d) = false := decide_eq_false q1
          clear hgd q1
          go_wp2_with fail
          go_meet
          exact ⟨by rw [hg], rfl⟩
      case rest =>
        obtain ⟨rfl, rfl⟩ := hcut
        go_upto_if 59 with fail
        go_cut [6] from 28 to 132 (fun v wz => ∃ y : Int, v = .int .i64 y ∧ -9223372036854775808 ≤ y ∧ y ≤ 9223372036854775807 ∧ wz = wc)
        case first =>
          cases gd with
          | false =>
            go_wp2_with fail
            go_meet
            exact ⟨x, rfl, v1, v2, rfl⟩
          | true =>
            have hgs : 1 < d ∧ 0 < q ∧ 0 ≤ x ∧ x < 100 := by simpa [and_assoc] using hgd.symm
            obtain ⟨q1, q2, q3, q4⟩ := hgs
            obtain ⟨xn, rfl⟩ := Int.eq_ofNat_of_zero_le q3
            obtain ⟨r, hr1, hr2, hrq⟩ := rem_q xn q q2
            obtain ⟨pr, hpr⟩ : ∃ pr, (allH xs ts)[r]? = some pr := ⟨_, List.getElem?_eq_getElem (by rw [HQ.out]; exact hrq)⟩
            obtain ⟨ba, rfl, _, _, hcs⟩ := HA.out.cells q2
            obtain ⟨z0, _⟩ := hcs r pr hpr
            have hbd := all_bd HK.out (by omega) r pr hpr
            generalize pr.1 = y at z0 hbd
            clear hcs hgd
            go_wp2_with fail
            go_meet
            exact ⟨y, rfl, by omega, by omega, rfl⟩
        case rest =>
          obtain ⟨y, rfl, hy1, hy2, rfl⟩ := hcut
          clear v1 v2 hgd HA HQ hql
          go_upto_block 2 with fail
          go_cut [] from 28 to 132 (fun wz => ∃ xs' ts' : List Int, Hid (Both wz b rb g1 g2 xs' ts') ∧ Hid (HOK (j + 1) xs' ts') ∧ Hid (Keep [b, g1, g2] w wz))
          case first =>
            rcases (show ((d == 0) = true ∨ (d == 0) = false ∧ (d == 1) = true) ∨ (d == 0) = false ∧ (d == 1) = false ∧ (d == 2) = true ∨ (d == 0) = false ∧ (d == 1) = false ∧ (d == 2) = false from by
              simp only [beq_iff_eq, beq_eq_false_iff_ne]; omega) with hd | hd | hd
            · obtain ⟨N, E, xs', hT⟩ := holdT_ex xs ts y
              have HT := (show Hid (HoldT xs ts y N E xs') from hT)
              have HK2 := (show Hid (HOK (j + 1) xs' ts) from (hT.ok HK.out (by omega)).mono (by omega))
              clear hT
              rcases hd with hd | ⟨hd, hd'⟩
              all_goals
                go_upto_region 16 with (first | (go_at_call 12; refine (hhold b y N E xs ts _ _ HB4.out.i HK.out (by omega) (by omega) HT.out).mono ?_; rintro e w5 ⟨rfl, hI5, hK5⟩))
                have HR5 := (show Hid (RHandAt w5 rb g1 g2 xs ts) from HB4.out.after hK5)
                have HI5 := (show Hid (IsHand w5 b xs' ts) from hI5)
                clear hI5
                go_upto_region 17 with (first | (go_at_call 13; refine (rhold rb g1 g2 y N E xs ts _ _ HR5.out HK.out (by omega) HT.out).mono ?_; rintro e w6 ⟨rfl, hR6, hK6⟩))
                have hx6 := heap_alloc_new w6 (.cells #[.int .i64 N, .int .i64 E] 38)
                obtain ⟨z0, z1, _, _⟩ := two_cells hx6
                have hKa := Keep.alloc [] w6 (.cells #[.int .i64 N, .int .i64 E] 38)
                have HB6 := (show Hid (Both (w6.alloc (.cells #[.int .i64 N, .int .i64 E] 38)) b rb g1 g2 xs' ts) from (HB4.out.next HI5.out (hK6.mono (by simp)) hR6 rfl rfl).keep0 hKa)
                have HK6 := (show Hid (Keep [b, g1, g2] w (w6.alloc (.cells #[.int .i64 N, .int .i64 E] 38))) from ((HKw4.out.trans (hK5.mono (by simp))).trans (hK6.mono (by simp))).trans (hKa.mono (by simp)))
                clear hKa hR6 hK6 hK5 hx6 HI5 HR5
                generalize w6.alloc (.cells #[.int .i64 N, .int .i64 E] 38) = w7 at *
                go_wp2_with fail
                go_quiet (first | (go_at_call 14; exact Calls.quiet_of_same ((err_any _ _).mono (by rintro e w' ⟨rfl, rfl⟩; exact ⟨rfl, rfl⟩))))
                go_wp2_with fail
                go_meet
                exact ⟨xs', ts, HB6.out.keep0 (Keep.drewN [] _ _), HK2, HK6.out.trans (Keep.drewN _ _ _)⟩
            · obtain ⟨hd1, hd2, hd3⟩ := hd
              obtain ⟨E, xs', ts', hD⟩ := dropT_ex xs ts y
              have HD := (show Hid (DropT xs ts y E xs' ts') from hD)
              have HK2 := (show Hid (HOK (j + 1) xs' ts') from hD.ok HK.out)
              clear hD
              go_wp2_with (first | (go_at_call 15; refine (hdrop b y E xs ts _ _ _ HB4.out.i HK.out (by omega) HD.out).mono ?_; rintro e w5 ⟨rfl, hI5, hK5⟩; have hR5 := HB4.out.after hK5) | (go_at_call 14; refine (err_any _ _).mono ?_; rintro e w' ⟨rfl, rfl⟩) | (go_at_call 16; refine (rdrop rb g1 g2 y E xs ts _ _ _ hR5 HK.out (by omega) (by omega) HD.out).mono ?_; rintro e w6 ⟨rfl, hR6, hK6⟩))
              go_meet
              exact ⟨xs', ts', HB4.out.next hI5 hK6 hR6 rfl rfl, HK2, (HKw4.out.trans (hK5.mono (by simp))).trans (hK6.mono (by simp))⟩
            · obtain ⟨hd1, hd2, hd3⟩ := hd
              go_wp2_with fail
              go_meet
              exact ⟨xs, ts, HB4, HK.out.mono (by omega), HKw4⟩
          case rest =>
            clear HB4 HK HKw4
            obtain ⟨xs', ts', HB5, HK5, HKw5⟩ := hcut
            obtain ⟨w5, rfl⟩ : ∃ w5, w5 = wc := ⟨_, rfl⟩
            obtain ⟨N, E, hT⟩ := heldT_ex xs' ts' y
            have HT := (show Hid (HeldT xs' ts' y N E) from hT)
            obtain ⟨q, hq⟩ : ∃ q, (allH xs' ts').length = q := ⟨_, rfl⟩
            have HQ := (show Hid ((allH xs' ts').length = q) from hq)
            have hql : q ≤ 512 := by rw [← hq]; exact allH_len _ _
            clear hT hq
            go_upto_region 23 with (first | (go_at_call 17; refine (hheld b y N E xs' ts' _ HB5.out.i HK5.out (by omega) HT.out).mono ?_; rintro e w' ⟨rfl, rfl⟩))
            go_upto_region 24 with (first | (go_at_call 18; refine (rheld rb g1 g2 y N E xs' ts' _ HB5.out.r HK5.out (by omega) (by omega) HT.out).mono ?_; rintro e w6 ⟨rfl, hK6⟩))
            have hx6 := heap_alloc_new w6 (.cells #[.int .i64 N, .int .i64 E] 38)
            obtain ⟨z0, z1, _, _⟩ := two_cells hx6
            have hKa := hK6.trans (Keep.alloc [] w6 (.cells #[.int .i64 N, .int .i64 E] 38))
            have HBd := (show Hid (Both (w6.alloc (.cells #[.int .i64 N, .int .i64 E] 38)).drew b rb g1 g2 xs' ts') from (HB5.out.keep0 hKa).keep0 (Keep.drew [] _))
            have HKd := (show Hid (Keep [b, g1, g2] w (w6.alloc (.cells #[.int .i64 N, .int .i64 E] 38)).drew) from (HKw5.out.trans (hKa.mono (by simp))).trans (Keep.drew _ _))
            have hbx : w6.heap.size < (w6.alloc (.cells #[.int .i64 N, .int .i64 E] 38)).drew.heap.size := by simp
            clear hKa hK6 hx6 HB5 HKw5
            generalize w6.alloc (.cells #[.int .i64 N, .int .i64 E] 38) = w7 at *
            generalize w6.heap.size = bx at *
            have y0 : w7.drew.cell? ⟨bx, 0, none⟩ = some (.int .i64 N) := z0
            have y1 : w7.drew.cell? ⟨bx, 1, none⟩ = some (.int .i64 E) := z1
            go_region_held3 (fun wz => wz.cell? ⟨bx, 0, none⟩ = some (.int .i64 N) ∧ wz.cell? ⟨bx, 1, none⟩ = some (.int .i64 E)) (go_keep) (first
              | (go_at_call 14; refine (err_any _ _).mono ?_; rintro e w' ⟨rfl, rfl⟩)
              | (go_at_call 19; refine (hroom b xs' ts' _ HBd.out.i HK5.out (by omega)).mono ?_; rw [HQ.out]; rintro e w8 ⟨rfl, hK8⟩; have t0 := (hK8.cell hbx (by simp) 0).trans y0; have t1 := (hK8.cell hbx (by simp) 1).trans y1; have HB8 := (show Hid (Both w8 b rb g1 g2 xs' ts' ∧ Keep [b, g1, g2] w w8 ∧ bx < w8.heap.size) from ⟨HBd.out.keep0 hK8, HKd.out.trans (hK8.mono (by simp)), Nat.lt_of_lt_of_le hbx hK8.size⟩))
              | (go_at_call 20; refine (rroom rb g1 g2 xs' ts' _ HB8.out.1.r HK5.out (by omega)).mono ?_; rw [HQ.out]; rintro e w9 ⟨rfl, hK9⟩; have s0 := (hK9.cell HB8.out.2.2 (by simp) 0).trans t0; have s1 := (hK9.cell HB8.out.2.2 (by simp) 1).trans t1; have HB9 := (show Hid (Both w9 b rb g1 g2 xs' ts' ∧ Keep [b, g1, g2] w w9) from ⟨HB8.out.1.keep0 hK9, HB8.out.2.1.trans (hK9.mono (by simp))⟩)))
            go_wp2_with fail
            go_roundw
            case rel => exact ⟨j + 1, xs', ts', by go_num, by omega, HB9.out.1, HK5, HB9.out.2⟩
            case measure => simp [intOf]; omega
    · obtain rfl : j = n := by omega
      obtain ⟨q, hq⟩ : ∃ q, (allH xs ts).length = q := ⟨_, rfl⟩
      have HQ := (show Hid ((allH xs ts).length = q) from hq)
      have hql : q ≤ 512 := by rw [← hq]; exact allH_len _ _
      clear hq
      have HK0 := (show Hid (Keep [] w w3) from HKw.out.drop (by have := HF.out; simp; omega))
      go_wp2_with (first
        | (go_at_call 22; refine (hall b xs ts _ HB.out.i HK.out (by omega)).mono ?_; rw [HQ.out]; rintro e w4 ⟨va, vc, rfl, hA, hK4⟩)
        | (go_at_call 11; refine (rall rb g1 g2 xs ts _ (HB.out.r.keep0 hK4) HK.out (by omega)).mono ?_; rw [HQ.out]; rintro e w5 ⟨vb, vd, rfl, hA2, hK5⟩)
        | (go_at_call 21; refine (same_held _ (hA.keep hK5 (by simp)) hA2 (by omega)).mono ?_; rintro e w6 ⟨rfl, hK6⟩)
        | (go_at_call 9; refine (awake10_any _).mono ?_; rintro e w8 ⟨rfl, hK8⟩))
      go_ret
      exact ⟨rfl, HK0.out.trans ((hK4.trans hK5).trans (hK6.trans hK8))⟩

set_option maxRecDepth 100000 in
set_option maxHeartbeats 1600000 in
theorem long (ao : Option Addr) (n c : Nat) (w : World) (hn : 80 < n) (hn2 : n ≤ 9223372036854775807) :
    Calls Try.prog 3 #[.slice ao n c] w fun e w' => e = .returned (.bool true) ∧ Keep [] w w' := by
  have hn8 : decide (80 < (n : Int)) = true := by rw [decide_eq_true_iff]; omega
  go_enter Try.func3, Try.ntmps3
  go_wp2_with (first
    | (go_at_call 8; refine (hnew_any _).mono ?_; rintro e w1 ⟨b, rfl, hI1, hK1, hb⟩)
    | (go_at_call 9; refine (awake10_any _).mono ?_; rintro e w8 ⟨rfl, hK8⟩))
  go_ret
  exact ⟨rfl, hK1.trans hK8⟩

theorem walk (o0 : Option Addr) (len0 cap0 : Nat) (A0 : Nat → Nat → Int) (w0 : len0 ≤ 9223372036854775807) (w : World) (u0 : Asks w o0 2 len0 A0) :
    Calls Try.prog 3 #[.slice o0 len0 cap0] w fun e w' => e = .returned (.bool true) ∧ Keep [] w w' := by
  by_cases hn : len0 ≤ 80
  · exact core o0 len0 cap0 A0 w hn u0
  · exact long o0 len0 cap0 w (by omega) w0

end Go.Proofs.Ytenggkgmbmboeaa.handleRuns
