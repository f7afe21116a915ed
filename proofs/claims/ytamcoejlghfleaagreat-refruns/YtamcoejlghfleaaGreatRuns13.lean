/-
  RefRuns: whatever is referred to, asked for, cleared, enqueued, polled: each answer, each row, each field is the document's.
-/
import Derived.Test.YtamcoejlghfleaaGreatPart10
import Derived.Test.YtamcoejlghfleaaGreatDuo9
import Derived.Deep.CutBlock
import Derived.Deep.CutRange
namespace Go.Proofs.YtamcoejlghfleaaGreat.refRuns
open Go.RowKit

set_option maxRecDepth 100000 in
set_option maxHeartbeats 32000000 in
theorem walk (ao : Option Addr) (n c : Nat) (B : Nat → Nat) (bo : Option Addr) (m d : Nat) (O : List Int) (_ : n ≤ 9223372036854775807) (_ : m ≤ 9223372036854775807) (w : World) (u0 : U8At w ao n B) (u1 : ListAt w bo .i64 m O) :
    Calls Tryz.prog 3 #[.slice ao n c, .slice bo m d] w fun e w' => e = .returned (.bool true) ∧ Keep [] w w' := by
  have HB := hid u0
  have HO := hid u1
  clear u0 u1
  obtain ⟨W, K, A, hC⟩ := dchain_ex 4 (by omega)
  have HC := hid hC
  have HR0 := (show Hid (Rn (K 4) (W 4) (nQ 2) 0) from ⟨(hC.fine 4 (by omega)).1, fun x hx => by simp [nQ, List.replicate_succ] at hx, fun x => by simp [nQ, List.replicate_succ], fun L hL => by unfold nQ at hL; rw [List.eq_of_mem_replicate hL]; simp, nQ_length 2⟩)
  obtain ⟨D, hD⟩ : ∃ D, aL A 4 = D := ⟨_, rfl⟩
  have HD := hid hD
  have HDL := (show Hid (D.length = 4) from by show _ = _; rw [← hD, aL_length])
  have HDB := (show Hid (∀ i, i < 4 → inI (D[i]?.getD 0)) from fun i hi => by
    rw [← hD, aL_get A 4 i hi]
    have := hC.bd i (by omega)
    exact ⟨by omega, by omega⟩)
  clear hC hD
  obtain ⟨i0, hi, hz0, hz1, hz2⟩ := info_parts Tryz.infoInt13
  have hI : Hid (Tryz.prog.info? 3 = some i0 ∧ i0.zero = some (.int .i64 0) ∧ i0.size = 1 ∧ i0.bytes = 8) := ⟨hi, hz0, hz1, hz2⟩
  clear hi hz0 hz1 hz2
  go_enter Tryz.func3, Tryz.ntmps3
  go_wp2_with fail
  refine (made13 4 4 2 HC.out (by omega) (by omega) (by omega) _).mono ?_
  rintro e w1 ⟨hb, pb, qb, la, lc, rfl, hX⟩
  rw [HD.out] at hX
  have HX := hid hX
  clear hX
  obtain ⟨lb, lo, rfl, _, _⟩ := HX.out.snd.list.cells (by rw [HDL.out]; omega)
  go_wp2_with fail
  refine (model13 4 4 2 HC.out (by omega) (by omega) (by omega) _ HX.out).mono ?_
  rintro e w2 ⟨rb, mb, rfl, hX2⟩
  have HX4 := (show Hid (Has w [] (DA pb qb hb rb mb ((0 : Nat) : Int) ((0 : Nat) : Int) (K 4) (K 4) (W 4) (W 4) (nQ 2) (nQ 2) lb lo D none 0 0 []) w2) from (hX2.swap).ownNew 3)
  clear hX2 HX HD
  go_wp2_with fail
  go_loopw [9, 10] (fun v i wr => ∃ (u t q cc sn : Nat) (la : Option Addr) (ws : List Int) (kd : List PK) (Ls : List (List Int)) (I : List Int), v = .slice la q cc ∧ i = .int .i64 u ∧ u ≤ 160 ∧ Hid (u = 4 * t) ∧ Hid (q ≤ t ∧ sn ≤ t) ∧ Hid (inR I) ∧ Hid (Rn kd ws Ls t) ∧ Hid (Has w [] (DA pb qb hb rb mb sn sn kd kd ws ws Ls Ls lb lo D la q cc I) wr)) (fun _ i _ => 160 - (intOf i).toNat)
  case atStart => exact ⟨0, 0, 0, 0, 0, none, _, _, _, [], rfl, rfl, by omega, rfl, ⟨by omega, by omega⟩, fun i => by simp, HR0, HX4⟩
  case round =>
    obtain ⟨u, t, q, cc, sn, la, ws, kd, Ls, I, rfl, rfl, hu, HU, HQS, HIN, HR, HX⟩ := hrel
    obtain ⟨w5, rfl⟩ : ∃ w5, w5 = wr := ⟨_, rfl⟩
    clear HX4 HR0
    by_cases hlt : u + 3 < n ∧ u < 160
    · obtain ⟨hun, hu160⟩ := hlt
      have ht40 : t < 40 := by have := HU.out; omega
      have d1 : decide (u + 3 < n) = true := decide_eq_true hun
      have d1' : decide ((u : Int) + 3 < (n : Int)) = true := decide_eq_true (by omega)
      have d2 : decide ((u : Int) < 160) = true := decide_eq_true (by omega)
      obtain ⟨ab, aof, rfl, hab, hca⟩ := HB.out.cells (by omega)
      have HCA := (show Hid (∀ i, i < 4 → w.cell? ⟨ab, aof + (u + i), none⟩ = some (.int .u8 (B (u + i)))) from fun i hi => hca (u + i) (by omega))
      have HAB := hid hab
      have hb0 := HB.out.lt u
      have hb1 := HB.out.lt (u + 1)
      have hb2 := HB.out.lt (u + 2)
      have hb3 := HB.out.lt (u + 3)
      have hc0 := (HX.out.K.cell hab (by simp) (aof + u)).trans (HCA.out 0 (by omega))
      have hc1 := (HX.out.K.cell hab (by simp) (aof + (u + 1))).trans (HCA.out 1 (by omega))
      obtain ⟨b0, hb0e⟩ : ∃ b0, B u = b0 := ⟨_, rfl⟩
      obtain ⟨b1, hb1e⟩ : ∃ b1, B (u + 1) = b1 := ⟨_, rfl⟩
      obtain ⟨b2, hb2e⟩ : ∃ b2, B (u + 2) = b2 := ⟨_, rfl⟩
      obtain ⟨b3, hb3e⟩ : ∃ b3, B (u + 3) = b3 := ⟨_, rfl⟩
      rw [Nat.add_zero, hb0e] at hc0
      rw [hb1e] at hc1
      rw [hb0e] at hb0
      rw [hb1e] at hb1
      rw [hb2e] at hb2
      rw [hb3e] at hb3
      have HB23 := (show Hid (∀ wz, Keep [] w wz → wz.cell? ⟨ab, aof + (u + 2), none⟩ = some (.int .u8 b2) ∧ wz.cell? ⟨ab, aof + (u + 3), none⟩ = some (.int .u8 b3)) from fun wz Kz =>
        ⟨(Kz.cell hab (by simp) (aof + (u + 2))).trans ((HCA.out 2 (by omega)).trans (by rw [hb2e])), (Kz.cell hab (by simp) (aof + (u + 3))).trans ((HCA.out 3 (by omega)).trans (by rw [hb3e]))⟩)
      obtain ⟨r, hr⟩ : ∃ r, b1 % 4 = r := ⟨_, rfl⟩
      have hri : (b1 : Int) % 4 = r := by omega
      have hr4 : r < 4 := by omega
      have hr4i : (r : Int) < 4 := by omega
      have hr0i : (0 : Int) ≤ r := by omega
      have hti : (u : Int) / 4 = t := by have := HU.out; omega
      have hcl := HX.out.dacell r (by rw [HDL.out]; exact hr4)
      have hx0 := HDB.out r hr4
      generalize D[r]?.getD 0 = x0 at *
      clear hca hb0e hb1e hb2e hb3e hr hab HCA
      go_upto_region 10 with fail
      clear hri hr4i hr0i hcl
      obtain ⟨gd, hgd⟩ : ∃ gd : Bool, gd = (decide (0 < q) && decide (64 ≤ b1)) := ⟨_, rfl⟩
      go_cut [70] from 70 to 70 (fun v wz => v = .bool gd ∧ wz = w5)
      case first =>
        by_cases q1 : 0 < q
        · have d3 : decide (0 < q) = true := decide_eq_true q1
          have d3' : decide ((0 : Int) < (q : Int)) = true := decide_eq_true (by omega)
          by_cases q2 : 64 ≤ b1
          · have d4 : decide (64 ≤ b1) = true := decide_eq_true q2
            have hg : gd = true := by rw [hgd, d3, d4]; rfl
            clear hgd
            go_wp2_with fail
            go_meet
            exact ⟨by rw [hg]; first | rfl | (congr 1; exact decide_eq_true (by omega)), rfl⟩
          · have d4 : decide (64 ≤ b1) = false := decide_eq_false q2
            have hg : gd = false := by rw [hgd, d3, d4]; rfl
            clear hgd q2
            go_wp2_with fail
            go_meet
            exact ⟨by rw [hg]; first | rfl | (congr 1; exact decide_eq_false (by have := of_decide_eq_false d4; omega)), rfl⟩
        · have d3 : decide (0 < q) = false := decide_eq_false q1
          have d3' : decide ((0 : Int) < (q : Int)) = false := decide_eq_false (by omega)
          have hg : gd = false := by rw [hgd, d3]; rfl
          clear hgd q1
          go_wp2_with fail
          go_meet
          exact ⟨by rw [hg], rfl⟩
      case rest =>
        obtain ⟨rfl, rfl⟩ := hcut
        go_upto_if 70 with fail
        go_cut [11] from 11 to 11 (fun v wz => ∃ x : Int, v = .int .i64 x ∧ inI x ∧ wz = wc)
        case first =>
          cases gd with
          | false =>
            go_wp2_with fail
            go_meet
            exact ⟨x0, rfl, hx0, rfl⟩
          | true =>
            have hq0 : 0 < q := by
              have h1 : (decide (0 < q) && decide (64 ≤ b1)) = true := hgd.symm
              rw [Bool.and_eq_true] at h1
              exact of_decide_eq_true h1.1
            obtain ⟨rr, hrr⟩ : ∃ rr, b1 % q = rr := ⟨_, rfl⟩
            have hrq : rr < q := by rw [← hrr]; exact Nat.mod_lt _ hq0
            have hrri : (b1 : Int) % (q : Int) = rr := by rw [← hrr]; rfl
            have hrqi : (rr : Int) < q := by omega
            have hrq0 : (0 : Int) ≤ rr := by omega
            have hqz : ((q : Int) == 0) = false := by rw [beq_eq_false_iff_ne]; omega
            obtain ⟨hIA, hIq⟩ := HX.out.dain HIN.out
            obtain ⟨ib, io, rfl, _, hic⟩ := hIA.cells (by omega)
            have hci := hic rr (by omega)
            have hyI : inI (I[rr]?.getD 0) := HIN.out rr
            generalize I[rr]?.getD 0 = y at *
            clear hic hIA hIq hgd hrr
            go_wp2_with fail
            go_meet
            exact ⟨y, rfl, hyI, rfl⟩
        case rest =>
          obtain ⟨x1, rfl, hx1, rfl⟩ := hcut
          clear hgd hx0
          obtain ⟨gd2, hgd⟩ : ∃ gd : Bool, gd = (decide (t < m) && decide (250 ≤ b1)) := ⟨_, rfl⟩
          go_upto_region 12 with fail
          go_cut [95] from 95 to 95 (fun v wz => v = .bool gd2 ∧ wz = wc)
          case first =>
            by_cases q1 : t < m
            · have d3 : decide (t < m) = true := decide_eq_true q1
              have d3' : decide ((t : Int) < (m : Int)) = true := decide_eq_true (by omega)
              by_cases q2 : 250 ≤ b1
              · have d4 : decide (250 ≤ b1) = true := decide_eq_true q2
                have hg : gd2 = true := by rw [hgd, d3, d4]; rfl
                clear hgd
                go_wp2_with fail
                go_meet
                exact ⟨by rw [hg]; first | rfl | (congr 1; exact decide_eq_true (by omega)), rfl⟩
              · have d4 : decide (250 ≤ b1) = false := decide_eq_false q2
                have hg : gd2 = false := by rw [hgd, d3, d4]; rfl
                clear hgd q2
                go_wp2_with fail
                go_meet
                exact ⟨by rw [hg]; first | rfl | (congr 1; exact decide_eq_false (by have := of_decide_eq_false d4; omega)), rfl⟩
            · have d3 : decide (t < m) = false := decide_eq_false q1
              have d3' : decide ((t : Int) < (m : Int)) = false := decide_eq_false (by omega)
              have hg : gd2 = false := by rw [hgd, d3]; rfl
              clear hgd q1
              go_wp2_with fail
              go_meet
              exact ⟨by rw [hg], rfl⟩
          case rest =>
            obtain ⟨rfl, rfl⟩ := hcut
            go_upto_if 95 with fail
            go_cut [11] from 11 to 11 (fun v wz => ∃ x : Int, v = .int .i64 x ∧ inI x ∧ wz = wc)
            case first =>
              cases gd2 with
              | false =>
                go_wp2_with fail
                go_meet
                exact ⟨x1, rfl, hx1, rfl⟩
              | true =>
                have htm : t < m := by
                  have h1 : (decide (t < m) && decide (250 ≤ b1)) = true := hgd.symm
                  rw [Bool.and_eq_true] at h1
                  exact of_decide_eq_true h1.1
                have htmi : (t : Int) < m := by omega
                have ht0i : (0 : Int) ≤ t := by omega
                obtain ⟨db, dof, rfl, hdb, hdc⟩ := HO.out.cells (by omega)
                have hd0 := (HX.out.K.cell hdb (by simp) (dof + t)).trans (hdc t htm)
                have hdw := bounds_i64 (HO.out.wf t htm)
                generalize O[t]?.getD 0 = y at *
                clear hdc hgd
                go_wp2_with fail
                go_meet
                exact ⟨y, rfl, ⟨by omega, by omega⟩, rfl⟩
            case rest =>
              obtain ⟨x, rfl, hx, hw⟩ := hcut
              obtain ⟨w7, rfl⟩ : ∃ z, z = wc := ⟨_, rfl⟩
              subst hw
              obtain ⟨s, hs⟩ : ∃ s, b0 % 8 = s := ⟨_, rfl⟩
              have hsi : (b0 : Int) % 8 = s := by omega
              have hs8 : s < 8 := by omega
              clear hs hgd hti hx1
              go_upto_block 2 with fail
              rw [hsi]
              clear hsi
              go_cut [9] from 9 to 9 (fun v wz => ∃ (q cc sn : Nat) (la : Option Addr) (ws : List Int) (kd : List PK) (Ls : List (List Int)) (I : List Int), v = .slice la q cc ∧ Hid (q ≤ t + 1 ∧ sn ≤ t + 1) ∧ Hid (inR I) ∧ Hid (Rn kd ws Ls (t + 1)) ∧ Hid (Has w [] (DA pb qb hb rb mb sn sn kd kd ws ws Ls Ls lb lo D la q cc I) wz))
              case first =>
                clear hc0 hc1 d1 d1' d2
                have hUI : inI (u : Int) := ⟨by omega, by omega⟩
                have HN2 := hid HR.out.two
                have hq40 : q ≤ 40 ∧ sn ≤ 40 := by have := HQS.out; omega
                rcases sw13 s hs8 with hd | hd | hd | hd | hd
                · as_aux_lemma =>
                  go_upto_if 141 with fail
                  go_cut [141] from 141 to 141 (fun v wz => v = .bool true ∧ wz = w7)
                  case first =>
                    rcases hd with hd | ⟨hd, hd'⟩ | ⟨hd, hd', hd''⟩
                    all_goals
                      go_wp2_with fail
                      go_meet
                      exact ⟨by first | rfl | (rw [hd]) | (rw [hd']) | (rw [hd'']), rfl⟩
                  case rest =>
                    obtain ⟨rfl, hw⟩ := hcut
                    obtain ⟨w5, rfl⟩ : ∃ z, z = wc := ⟨_, rfl⟩
                    subst hw
                    clear hd
                    obtain ⟨s5, hs5⟩ : ∃ s5, b2 % 5 = s5 := ⟨_, rfl⟩
                    obtain ⟨q5, hq5⟩ : ∃ q5, b3 % 5 = q5 := ⟨_, rfl⟩
                    obtain ⟨qq, hqq⟩ : ∃ qq : Int, (q5 : Int) - 2 = qq := ⟨_, rfl⟩
                    have hs5i : (b2 : Int) % 5 = s5 := by omega
                    have hq5i : (b3 : Int) % 5 = q5 := by omega
                    obtain ⟨hc2, hc3⟩ := HB23.out _ HX.out.K
                    have hu2n : (u : Int) + 2 < n := by omega
                    have hu3n : (u : Int) + 3 < n := by omega
                    have hqqb : -2 ≤ qq ∧ qq ≤ 2 := by omega
                    go_upto_region 22 with fail
                    go_quiet (fail)
                    try rw [hs5i]
                    try rw [hq5i]
                    try rw [hqq]
                    obtain ⟨N, E, ws', kd', S', hT⟩ := referT_ex HR.out.fine 2 (sn : Int) (s5 : Int) x qq (u : Int)
                    obtain ⟨hR', hNi, hSor⟩ := HR.out.refer hT hx hUI ⟨by omega, by omega⟩
                    obtain ⟨sn', rfl, hsn'⟩ : ∃ sn' : Nat, S' = (sn' : Int) ∧ sn' ≤ t + 1 := by
                      have := HQS.out
                      rcases hSor with ⟨h, _⟩ | ⟨h, _⟩
                      · exact ⟨sn, h, by omega⟩
                      · exact ⟨sn + 1, by rw [h]; omega, by omega⟩
                    have hEor : E = 0 ∨ E ≠ 0 := by omega
                    have HT := hid hT
                    have HR2 := hid hR'.up
                    have HNI := hid hNi
                    have HXd := hid (HX.out.keep0 (Keep.drewN [] w5 nq))
                    clear hT hR' hNi hSor HX hc2 hc3 hs5i hq5i hqq hs5 hq5 hu2n hu3n
                    generalize w5.drewN nq = w6 at *
                    go_wp2_with fail
                    refine (has_d1 HXd.out (fun F hF => prefer 2 s5 x qq u N E sn' ws' kd' _ hF HN2.out HT.out hx hUI ⟨by omega, by omega⟩)).mono ?_
                    rintro e w7' ⟨rfl, hX7⟩
                    have HX7 := hid hX7
                    clear hX7 HXd
                    go_wp2_with fail
                    refine (has_d2 HX7.out (fun F hF => frefer 2 s5 x qq u N E sn' ws' kd' _ hF HN2.out HT.out hx hUI ⟨by omega, by omega⟩)).mono ?_
                    rintro e w8 ⟨rfl, hX8⟩
                    have hy := heap_alloc_new w8 (.cells #[.int .i64 N, .int .i64 E] 34)
                    obtain ⟨z0, z1⟩ := two_cells hy
                    have HX9 := hid (hX8.keep0 (Keep.alloc [] w8 (.cells #[.int .i64 N, .int .i64 E] 34)))
                    clear hX8 HX7 hy HT
                    go_upto_region 25 with fail
                    generalize w8.alloc (.cells #[.int .i64 N, .int .i64 E] 34) = w9 at *
                    generalize w8.heap.size = bg at *
                    go_quiet (first | (go_at_call 8; exact Calls.quiet_of_same ((err_any _ _).mono (fun e w' h => ⟨h.1, h.2.symm⟩))))
                    have HXe := (show Hid (Has w [] (DA pb qb hb rb mb sn' sn' kd' kd' ws' ws' Ls Ls lb lo D la q cc I) (w9.drewN nq)) from HX9.out.keep0 (Keep.drewN [] _ _))
                    have z1' := ((Keep.drewN [] w9 nq).cell (lt_of_cell2' z1) (by simp) 1).trans z1
                    clear z0 z1 HX9
                    generalize w9.drewN nq = w10 at *
                    rcases hEor with rfl | hE0
                    · have HXf := hid (HXe.out.keep0 (Keep.alloc [] w10 (.cells #[.int .i64 N] 3)))
                      have HIN2 := (show Hid (inR (I ++ [N])) from fun i => by
                        rw [snoc_at13]
                        split
                        · exact HIN.out i
                        · split
                          · exact HNI.out
                          · exact ⟨by omega, by omega⟩)
                      go_wp2_with (first | (at_builtin; refine wpList_append_lies _ rfl (.tmp 189) (.tmp 191) 23 rfl 0 3 i0 (.int .i64 0) 1 8 Tryz.underlying23 hI.out.1 hI.out.2.1 hI.out.2.2.1 hI.out.2.2.2 rfl (by decide) _ q (ints I) rfl HXf.out.snd.own ⟨w10.heap.size, 0, none⟩ 1 1 (ints [N]) rfl rfl (one_cell _ _ _) (ints_one _) (by omega) (by unfold maxLen; omega) (by omega) (by omega) (w10.heap.size + 1) (by simp) ?_; intro ga ca w11 hown hgrow hblk hlt9; rw [ints_app] at hown; have HXg := hid (HXf.out.ownMore hown hgrow hblk (by simp) hlt9); clear hown hgrow hblk hlt9))
                      go_meet
                      exact ⟨q + 1, ca, sn', some ⟨ga, 0, none⟩, ws', kd', Ls, I ++ [N], rfl, ⟨by have := HQS.out; omega, hsn'⟩, HIN2, HR2, HXg⟩
                    · have hEb : (E == 0) = false := by rw [beq_eq_false_iff_ne]; exact hE0
                      go_wp2_with fail
                      go_meet
                      exact ⟨q, cc, sn', la, ws', kd', Ls, I, rfl, ⟨by have := HQS.out; omega, hsn'⟩, HIN, HR2, HXe⟩
                · as_aux_lemma =>
                  obtain ⟨hd1, hd2, hd3, hd⟩ := hd
                  go_upto_if 193 with fail
                  go_cut [193] from 193 to 193 (fun v wz => v = .bool true ∧ wz = w7)
                  case first =>
                    rcases hd with hd | ⟨hd, hd'⟩
                    all_goals
                      go_wp2_with fail
                      go_meet
                      exact ⟨by first | rfl | (rw [hd]) | (rw [hd']), rfl⟩
                  case rest =>
                    obtain ⟨rfl, rfl⟩ := hcut
                    clear hd hd1 hd2 hd3
                    obtain ⟨N, E, ws', hT⟩ := readT_ex HR.out.fine x (u : Int)
                    have HR2 := hid (HR.out.read hT hUI).up
                    have HT := hid hT
                    clear hT
                    go_wp2_with fail
                    refine (has_d1 HX.out (fun F hF => pread x u N E ws' _ hF HT.out hUI)).mono ?_
                    rintro e w7 ⟨rfl, hX7⟩
                    have HX7 := hid hX7
                    clear hX7 HX
                    go_wp2_with fail
                    refine (has_d2 HX7.out (fun F hF => fread x u N E ws' _ hF HT.out hUI)).mono ?_
                    rintro e w8 ⟨rfl, hX8⟩
                    have hy := heap_alloc_new w8 (.cells #[.int .i64 N, .int .i64 E] 34)
                    obtain ⟨z0, z1⟩ := two_cells hy
                    have HX9 := hid (hX8.keep0 (Keep.alloc [] w8 (.cells #[.int .i64 N, .int .i64 E] 34)))
                    clear hX8 HX7 hy HT
                    go_upto_region 33 with fail
                    generalize w8.alloc (.cells #[.int .i64 N, .int .i64 E] 34) = w9 at *
                    generalize w8.heap.size = bg at *
                    go_quiet (first | (go_at_call 8; exact Calls.quiet_of_same ((err_any _ _).mono (fun e w' h => ⟨h.1, h.2.symm⟩))))
                    go_wp2_with fail
                    go_meet
                    exact ⟨q, cc, sn, la, ws', kd, Ls, I, rfl, ⟨by have := HQS.out; omega, by have := HQS.out; omega⟩, HIN, HR2, HX9.out.keep0 (Keep.drewN [] _ _)⟩
                · as_aux_lemma =>
                  obtain ⟨hd1, hd2, hd3, hd4, hd5, hd6⟩ := hd
                  obtain ⟨r4, hr4e⟩ : ∃ r4, b2 % 4 = r4 := ⟨_, rfl⟩
                  obtain ⟨h2, hh2⟩ : ∃ h2, b3 / 200 = h2 := ⟨_, rfl⟩
                  have hr44 : r4 < 4 := by omega
                  have hh21 : h2 < 2 := by omega
                  obtain ⟨hc2, hc3⟩ := HB23.out _ HX.out.K
                  have hcl := HX.out.dacell r4 (by rw [HDL.out]; exact hr44)
                  have hyI := HDB.out r4 hr44
                  generalize D[r4]?.getD 0 = y at *
                  go_upto_region 36 with fail
                  clear hd1 hd2 hd3 hd4 hd5 hd6
                  go_cut [20] from 20 to 20 (fun v wz => ∃ (g m2 : Nat) (M : List Int), v = .slice (some ⟨g, 0, none⟩) m2 2 ∧ m2 ≤ 2 ∧ Hid (M.length = m2) ∧ Hid (Has w [] ((DA pb qb hb rb mb sn sn kd kd ws ws Ls Ls lb lo D la q cc I).star (listA (some ⟨g, 0, none⟩) M)) wz))
                  case first =>
                    obtain ⟨u2, hu2⟩ : ∃ u2, u + 2 = u2 := ⟨_, rfl⟩
                    obtain ⟨u3, hu3⟩ : ∃ u3, u + 3 = u3 := ⟨_, rfl⟩
                    rw [hu2] at hc2
                    rw [hu3] at hc3
                    have e1 : IntKind.i64.wrap ((u : Int) + 2) = (u2 : Int) := (IntWalk.i64_in _ (by omega)).trans (by omega)
                    have e2 : IntKind.i64.wrap ((u : Int) + 3) = (u3 : Int) := (IntWalk.i64_in _ (by omega)).trans (by omega)
                    have e3 : IntKind.i64.wrap (b2 : Int) = b2 := IntWalk.i64_in _ (by omega)
                    have e4 : IntKind.i64.wrap (b3 : Int) = b3 := IntWalk.i64_in _ (by omega)
                    have e5 : (b2 : Int).tmod 4 = r4 := by rw [← hr4e]; rfl
                    have e6 : (b3 : Int).tdiv 200 = h2 := by rw [← hh2]; rfl
                    have f1 : (u2 : Int) < n := by omega
                    have f2 : (0 : Int) ≤ u2 := by omega
                    have f3 : (u3 : Int) < n := by omega
                    have f4 : (0 : Int) ≤ u3 := by omega
                    have f5 : (r4 : Int) < 4 := by omega
                    have f6 : (0 : Int) ≤ r4 := by omega
                    have e7 : IntKind.i64.wrap (h2 : Int) = h2 := IntWalk.i64_in _ (by omega)
                    obtain ⟨m2, hm2⟩ : ∃ m2, 1 + h2 = m2 := ⟨_, rfl⟩
                    have e8 : IntKind.i64.wrap (1 + (h2 : Int)) = (m2 : Int) := (IntWalk.i64_in _ (by omega)).trans (by omega)
                    have f7 : (m2 : Int) ≤ 2 := by omega
                    have f8 : (0 : Int) ≤ m2 := by omega
                    have hc3a : ∀ o, (w7.alloc o).drew.cell? ⟨ab, aof + u3, none⟩ = some (.int .u8 b3) := fun o => (((Keep.alloc [] w7 o).trans (Keep.drew [] _)).cell (lt_of_cell2' hc3) (by simp) _).trans hc3
                    clear hr4e hh2 hm2 hu2 hu3
                    go_region
                    go_wp2_with fail
                    go_meet
                    exact ⟨w7.heap.size, m2, [x, y].take m2, rfl, by omega, (two_ints (nA w7 (.cells #[.int .i64 x, .int .i64 y] 3)) hx hyI m2 (by omega)).2, HX.out.more ((Keep.alloc [] w7 _).trans (Keep.drew [] _)) (G := [w7.heap.size]) ⟨rfl, (two_ints (nA w7 (.cells #[.int .i64 x, .int .i64 y] 3)) hx hyI m2 (by omega)).1, fun a e => by cases e; simp⟩ (fun k hk => by simp at hk; omega)⟩
                  case rest =>
                    obtain ⟨g, m2, M, rfl, hm2, HM, HX2⟩ := hcut
                    obtain ⟨w6, rfl⟩ : ∃ w6, w6 = wc := ⟨_, rfl⟩
                    obtain ⟨E, ws', hT⟩ := clearT_ex HR.out.fine M
                    have HR2 := hid (HR.out.clear hT).up
                    have HT := hid hT
                    clear hT HX hc2 hc3 hcl hyI hr4e hh2 hr44 hh21
                    have HX3 := hid HX2.out.assoc.assoc.assoc
                    clear HX2
                    go_wp2_with fail
                    refine (pclear (some ⟨g, 0, none⟩) m2 2 M E ws' _ HX3.out (fun _ _ h => by obtain ⟨_, _, _, _, ⟨_, _, _, _, ⟨_, _, _, _, h2, _⟩, _⟩, _⟩ := h; exact h2.2.1) HM.out (by omega) HT.out).mono ?_
                    rintro e w9 ⟨rfl, hX7⟩
                    have HX7 := hid hX7.assoc'.swap.comm
                    clear hX7 HX3
                    go_wp2_with (first | (go_at_call 8; refine (err_any _ _).mono ?_; rintro e w' ⟨rfl, rfl⟩) | (go_at_call 12; refine (fclear (some ⟨g, 0, none⟩) m2 2 M E ws' _ HX7.out (fun _ _ h => by obtain ⟨_, _, _, _, ⟨_, _, _, _, ⟨_, _, _, _, h2, _⟩, _⟩, _⟩ := h; exact h2.2.1) HM.out (by omega) HT.out).mono ?_; rintro e w8 ⟨rfl, hX8⟩))
                    go_meet
                    exact ⟨q, cc, sn, la, ws', kd, Ls, I, rfl, ⟨by have := HQS.out; omega, by have := HQS.out; omega⟩, HIN, HR2, hX8.comm.swap.assoc'.assoc'.fst⟩
                · as_aux_lemma =>
                  obtain ⟨hd1, hd2, hd3, hd4, hd5, hd6, hd7⟩ := hd
                  obtain ⟨g, E, ws', Ls', hT, hR'⟩ := HR.out.enq (by omega) x
                  have HT := hid hT
                  have HET := hid (hT.enq HR.out.fine)
                  have HR2 := hid hR'
                  have HRW := (show Hid (∀ L, L ∈ Ls → L.length < 999999) from fun L hL => by have := HR.out.rows L hL; omega)
                  clear hT hR'
                  go_upto_region 40 with fail
                  clear hd1 hd2 hd3 hd4 hd5 hd6 hd7
                  go_wp2_with fail
                  refine (has_d1 HX.out (fun F hF => penq x E g ws' Ls' _ hF HET.out hx HRW.out)).mono ?_
                  rintro e w6 ⟨rfl, hX7⟩
                  have HX7 := hid hX7
                  clear hX7 HX
                  go_wp2_with fail
                  refine (has_d2 HX7.out (fun F hF => fenq x E g ws' Ls' _ hF HT.out)).mono ?_
                  rintro e w8 ⟨rfl, hX8⟩
                  obtain ⟨N, hN⟩ : ∃ N, b2i g = N := ⟨_, rfl⟩
                  have hNg : (N == 1) = g := by rw [← hN]; cases g <;> rfl
                  rw [hN]
                  have hy := heap_alloc_new w8 (.cells #[.int .i64 N, .int .i64 E] 34)
                  obtain ⟨z0, z1⟩ := two_cells hy
                  have HX9 := hid (hX8.keep0 (Keep.alloc [] w8 (.cells #[.int .i64 N, .int .i64 E] 34)))
                  clear hX8 HX7 hy HT HET hN
                  go_upto_region 42 with fail
                  generalize w8.alloc (.cells #[.int .i64 N, .int .i64 E] 34) = w9 at *
                  generalize w8.heap.size = bg at *
                  cases g
                  all_goals
                    go_quiet (first | (go_at_call 8; exact Calls.quiet_of_same ((err_any _ _).mono (fun e w' h => ⟨h.1, h.2.symm⟩))))
                    go_wp2_with fail
                    go_meet
                    exact ⟨q, cc, sn, la, ws', kd, Ls', I, rfl, ⟨by have := HQS.out; omega, by have := HQS.out; omega⟩, HIN, HR2, HX9.out.keep0 (Keep.drewN [] _ _)⟩
                · as_aux_lemma =>
                  obtain ⟨hd1, hd2, hd3, hd4, hd5, hd6, hd7⟩ := hd
                  obtain ⟨r3, hr3e⟩ : ∃ r3, b2 % 3 = r3 := ⟨_, rfl⟩
                  obtain ⟨N, E, ws', Ls', hT, hR', hNi⟩ := HR.out.poll (r3 : Int)
                  have HT := hid hT
                  have HPT := hid (hT.poll HR.out.fine)
                  have HR2 := hid hR'.up
                  obtain ⟨hc2, _⟩ := HB23.out _ HX.out.K
                  obtain ⟨c0, _, _, _⟩ := HX.out.fst.fst.fst.pcells
                  go_upto_region 15 with fail
                  clear hd1 hd2 hd3 hd4 hd5 hd6 hd7 hT hR' hNi
                  go_cut [24, 25] from 24 to 25 (fun v1 v2 wz => v1 = .int .i64 N ∧ v2 = .int .i64 E ∧ Hid (Has w [] (DA pb qb hb rb mb sn sn kd kd ws' ws Ls' Ls lb lo D la q cc I) wz))
                  case first =>
                    obtain ⟨u2, hu2⟩ : ∃ u2, u + 2 = u2 := ⟨_, rfl⟩
                    have HB2 := (show Hid (∀ wz, Keep [] w wz → wz.cell? ⟨ab, aof + u2, none⟩ = some (.int .u8 b2)) from fun wz Kz => by rw [← hu2]; exact (HB23.out wz Kz).1)
                    have e1 : IntKind.i64.wrap ((u : Int) + 2) = (u2 : Int) := (IntWalk.i64_in _ (by omega)).trans (by omega)
                    have e3 : IntKind.i64.wrap (b2 : Int) = b2 := IntWalk.i64_in _ (by omega)
                    have e5 : (b2 : Int).tmod 3 = r3 := by rw [← hr3e]; rfl
                    have e7 : IntKind.i64.wrap (r3 : Int) = r3 := IntWalk.i64_in _ (by omega)
                    have f1 : (u2 : Int) < n := by omega
                    have f2 : (0 : Int) ≤ u2 := by omega
                    have g1 := HB2.out w7.drew (HX.out.keep0 (Keep.drew [] w7)).K
                    have g2 := ((Keep.drew [] w7).cell (lt_of_cell2' c0) (by simp) 0).trans c0
                    clear hr3e hu2 hc2 c0
                    go_region_held3 (fun wz => wz.cell? ⟨ab, aof + u2, none⟩ = some (.int .u8 b2) ∧ wz.cell? ⟨pb, 0, none⟩ = some (.pointer (some ⟨qb, 0, none⟩))) (go_keep) (first | (go_at_call 15; refine (has_d1 (HX.out.keep0 (Keep.drew [] _)) (fun F hF => has_pqueue hF (fun F hF => qpoll r3 N E _ _ _ hF HPT.out))).mono ?_; rintro e w6 ⟨rfl, hX6⟩; have k1 := HB2.out _ hX6.K; have k2 := hX6.fst.fst.fst.pcells.1))
                    go_wp2_with fail
                    go_meet
                    exact ⟨rfl, rfl, hX6⟩
                  case rest =>
                    obtain ⟨rfl, rfl, HX6⟩ := hcut
                    obtain ⟨w6, rfl⟩ : ∃ w6, w6 = wc := ⟨_, rfl⟩
                    clear HX hc2 c0
                    obtain ⟨hc2, _⟩ := HB23.out _ HX6.out.K
                    have hr3i : (b2 : Int) % 3 = r3 := by omega
                    have hu2n : (u : Int) + 2 < n := by omega
                    clear hr3e
                    go_wp2_with fail
                    refine (has_d2 HX6.out (fun F hF => fpoll (i := (r3 : Int)) _ hF HT.out)).mono ?_
                    rintro e w8 ⟨rfl, hX8⟩
                    have hy := heap_alloc_new w8 (.cells #[.int .i64 N, .int .i64 E] 34)
                    obtain ⟨z0, z1⟩ := two_cells hy
                    have HX9 := hid (hX8.keep0 (Keep.alloc [] w8 (.cells #[.int .i64 N, .int .i64 E] 34)))
                    clear hX8 HX6 hy HT HPT hc2 hr3i
                    go_upto_region 17 with fail
                    generalize w8.alloc (.cells #[.int .i64 N, .int .i64 E] 34) = w9 at *
                    generalize w8.heap.size = bg at *
                    go_quiet (first | (go_at_call 8; exact Calls.quiet_of_same ((err_any _ _).mono (fun e w' h => ⟨h.1, h.2.symm⟩))))
                    go_wp2_with fail
                    go_meet
                    exact ⟨q, cc, sn, la, ws', kd, Ls', I, rfl, ⟨by have := HQS.out; omega, by have := HQS.out; omega⟩, HIN, HR2, HX9.out.keep0 (Keep.drewN [] _ _)⟩
              case rest =>
                clear HR HX hc0 hc1 hx hs8 d1 d1' d2 HIN HQS HB23 HAB
                obtain ⟨q, cc, sn, la, ws, kd, Ls, I, rfl, HQS, HIN, HR, HX⟩ := hcut
                obtain ⟨w5, rfl⟩ : ∃ w5, w5 = wc := ⟨_, rfl⟩
                obtain ⟨_, c2, _, _⟩ := HX.out.fst.fst.snd.fpart
                go_upto_region 44 with fail
                go_quiet (first | (go_at_call 17; exact Calls.quiet_of_same ((pserial _ (HX.out.keep0 (Keep.drewN [] _ _)).fst.fst.fst).mono (fun e w' h => ⟨h.1, h.2.symm⟩))))
                clear c2
                go_wp2_with fail
                go_roundw
                case rel => exact ⟨u + 4, t + 1, q, cc, sn, la, ws, kd, Ls, I, rfl, by go_num, by have := HU.out; omega, (show u + 4 = 4 * (t + 1) by have := HU.out; omega), HQS, HIN, HR, HX.out.keep0 (Keep.drewN [] _ _)⟩
                case measure => simp [intOf]; omega
    · as_aux_lemma =>
      have HK5 := hid HX.out.K
      have hlen := HR.out.two
      obtain ⟨L0, L1, rfl⟩ : ∃ L0 L1, Ls = [L0, L1] := by
        match Ls, hlen with
        | [L0, L1], _ => exact ⟨L0, L1, rfl⟩
      have HP := hid HX.out.fst.fst.fst
      have HF := hid HX.out.fst.fst.snd
      have hfi := HR.out.fine
      have hnb : (eachK kd).length ≤ 32 * kd.length := hfi.wf.each_len kd.length
      have hn2 := hfi.wf.len2
      have HFI := hid hfi
      obtain ⟨on, hon⟩ : ∃ on, (eachK kd).length = on := ⟨_, rfl⟩
      have HON := hid hon
      rw [hon] at hnb
      have hon2 : on ≤ 1000000 := by omega
      obtain ⟨n0, hn0⟩ : ∃ n0, L0.length = n0 := ⟨_, rfl⟩
      obtain ⟨n1, hn1⟩ : ∃ n1, L1.length = n1 := ⟨_, rfl⟩
      have HL0 := hid hn0
      have HL1 := hid hn1
      have hsp : (decide (u + 3 < n) = false ∧ decide ((u : Int) + 3 < (n : Int)) = false) ∨ (decide (u + 3 < n) = true ∧ decide ((u : Int) + 3 < (n : Int)) = true ∧ decide ((u : Int) < 160) = false ∧ decide (u < 160) = false) := by
        rcases (show (¬ u + 3 < n) ∨ (u + 3 < n ∧ ¬ u < 160) by omega) with h | ⟨h, h'⟩
        · exact .inl ⟨decide_eq_false h, decide_eq_false (by omega)⟩
        · exact .inr ⟨decide_eq_true h, decide_eq_true (by omega), decide_eq_false (by omega), decide_eq_false h'⟩
      clear hfi hon hnb hn2 HX HR hlt hn0 hn1 hlen
      obtain ⟨c0, _, _, _⟩ := HP.out.pcells
      rcases hsp with ⟨d1, d1'⟩ | ⟨d1, d1', d2, d2'⟩
      all_goals
        go_wp2_with fail
        refine (plist 0 L0 _ HP.out rfl HL0.out).mono ?_
        rintro e w6 ⟨la0, lc0, rfl, hI6, hK6⟩
        have HI6 := hid hI6
        have HK6 := hid hK6
        clear hI6 hK6 c0
        have HP6 := hid (HP.out.keep0 HK6.out)
        obtain ⟨c0, _, _, _⟩ := HP6.out.pcells
        go_wp2_with fail
        refine (plist 1 L1 _ HP6.out rfl HL1.out).mono ?_
        rintro e w7 ⟨la1, lc1, rfl, hI7, hK7⟩
        have HI7 := hid hI7
        have HI67 := hid (HI6.out.keep hK7 (by simp [Off]))
        have HK7 := hid (HK6.out.trans hK7)
        clear hI7 hK7 c0 HI6 HP6
        have HF7 := hid (HF.out.keep0 HK7.out)
        have HP7 := hid (HP.out.keep0 HK7.out)
        obtain ⟨bb, vc, l0, cc0, l1, cc1, k0, k1, k2, k3, hA0, hA1, hz0, hz1⟩ := HF7.out.frows
        rw [HL0.out] at k2 hz0
        rw [HL1.out] at k3 hz1
        have HA0 := hid hA0
        have HA1 := hid hA1
        have HPT := (show Hid (∀ w', Keep [] w7 w' → w'.cell? ⟨rb, 0, none⟩ = some (.pointer (some ⟨mb, 0, none⟩)) ∧ w'.cell? ⟨rb, 1, none⟩ = some (.slice (some ⟨bb, 0, none⟩) 2 vc) ∧ w'.cell? ⟨bb, 0, none⟩ = some (.slice l0 n0 cc0) ∧ w'.cell? ⟨bb, 1, none⟩ = some (.slice l1 n1 cc1)) from fun w' K =>
          ⟨(K.cell (lt_of_cell2' k0) (by simp) 0).trans k0, (K.cell (lt_of_cell2' k1) (by simp) 1).trans k1, (K.cell (lt_of_cell2' k2) (by simp) 0).trans k2, (K.cell (lt_of_cell2' k3) (by simp) 1).trans k3⟩)
        clear hA0 hA1 k0 k1 k2 k3
        go_upto_region 48 with fail
        obtain ⟨p0, p1, p2, p3⟩ := HPT.out w7.drew (Keep.drew [] w7)
        clear HB HO HC HDL HDB hI HU HQS HIN HP HF
        go_region_held3 (fun wz => wz.cell? ⟨rb, 0, none⟩ = some (.pointer (some ⟨mb, 0, none⟩)) ∧ wz.cell? ⟨rb, 1, none⟩ = some (.slice (some ⟨bb, 0, none⟩) 2 vc) ∧ wz.cell? ⟨bb, 0, none⟩ = some (.slice l0 n0 cc0) ∧ wz.cell? ⟨bb, 1, none⟩ = some (.slice l1 n1 cc1)) (go_keep) (first
          | (go_at_call 20; refine (oobjects _ (HP7.out.keep0 (Keep.drew [] _)).pheap).mono ?_; rw [HON.out]; rintro e w8 ⟨va, vd, vs, rfl, hO4, hvs, hK4⟩; have hKa := (Keep.drew [] w7).trans hK4; have HO4 := (show Hid (ObjL w8 va on (vs.map OV.rv) ∧ (vs.map OV.rv).map RV.o = objsK kd ws ∧ Keep [] w7 w8) from ⟨hO4.read (objs_ok HFI.out hvs), by rw [← hvs, List.map_map]; rfl, hKa⟩); obtain ⟨q0, q1, q2, q3⟩ := HPT.out _ hKa; clear hO4 hvs hK4 hKa p0 p1 p2 p3)
          | (go_at_call 21; refine (robjects _ (HF7.out.keep0 HO4.out.2.2).fheap).mono ?_; rw [HON.out]; rintro e w9 ⟨vb, ve, us5, rfl, hO5, hvs5, hK5⟩; have HO5 := (show Hid (ObjL w9 va on (vs.map OV.rv) ∧ ObjL w9 vb on us5 ∧ (vs.map OV.rv).map RV.o = us5.map RV.o ∧ Keep [] w7 w9) from ⟨HO4.out.1.keep0 hK5, hO5, HO4.out.2.1.trans hvs5.symm, HO4.out.2.2.trans hK5⟩); obtain ⟨s0, s1, s2, s3⟩ := HPT.out _ HO5.out.2.2.2; clear hO5 hvs5 hK5 q0 q1 q2 q3 HO4)
          | (go_at_call 19; refine (sameObjs va vb on vd ve _ us5 _ HO5.out.1 HO5.out.2.1 HO5.out.2.2.1 hon2).mono ?_; rintro e w10 ⟨rfl, hK6⟩; have HK8 := (show Hid (Keep [] w7 w10) from HO5.out.2.2.2.trans hK6); obtain ⟨t0, t1, t2, t3⟩ := HPT.out _ HK8.out; clear hK6 s0 s1 s2 s3 HO5)
          | (go_at_call 22; have hh11 := HK11.out; refine (same_eq la1 l1 n1 lc1 cc1 L1 _ (HI7.out.keep HK11.out (by simp [Off])) (HA1.out.keep HK11.out (by simp [Off])) HL1.out hz1).mono ?_; rintro e w12 ⟨rfl, hK12⟩; have HK12 := hid (HK11.out.trans hK12); obtain ⟨y0, y1, y2, y3⟩ := HPT.out _ HK12.out; clear hK12 hh11 x0 x1 x2 x3 HK11)
          | (go_at_call 22; refine (same_eq la0 l0 n0 lc0 cc0 L0 _ (HI67.out.keep HK8.out (by simp [Off])) (HA0.out.keep HK8.out (by simp [Off])) HL0.out hz0).mono ?_; rintro e w11 ⟨rfl, hK11⟩; have HK11 := hid (HK8.out.trans hK11); obtain ⟨x0, x1, x2, x3⟩ := HPT.out _ HK11.out; clear hK11 t0 t1 t2 t3 HK8)
          | (go_at_call 8; refine (err_any _ _).mono ?_; rintro e w' ⟨rfl, rfl⟩)
          | (go_at_call 23; refine (awake13_any _).mono ?_; rintro e w13 ⟨rfl, hK13⟩; have HK13 := hid (HK12.out.trans hK13); obtain ⟨j0, j1, j2, j3⟩ := HPT.out _ HK13.out; clear hK13 y0 y1 y2 y3 HK12))
        go_wp2_with fail
        go_ret
        exact ⟨rfl, HK5.out.trans (HK7.out.trans HK13.out)⟩

end Go.Proofs.YtamcoejlghfleaaGreat.refRuns
