/-
  FinalRuns: whatever is awaited, pended, taken: each answer, each list, each head is the document's.
-/
import Derived.Test.YtjlbfojbgnhhbaaGreatPart9
import Derived.Deep.CutBlock
import Derived.Deep.CutRange
import Derived.Deep.RegionLaw
import Derived.Deep.RegionHeld3
namespace Go.Proofs.YtjlbfojbgnhhbaaGreat.finalRuns
open Go.RowKit

set_option maxRecDepth 100000 in
set_option maxHeartbeats 32000000 in
theorem walk (ao : Option Addr) (n c : Nat) (B : Nat → Nat) (bo : Option Addr) (m d : Nat) (O : List Int) (_ : n ≤ 9223372036854775807) (_ : m ≤ 9223372036854775807) (w : World) (u0 : U8At w ao n B) (u1 : ListAt w bo .i64 m O) :
    Calls Tryz.prog 3 #[.slice ao n c, .slice bo m d] w fun e w' => e = .returned (.bool true) ∧ Keep [] w w' := by
  have HB := hid u0
  have HO := hid u1
  clear u0 u1
  obtain ⟨W, K, A, hC⟩ := gchain_ex (kkF 8) (ccF 8) (llF 8) (headF 8) 9 (by omega)
  have HC := hid hC
  have HR0 := (show Hid (RN (K 9) (W 9) [] [] 0) from ⟨hC.os.fine, List.nodup_nil, fun x hx => (by cases hx), Nat.le_refl _⟩)
  obtain ⟨D, hD⟩ : ∃ D, aL A 9 = D := ⟨_, rfl⟩
  have HD := hid hD
  have HDL := (show Hid (D.length = 9) from by show _ = _; rw [← hD, aL_length])
  have HDB := (show Hid (∀ i, i < 9 → inI (D[i]?.getD 0)) from fun i hi => by
    rw [← hD, aL_get A 9 i hi]
    have := hC.os.bd i (by omega)
    exact ⟨by omega, by omega⟩)
  clear hC hD
  go_enter Tryz.func3, Tryz.ntmps3
  go_wp2_with fail
  refine (made15 8 HC.out (by omega) _).mono ?_
  rintro e w1 ⟨hb, fb, la, lc, rfl, _, hX⟩
  rw [HD.out] at hX
  have HX := hid hX
  clear hX
  obtain ⟨lb, lo, rfl, _, _⟩ := HX.out.snd.list.cells (by rw [HDL.out]; omega)
  go_wp2_with fail
  refine (rnewheap 40 HX.out (by omega) (by omega)).mono ?_
  rintro e w2 ⟨mb, rfl, hX2⟩
  have hX3 := hX2.rfin_new _ rfl
  unfold rfObj at hX3
  clear hX2 HX HD
  go_upto_region 5 with fail
  generalize w2.alloc (.cells #[.pointer (some ⟨mb, 0, none⟩), .slice none 0 0, .slice none 0 0] 32) = w3 at *
  generalize w2.heap.size = rb at *
  have HX3 := (show Hid (Has w [] (((pfinA fb hb (W 9) (K 9) [] [] []).star (listA (some ⟨lb, lo, none⟩) D)).star (rfinA rb mb (W 0) (K 0) [] [] [])) w3) from by
    show Has _ _ _ _
    rw [HC.out.w0, HC.out.k0]
    exact hX3)
  clear hX3
  go_wp2_with fail
  go_loopw [9] (fun i wr => ∃ j : Nat, i = .int .i64 j ∧ j ≤ 9 ∧ Hid (Has w [] (((pfinA fb hb (W 9) (K 9) [] [] []).star (listA (some ⟨lb, lo, none⟩) D)).star (rfinA rb mb (W j) (K j) [] [] [])) wr)) (fun i _ => 9 - (intOf i).toNat)
  case atStart => exact ⟨0, rfl, by omega, HX3⟩
  case round =>
    obtain ⟨j, rfl, hj, HX⟩ := hrel
    obtain ⟨w4, rfl⟩ : ∃ w4, w4 = wr := ⟨_, rfl⟩
    clear HX3
    by_cases hlt : j < 9
    · have HT := hid (HC.out.step j (by omega))
      obtain ⟨_, _, _, _, hR, _⟩ := HX.out.snd.rfraw
      obtain ⟨r0, _, _, _, _⟩ := rfobj_cells hR.rfcells
      clear hR
      by_cases hj8 : j < 8
      · have HT2 := (show Hid (MakeT (K j) (W j) [] 3 0 1 false (A j) 0 (W (j + 1)) (K (j + 1))) from by
          have h := HT.out
          unfold kkF ccF llF at h
          rw [if_neg (by omega), if_neg (by omega), if_neg (by omega)] at h
          exact h)
        clear HT
        go_wp2_with fail
        refine (has_right HX.out (fun F hF => has_rfheap hF (fun F hF => rmake 3 0 1 _ 0 false _ _ _ hF HT2.out))).mono ?_
        rintro e w5 ⟨rfl, hX5⟩
        have HX5 := hid hX5
        clear hX5 HX r0
        go_wp2_with fail
        go_roundw
        case rel => exact ⟨j + 1, by go_num, by omega, HX5⟩
        case measure => simp [intOf]; omega
      · obtain rfl : j = 8 := by omega
        have HT2 := (show Hid (MakeT (K 8) (W 8) [] 4 2 5 false (A 8) 0 (W (8 + 1)) (K (8 + 1))) from HT.out)
        clear HT
        rw [show ((8 : Nat) : Int) = 8 from rfl]
        go_wp2_with fail
        refine (has_right HX.out (fun F hF => has_rfheap hF (fun F hF => rmake 4 2 5 _ 0 false _ _ _ hF HT2.out))).mono ?_
        rintro e w5 ⟨rfl, hX5⟩
        have HX5 := hid hX5
        clear hX5 HX r0
        go_wp2_with fail
        go_roundw
        case rel => exact ⟨8 + 1, by go_num, by omega, HX5⟩
        case measure => simp [intOf]
    · obtain rfl : j = 9 := by omega
      rw [show ((9 : Nat) : Int) = 9 from rfl]
      have HX4 := (show Hid (Has w [] (DF fb hb rb mb (W 9) (W 9) (K 9) (K 9) [] [] [] [] lb lo D) w4) from HX.out.swap)
      clear HX hlt
      go_wp2_with fail
      go_loopw [10] (fun i wr => ∃ (u t : Nat) (ws : List Int) (L Q : List Int), i = .int .i64 u ∧ u ≤ 120 ∧ Hid (u = 3 * t) ∧ Hid (RN (K 9) ws L Q t) ∧ Hid (Has w [] (DF fb hb rb mb ws ws (K 9) (K 9) L Q L Q lb lo D) wr)) (fun i _ => 120 - (intOf i).toNat)
      case atStart => exact ⟨0, 0, _, _, _, rfl, by omega, rfl, HR0, HX4⟩
      case round =>
        obtain ⟨u, t, ws, L, Q, rfl, hu, HU, HR, HX⟩ := hrel
        obtain ⟨w5, rfl⟩ : ∃ w5, w5 = wr := ⟨_, rfl⟩
        clear HX4 HR0
        generalize K 9 = kd at *
        by_cases hlt : u + 2 < n ∧ u < 120
        · obtain ⟨hun, hu120⟩ := hlt
          have ht40 : t < 40 := by have := HU.out; omega
          have d1 : decide (u + 2 < n) = true := decide_eq_true hun
          have d1' : decide ((u : Int) + 2 < (n : Int)) = true := decide_eq_true (by omega)
          have d2 : decide ((u : Int) < 120) = true := decide_eq_true (by omega)
          obtain ⟨ab, aof, rfl, hab, hca⟩ := HB.out.cells (by omega)
          have HCA := (show Hid (∀ i, i < 3 → w.cell? ⟨ab, aof + (u + i), none⟩ = some (.int .u8 (B (u + i)))) from fun i hi => hca (u + i) (by omega))
          have hb0 := HB.out.lt u
          have hb1 := HB.out.lt (u + 1)
          have hb2 := HB.out.lt (u + 2)
          have hc0 := (HX.out.K.cell hab (by simp) (aof + u)).trans (HCA.out 0 (by omega))
          have hc1 := (HX.out.K.cell hab (by simp) (aof + (u + 1))).trans (HCA.out 1 (by omega))
          obtain ⟨b0, hb0e⟩ : ∃ b0, B u = b0 := ⟨_, rfl⟩
          obtain ⟨b1, hb1e⟩ : ∃ b1, B (u + 1) = b1 := ⟨_, rfl⟩
          obtain ⟨b2, hb2e⟩ : ∃ b2, B (u + 2) = b2 := ⟨_, rfl⟩
          rw [Nat.add_zero, hb0e] at hc0
          rw [hb1e] at hc1
          rw [hb0e] at hb0
          rw [hb1e] at hb1
          rw [hb2e] at hb2
          have HB2 := (show Hid (∀ wz, Keep [] w wz → wz.cell? ⟨ab, aof + (u + 2), none⟩ = some (.int .u8 b2)) from fun wz Kz =>
            (Kz.cell hab (by simp) (aof + (u + 2))).trans ((HCA.out 2 (by omega)).trans (by rw [hb2e])))
          obtain ⟨r, hr⟩ : ∃ r, b1 % 9 = r := ⟨_, rfl⟩
          have hri : (b1 : Int) % 9 = r := by omega
          have hr9 : r < 9 := by omega
          have hr9i : (r : Int) < 9 := by omega
          have hr0i : (0 : Int) ≤ r := by omega
          have hti : (u : Int) / 3 = t := by have := HU.out; omega
          have hcl := HX.out.dfcell r (by rw [HDL.out]; exact hr9)
          have hx0 := HDB.out r hr9
          generalize D[r]?.getD 0 = x0 at *
          clear hca hb0e hb1e hb2e hr hab HCA
          go_upto_region 15 with fail
          clear hri hr9i hr0i hcl
          obtain ⟨gd2, hgd⟩ : ∃ gd : Bool, gd = (decide (t < m) && decide (240 ≤ b1)) := ⟨_, rfl⟩
          go_cut [77] from 77 to 77 (fun v wz => v = .bool gd2 ∧ wz = w5)
          case first =>
            by_cases q1 : t < m
            · have d3 : decide (t < m) = true := decide_eq_true q1
              have d3' : decide ((t : Int) < (m : Int)) = true := decide_eq_true (by omega)
              by_cases q2 : 240 ≤ b1
              · have d4 : decide (240 ≤ b1) = true := decide_eq_true q2
                have hg : gd2 = true := by rw [hgd, d3, d4]; rfl
                clear hgd
                go_wp2_with fail
                go_meet
                exact ⟨by rw [hg]; first | rfl | (congr 1; exact decide_eq_true (by omega)), rfl⟩
              · have d4 : decide (240 ≤ b1) = false := decide_eq_false q2
                have hg : gd2 = false := by rw [hgd, d3, d4]; rfl
                clear hgd q2
                go_wp2_with fail
                go_meet
                exact ⟨by rw [hg]; first | rfl | (congr 1; exact decide_eq_false (by have := of_decide_eq_false d4; omega)), rfl⟩
            · have d3 : decide (t < m) = false := decide_eq_false q1
              have d3' : decide ((t : Int) < (m : Int)) = false := decide_eq_false (by omega)
              have hg : gd2 = false := by rw [hgd, d3]; rfl
              clear hgd q1
              go_wp2_with fail
              go_meet
              exact ⟨by rw [hg], rfl⟩
          case rest =>
            obtain ⟨rfl, rfl⟩ := hcut
            go_upto_if 77 with fail
            go_cut [11] from 11 to 11 (fun v wz => ∃ x : Int, v = .int .i64 x ∧ inI x ∧ wz = wc)
            case first =>
              cases gd2 with
              | false =>
                go_wp2_with fail
                go_meet
                exact ⟨x0, rfl, hx0, rfl⟩
              | true =>
                have htm : t < m := by
                  have h1 : (decide (t < m) && decide (240 ≤ b1)) = true := hgd.symm
                  rw [Bool.and_eq_true] at h1
                  exact of_decide_eq_true h1.1
                have htmi : (t : Int) < m := by omega
                have ht0i : (0 : Int) ≤ t := by omega
                obtain ⟨db, dof, rfl, hdb, hdc⟩ := HO.out.cells (by omega)
                have hd0 := (HX.out.K.cell hdb (by simp) (dof + t)).trans (hdc t htm)
                have hdw := bounds_i64 (HO.out.wf t htm)
                generalize O[t]?.getD 0 = y at *
                clear hdc hgd
                go_wp2_with fail
                go_meet
                exact ⟨y, rfl, ⟨by omega, by omega⟩, rfl⟩
            case rest =>
              obtain ⟨x, rfl, hx, hw⟩ := hcut
              obtain ⟨w7, rfl⟩ : ∃ z, z = wc := ⟨_, rfl⟩
              subst hw
              obtain ⟨s, hs⟩ : ∃ s, b0 % 5 = s := ⟨_, rfl⟩
              have hsi : (b0 : Int) % 5 = s := by omega
              have hs5 : s < 5 := by omega
              clear hs hgd hti hx0
              go_upto_block 4 with fail
              rw [hsi]
              clear hsi
              go_cut [] from 88 to 88 (fun wz => ∃ (ws : List Int) (L Q : List Int), Hid (RN kd ws L Q (t + 1)) ∧ Hid (Has w [] (DF fb hb rb mb ws ws kd kd L Q L Q lb lo D) wz))
              case first =>
                clear hc0 hc1 d1 d1' d2
                have hLQ : L.length + Q.length ≤ 40 := by have := HR.out.len; omega
                have HLQ := hid hLQ
                clear hLQ
                rcases sw15 s hs5 with hd | hd | hd
                · as_aux_lemma =>
                  go_upto_if 122 with fail
                  go_cut [122] from 122 to 122 (fun v wz => v = .bool true ∧ wz = w7)
                  case first =>
                    rcases hd with hd | ⟨hd, hd'⟩
                    all_goals
                      go_wp2_with fail
                      go_meet
                      exact ⟨by first | rfl | (rw [hd]) | (rw [hd']), rfl⟩
                  case rest =>
                    obtain ⟨rfl, rfl⟩ := hcut
                    clear hd
                    obtain ⟨E, ws', hT⟩ := finalT_ex HR.out.fine.ob x
                    have HR2 := hid (HR.out.await hT)
                    have HT := hid hT
                    clear hT
                    go_wp2_with fail
                    refine (has_f1 HX.out (fun F hF => pfawait x E ws' _ hF HT.out hx (by have := HLQ.out; omega))).mono ?_
                    rintro e w7 ⟨rfl, hX7⟩
                    have HX7 := hid hX7
                    clear hX7 HX
                    go_wp2_with (first | (go_at_call 7; refine (err_any _ _).mono ?_; rintro e w' ⟨rfl, rfl⟩))
                    refine (has_f2 HX7.out (fun F hF => rawait x E ws' _ hF HT.out hx (by have := HLQ.out; omega))).mono ?_
                    rintro e w8 ⟨rfl, hX8⟩
                    have HX8 := hid hX8
                    clear hX8 HX7
                    go_wp2_with fail
                    go_meet
                    exact ⟨ws', awaitL E L x, Q, HR2, HX8⟩
                · as_aux_lemma =>
                  obtain ⟨hd1, hd2, hd⟩ := hd
                  go_upto_if 133 with fail
                  go_cut [133] from 133 to 133 (fun v wz => v = .bool true ∧ wz = w7)
                  case first =>
                    rcases hd with hd | ⟨hd, hd'⟩
                    all_goals
                      go_wp2_with fail
                      go_meet
                      exact ⟨by first | rfl | (rw [hd]) | (rw [hd']), rfl⟩
                  case rest =>
                  obtain ⟨rfl, hw⟩ := hcut
                  obtain ⟨w6, rfl⟩ : ∃ z, z = wc := ⟨_, rfl⟩
                  subst hw
                  clear hd hd1 hd2
                  obtain ⟨r9, hr9e⟩ : ∃ r9, b2 % 9 = r9 := ⟨_, rfl⟩
                  obtain ⟨m2, hm2⟩ : ∃ m2, b2 % 4 = m2 := ⟨_, rfl⟩
                  have hr99 : r9 < 9 := by omega
                  have hm23 : m2 ≤ 3 := by omega
                  have hc2 := HB2.out _ HX.out.K
                  have hcl := HX.out.dfcell r9 (by rw [HDL.out]; exact hr99)
                  have hyI := HDB.out r9 hr99
                  generalize D[r9]?.getD 0 = y at *
                  go_upto_region 28 with fail
                  go_cut [12] from 12 to 12 (fun v wz => ∃ (g : Nat) (M : List Int), v = .slice (some ⟨g, 0, none⟩) m2 3 ∧ Hid (M.length = m2) ∧ Hid (Has w [] ((DF fb hb rb mb ws ws kd kd L Q L Q lb lo D).star (listA (some ⟨g, 0, none⟩) M)) wz))
                  case first =>
                    obtain ⟨u2, hu2⟩ : ∃ u2, u + 2 = u2 := ⟨_, rfl⟩
                    rw [hu2] at hc2
                    have e1 : IntKind.i64.wrap ((u : Int) + 2) = (u2 : Int) := (IntWalk.i64_in _ (by omega)).trans (by omega)
                    have e3 : IntKind.i64.wrap (b2 : Int) = b2 := IntWalk.i64_in _ (by omega)
                    have e5 : (b2 : Int).tmod 9 = r9 := by rw [← hr9e]; rfl
                    have e6 : (b2 : Int).tmod 4 = m2 := by rw [← hm2]; rfl
                    have f1 : (u2 : Int) < n := by omega
                    have f2 : (0 : Int) ≤ u2 := by omega
                    have f5 : (r9 : Int) < 9 := by omega
                    have f6 : (0 : Int) ≤ r9 := by omega
                    have f7 : (m2 : Int) ≤ 3 := by omega
                    have f8 : (0 : Int) ≤ m2 := by omega
                    have e8 : IntKind.i64.wrap (m2 : Int) = (m2 : Int) := IntWalk.i64_in _ (by omega)
                    have e9 : IntKind.i64.wrap (r9 : Int) = (r9 : Int) := IntWalk.i64_in _ (by omega)
                    have hc2a : ∀ o, (w6.alloc o).drew.cell? ⟨ab, aof + u2, none⟩ = some (.int .u8 b2) := fun o => (((Keep.alloc [] w6 o).trans (Keep.drew [] _)).cell (lt_of_cell2' hc2) (by simp) _).trans hc2
                    clear hr9e hm2 hu2
                    go_region
                    all_goals
                      go_wp2_with fail
                      go_meet
                      exact ⟨w6.heap.size, [x, y, x].take m2, rfl, (three_ints (nA w6 (.cells #[.int .i64 x, .int .i64 y, .int .i64 x] 3)) hx hyI hx m2 (by omega)).2, HX.out.more ((Keep.alloc [] w6 _).trans (Keep.drew [] _)) (G := [w6.heap.size]) ⟨rfl, (three_ints (nA w6 (.cells #[.int .i64 x, .int .i64 y, .int .i64 x] 3)) hx hyI hx m2 (by omega)).1, fun a e => by cases e; simp⟩ (fun k hk => by simp at hk; omega)⟩
                  case rest =>
                    obtain ⟨g, M, rfl, HM, HX2⟩ := hcut
                    obtain ⟨w8, rfl⟩ : ∃ w8, w8 = wc := ⟨_, rfl⟩
                    have HR2 := hid (HR.out.pend M)
                    clear HX hc2 hcl hyI hr9e hm2 hr99
                    have HX3 := hid HX2.out.assoc.assoc
                    clear HX2
                    go_wp2_with fail
                    refine (pfpend (some ⟨g, 0, none⟩) m2 3 M _ HX3.out (fun _ _ h => by obtain ⟨_, _, _, _, ⟨_, _, _, _, h2, _⟩, _⟩ := h; exact h2.2.1) HM.out (by have := HLQ.out; omega) (by have := HLQ.out; omega) HR.out.nd).mono ?_
                    rintro e w9 ⟨rfl, hX7⟩
                    have HX7 := hid hX7.comm.assoc
                    clear hX7 HX3
                    go_wp2_with fail
                    refine (rpend (some ⟨g, 0, none⟩) m2 3 M _ HX7.out (fun _ _ h => by obtain ⟨_, _, _, ⟨_, _, _, _, h2, _⟩, _⟩ := h; exact h2.2.1) HM.out (by have := HLQ.out; omega) (by have := HLQ.out; omega)).mono ?_
                    rintro e w10 ⟨rfl, hX8⟩
                    have HX8 := (show Hid (Has w [] (DF fb hb rb mb ws ws kd kd (pendL L Q M).1 (pendL L Q M).2 (pendL L Q M).1 (pendL L Q M).2 lb lo D) w10) from hX8.assoc'.comm.assoc'.assoc'.fst)
                    clear hX8 HX7
                    go_wp2_with fail
                    go_meet
                    exact ⟨ws, _, _, HR2, HX8⟩
                · as_aux_lemma =>
                  obtain ⟨hd1, hd2, hd3, hd4⟩ := hd
                  obtain ⟨s6, hs6⟩ : ∃ s6, b2 % 6 = s6 := ⟨_, rfl⟩
                  obtain ⟨qq, hqq⟩ : ∃ qq : Int, (s6 : Int) - 1 = qq := ⟨_, rfl⟩
                  have hs6i : (b2 : Int) % 6 = s6 := by omega
                  have hqqb : -1 ≤ qq ∧ qq ≤ 4 := by omega
                  have hqI : inI qq := ⟨by omega, by omega⟩
                  have hu2n : (u : Int) + 2 < n := by omega
                  have hc2 := HB2.out _ HX.out.K
                  obtain ⟨N, E, Q', hT⟩ := takeT_ex Q qq
                  have HT := hid hT
                  have HR2 := hid (HR.out.take hT)
                  clear hT hs6
                  go_upto_region 18 with fail
                  clear hd1 hd2 hd3 hd4
                  go_wp2_with fail
                  try rw [hs6i]
                  try rw [hqq]
                  refine (has_f1 HX.out (fun F hF => pftake qq N E Q' _ hF HT.out hqI (by have := HLQ.out; omega))).mono ?_
                  rintro e w8 ⟨rfl, hX7⟩
                  have HX7 := hid hX7
                  have hc3 := HB2.out _ hX7.K
                  clear hX7 HX hc2
                  go_wp2_with fail
                  try rw [hs6i]
                  try rw [hqq]
                  refine (has_f2 HX7.out (fun F hF => rtake qq N E Q' _ hF HT.out hqI (by have := HLQ.out; omega))).mono ?_
                  rintro e w9 ⟨rfl, hX8⟩
                  have hy := heap_alloc_new w9 (.cells #[.int .i64 N, .int .i64 E] 34)
                  obtain ⟨z0, z1⟩ := two_cells hy
                  have HX9 := hid (hX8.keep0 (Keep.alloc [] w9 (.cells #[.int .i64 N, .int .i64 E] 34)))
                  clear hX8 HX7 hy HT hc3
                  go_upto_region 20 with fail
                  generalize w9.alloc (.cells #[.int .i64 N, .int .i64 E] 34) = w10 at *
                  generalize w9.heap.size = bg at *
                  go_quiet (first | (go_at_call 7; exact Calls.quiet_of_same ((err_any _ _).mono (fun e w' h => ⟨h.1, h.2.symm⟩))))
                  go_wp2_with fail
                  go_meet
                  exact ⟨ws, L, Q', HR2, HX9.out.keep0 (Keep.drewN [] _ _)⟩
              case rest =>
                obtain ⟨ws5, L5, Q5, HR5, HX5⟩ := hcut
                obtain ⟨w6, rfl⟩ : ∃ w6, w6 = wc := ⟨_, rfl⟩
                have hlen5 := HR5.out.len
                obtain ⟨ra, rc, qa, qd, r0, r1, r2, hI1, hI2⟩ := HX5.out.dfrows
                obtain ⟨nl, hnl⟩ : ∃ nl, L5.length = nl := ⟨_, rfl⟩
                obtain ⟨mq, hmq⟩ : ∃ mq, Q5.length = mq := ⟨_, rfl⟩
                rw [hnl] at r1
                rw [hmq] at r2
                have hnlb : nl ≤ 41 := by omega
                have hmqb : mq ≤ 41 := by omega
                have HNL := hid hnl
                have HNQ := hid hmq
                have hrb : rb < w6.heap.size := lt_of_cell2' r1
                have HDR := (show Hid (∀ w', Keep [] w6 w' → w'.cell? ⟨rb, 1, none⟩ = some (.slice ra nl rc) ∧ w'.cell? ⟨rb, 2, none⟩ = some (.slice qa mq qd) ∧ IntsAt w' ra L5 ∧ IntsAt w' qa Q5) from fun w' K => ⟨(K.cell hrb (by simp) 1).trans r1, (K.cell hrb (by simp) 2).trans r2, hI1.keep K (fun _ _ _ => by simp), hI2.keep K (fun _ _ _ => by simp)⟩)
                clear HX HR hc0 hc1 hx r0 hI1 hI2 hnl hmq hlen5 hrb d1 d1' d2 HB2 hs5
                go_upto_region 31 with fail
                go_cut [180] from 180 to 180 (fun v wz => v = .bool false ∧ Hid (Has w [] (DF fb hb rb mb ws5 ws5 kd kd L5 Q5 L5 Q5 lb lo D) wz))
                case first =>
                  as_aux_lemma =>
                  obtain ⟨p1, p2, _, _⟩ := HDR.out w6.drew (Keep.drew [] w6)
                  go_region_held3 (fun wz => wz.cell? ⟨rb, 1, none⟩ = some (.slice ra nl rc) ∧ wz.cell? ⟨rb, 2, none⟩ = some (.slice qa mq qd)) (go_keep) (first
                    | (go_at_call 14; have hh := HX10; refine (same_eq _ _ mq _ _ Q5 _ HX10.out.snd.list (HDR.out _ HK10.out).2.2.2 HNQ.out (by omega)).mono ?_; rintro e w11 ⟨rfl, hK11⟩; have HX11 := hid (HX10.out.keep0 hK11); obtain ⟨l1, l2, _, _⟩ := HDR.out _ (HK10.out.trans hK11); clear hK11 hh k1 k2 HX10)
                    | (go_at_call 16; refine (pfpending _ HX9.out.fst.fst.fst (by rw [HNQ.out]; omega)).mono ?_; rintro e w10 ⟨v10, m10, rfl, hown10, hK10⟩; obtain ⟨l10, c10, rfl, _, _, hX10⟩ := HX9.out.listed2 hK10 hown10 HX9.out.fst.fst.fst.pfin_in.2; rw [HNQ.out]; have HX10 := hid hX10; have HK10 := hid (HK9.out.trans hK10); obtain ⟨k1, k2, _, _⟩ := HDR.out _ HK10.out; clear hX10 hown10 hK10 j1 j2 HX9 HK9)
                    | (go_at_call 14; have hh := HX8; refine (same_eq _ _ nl _ _ L5 _ HX8.out.snd.list (HDR.out _ HK8.out).2.2.1 HNL.out (by omega)).mono ?_; rintro e w9 ⟨rfl, hK9⟩; have HX9 := hid (HX8.out.keep0 hK9); have HK9 := hid (HK8.out.trans hK9); obtain ⟨j1, j2, _, _⟩ := HDR.out _ HK9.out; clear hK9 hh i1 i2 HX8 HK8)
                    | (go_at_call 15; refine (pffinals _ ((HX5.out.keep0 (Keep.drew [] _)).fst.fst) (by rw [HNL.out]; omega)).mono ?_; rintro e w8 ⟨v8, m8, rfl, hown8, hK8⟩; obtain ⟨l8, c8, rfl, _, _, hX8⟩ := (HX5.out.keep0 (Keep.drew [] _)).listed2 hK8 hown8 (HX5.out.fst.fst.pfin_in.1); rw [HNL.out]; have HX8 := hid hX8; have HK8 := hid ((Keep.drew [] w6).trans hK8); obtain ⟨i1, i2, _, _⟩ := HDR.out _ HK8.out; clear hX8 hown8 hK8 p1 p2))
                  all_goals (
                    go_wp2_with fail
                    go_meet
                    exact ⟨rfl, HX11.out.fst.fst⟩)
                case rest =>
                  obtain ⟨rfl, hcut⟩ := hcut
                  have HX6 := hid hcut.out
                  have HU2 := (show Hid (u + 3 = 3 * (t + 1)) from by have := HU.out; show _ = _; omega)
                  clear hcut r1 r2
                  go_wp2_with fail
                  go_roundw
                  case rel => exact ⟨u + 3, t + 1, ws5, L5, Q5, by go_num, (by have := HU2.out; omega), HU2, HR5, HX6⟩
                  case measure => simp [intOf]; omega
        · have hex : (n ≤ u + 2 ∧ decide (u + 2 < n) = false) ∨ ((u + 2 < n ∧ decide (u + 2 < n) = true) ∧ 120 ≤ u ∧ decide (u < 120) = false) := by
            by_cases h1 : u + 2 < n
            · exact .inr ⟨⟨h1, decide_eq_true h1⟩, by omega, decide_eq_false (by omega)⟩
            · exact .inl ⟨by omega, decide_eq_false h1⟩
          clear hlt
          have hfi := HR.out.fine
          have hnb : (eachK kd).length ≤ 32 * kd.length := hfi.wf.each_len kd.length
          have hn2 := hfi.wf.len2
          obtain ⟨on, hon⟩ : ∃ on, (eachK kd).length = on := ⟨_, rfl⟩
          have HON := hid hon
          rw [hon] at hnb
          have hon2 : on ≤ 1000000 := by omega
          clear hnb hn2 hfi
          have HFI := hid HR.out.fine
          obtain ⟨_, _, _, _, r0, _, _, _, _⟩ := HX.out.dfrows
          have hrb : rb < w5.heap.size := lt_of_cell2' r0
          have HRT := (show Hid (∀ w', Keep [] w5 w' → w'.cell? ⟨rb, 0, none⟩ = some (.pointer (some ⟨mb, 0, none⟩))) from fun w' K => (K.cell hrb (by simp) 0).trans r0)
          clear hon hrb HU HR
          rcases hex with ⟨h1, h2⟩ | ⟨⟨h1, h2⟩, h3, h4⟩
          all_goals as_aux_lemma =>
            go_upto_region 33 with fail
            try clear h3 h4
            clear h1 h2
            have r0' := HRT.out w5.drew (Keep.drew [] w5)
            clear HB HO HC HDL HDB
            go_region_held3 (fun wz => wz.cell? ⟨rb, 0, none⟩ = some (.pointer (some ⟨mb, 0, none⟩))) (go_keep) (first
              | (go_at_call 20; refine (awake15_any _).mono ?_; rintro e w11 ⟨rfl, hK11⟩; have HK11 := hid (HK8.out.trans hK11); have s0 := HRT.out _ HK11.out; clear hK11 t0 HK8)
              | (go_at_call 17; refine (sameObjs va vb on vd ve _ us5 _ HO5.out.1 HO5.out.2.1 HO5.out.2.2.1 hon2).mono ?_; rintro e w10 ⟨rfl, hK6⟩; have HK8 := (show Hid (Keep [] w5 w10) from HO5.out.2.2.2.trans hK6); have t0 := HRT.out _ HK8.out; clear hK6 p0 HO5)
              | (go_at_call 19; refine (robjects _ (HX.out.fst.snd.keep0 HO4.out.2.2).rfheap).mono ?_; rw [HON.out]; rintro e w9 ⟨vb, ve, us5, rfl, hO5, hvs5, hK5⟩; have HO5 := (show Hid (ObjL w9 va on (vs.map OV.rv) ∧ ObjL w9 vb on us5 ∧ (vs.map OV.rv).map RV.o = us5.map RV.o ∧ Keep [] w5 w9) from ⟨HO4.out.1.keep0 hK5, hO5, HO4.out.2.1.trans hvs5.symm, HO4.out.2.2.trans hK5⟩); have p0 := HRT.out _ HO5.out.2.2.2; clear hO5 hvs5 hK5 q0 HO4)
              | (go_at_call 18; refine (oobjects _ (HX.out.keep0 (Keep.drew [] _)).fst.fst.pfheap).mono ?_; rw [HON.out]; rintro e w8 ⟨va, vd, vs, rfl, hO4, hvs, hK4⟩; have hKa := (Keep.drew [] w5).trans hK4; have HO4 := (show Hid (ObjL w8 va on (vs.map OV.rv) ∧ (vs.map OV.rv).map RV.o = objsK kd ws ∧ Keep [] w5 w8) from ⟨hO4.read (objs_ok HFI.out hvs), by rw [← hvs, List.map_map]; rfl, hKa⟩); have q0 := HRT.out _ hKa; clear hO4 hvs hK4 hKa r0'))
            all_goals (
              go_wp2_with fail
              go_ret
              exact ⟨rfl, HX.out.K.trans HK11.out⟩)

end Go.Proofs.YtjlbfojbgnhhbaaGreat.finalRuns
