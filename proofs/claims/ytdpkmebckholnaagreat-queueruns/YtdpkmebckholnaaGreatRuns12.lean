/-
  QueueRuns: whatever is opened, pushed, polled: each answer, each row, each field is the document's.
-/
import Derived.Test.YtdpkmebckholnaaGreatCalls12
import Derived.Test.YtdpkmebckholnaaGreatDuo9
import Derived.Deep.CutBlock
import Derived.Deep.CutRange
namespace Go.Proofs.YtdpkmebckholnaaGreat.queueRuns
open Go.RowKit

set_option maxRecDepth 100000 in
set_option maxHeartbeats 16000000 in
theorem walk (ao : Option Addr) (n c : Nat) (B : Nat → Nat) (bo : Option Addr) (m d : Nat) (D : List Int) (_ : n ≤ 9223372036854775807) (_ : m ≤ 9223372036854775807) (w : World) (u0 : U8At w ao n B) (u1 : ListAt w bo .i64 m D) :
    Calls Tryz.prog 3 #[.slice ao n c, .slice bo m d] w fun e w' => e = .returned (.bool true) ∧ Keep [] w w' := by
  have HB := hid u0
  have HD := hid u1
  clear u0 u1
  obtain ⟨W, K, A, hC⟩ := chain_ex 12 (by omega)
  have HC := hid hC
  have HO0 := (show Hid (Bo (K 12) (W 12) [] [] 0) from ⟨(hC.fine 12 (by omega)).1, by simp, by simp, by simp, by simp, by simp⟩)
  clear hC
  obtain ⟨i0, hi, hz0, hz1, hz2⟩ := info_parts Tryz.infoInt12
  have hI : Hid (Tryz.prog.info? 3 = some i0 ∧ i0.zero = some (.int .i64 0) ∧ i0.size = 1 ∧ i0.bytes = 8) := ⟨hi, hz0, hz1, hz2⟩
  clear hi hz0 hz1 hz2
  go_enter Tryz.func3, Tryz.ntmps3
  go_wp2_with fail
  refine (heap12 12 12 HC.out (by omega) (by omega) _).mono ?_
  rintro e w1 ⟨hb, la, lc, rfl, hX⟩
  have HX := hid hX
  clear hX
  go_wp2_with fail
  refine (has_left_ex HX.out (fun F hF => qnew _ hF)).mono ?_
  rintro e w2 ⟨qb, rfl, hQ⟩
  have HQ := (show Hid (Has w [] ((queueA qb hb (W 12) (K 12) [] []).star (listA la (aL A 12))) w2) from hQ)
  clear hQ HX
  obtain ⟨lb, lo, rfl, _⟩ := HQ.out.qlen (by omega)
  go_wp2_with fail
  refine (model12 12 12 HC.out (by omega) (by omega) _ HQ.out).mono ?_
  rintro e w3 ⟨mb, rfl, hX3⟩
  have HX3 := hid hX3
  clear hX3 HQ
  go_upto_region 6 with fail
  have HX4 := (show Hid (Has w [] (DD qb hb w3.heap.size mb (K 12) (W 12) [] lb lo A none 0 0 []) (w3.alloc (rObj mb 0 none 0 0))) from (HX3.out.refsNew.swap).ownNew 3)
  clear HX3
  unfold rObj at HX4
  generalize w3.alloc (.cells #[.pointer (some ⟨mb, 0, none⟩), .slice none 0 0, .int .i64 0] 34) = w4 at *
  generalize w3.heap.size = rb at *
  go_wp2_with fail
  go_loopw [9, 10] (fun v i wr => ∃ (u t q cc : Nat) (la : Option Addr) (ws : List Int) (Ls : List (List Int)) (I : List Int), v = .slice la q cc ∧ i = .int .i64 u ∧ u ≤ 120 ∧ Hid (u = 2 * t) ∧ Hid (Bo (K 12) ws Ls I t) ∧ Hid (Has w [] (DD qb hb rb mb (K 12) ws Ls lb lo A la q cc I) wr)) (fun _ i _ => 120 - (intOf i).toNat)
  case atStart => exact ⟨0, 0, 0, 0, none, _, _, _, rfl, rfl, by omega, rfl, HO0, HX4⟩
  case round =>
    obtain ⟨u, t, q, cc, la, ws, Ls, I, rfl, rfl, hu, HU, HO, HX⟩ := hrel
    obtain ⟨w5, rfl⟩ : ∃ w5, w5 = wr := ⟨_, rfl⟩
    clear HX4 HO0
    by_cases hlt : u + 1 < n ∧ u < 120
    · obtain ⟨hun, hu120⟩ := hlt
      have d1 : decide (u + 1 < n) = true := decide_eq_true hun
      have d1' : decide ((u : Int) + 1 < (n : Int)) = true := decide_eq_true (by omega)
      have d2 : decide ((u : Int) < 120) = true := decide_eq_true (by omega)
      obtain ⟨ab, aof, rfl, hab, hca⟩ := HB.out.cells (by omega)
      have hc0 := (HX.out.K.cell hab (by simp) (aof + u)).trans (hca u (by omega))
      have hc1 := (HX.out.K.cell hab (by simp) (aof + (u + 1))).trans (hca (u + 1) (by omega))
      have hb0 := HB.out.lt u
      have hb1 := HB.out.lt (u + 1)
      obtain ⟨b0, hb0e⟩ : ∃ b0, B u = b0 := ⟨_, rfl⟩
      obtain ⟨b1, hb1e⟩ : ∃ b1, B (u + 1) = b1 := ⟨_, rfl⟩
      rw [hb0e] at hc0 hb0
      rw [hb1e] at hc1 hb1
      obtain ⟨e, he⟩ : ∃ e, b0 / 8 = e := ⟨_, rfl⟩
      obtain ⟨k, hk⟩ : ∃ k, e % 5 = k := ⟨_, rfl⟩
      obtain ⟨r, hr⟩ : ∃ r, b1 % 12 = r := ⟨_, rfl⟩
      have hei : (b0 : Int) / 8 = e := by omega
      have hki : (e : Int) % 5 = k := by omega
      have hri : (b1 : Int) % 12 = r := by omega
      have hk5 : k < 5 := by omega
      have hr12 : r < 12 := by omega
      have hr12i : (r : Int) < 12 := by omega
      have hr0i : (0 : Int) ≤ r := by omega
      have hti : (u : Int) / 2 = t := by have := HU.out; omega
      obtain ⟨_, _, e5, hcs⟩ := HX.out.fst.qlen (by omega)
      cases e5
      have hcl := hcs r hr12
      have hA := HC.out.bd r hr12
      obtain ⟨a0, ha0⟩ : ∃ a0, A r = a0 := ⟨_, rfl⟩
      rw [ha0] at hcl hA
      clear hca hb0e hb1e he hk hr hcs ha0
      go_upto_region 12 with fail
      rw [hki]
      clear hki hei
      obtain ⟨gd, hgd⟩ : ∃ gd : Bool, gd = (decide (t < m) && decide (240 ≤ b1)) := ⟨_, rfl⟩
      go_cut [80] from 80 to 80 (fun v wz => v = .bool gd ∧ wz = w5)
      case first =>
        by_cases q1 : t < m
        · have d3 : decide (t < m) = true := decide_eq_true q1
          by_cases q2 : 240 ≤ b1
          · have d4 : decide (240 ≤ b1) = true := decide_eq_true q2
            have hg : gd = true := by rw [hgd, d3, d4]; rfl
            clear hgd
            go_wp2_with fail
            go_meet
            exact ⟨by rw [hg]; first | rfl | (congr 1; exact decide_eq_true (by omega)), rfl⟩
          · have d4 : decide (240 ≤ b1) = false := decide_eq_false q2
            have hg : gd = false := by rw [hgd, d3, d4]; rfl
            clear hgd q2
            go_wp2_with fail
            go_meet
            exact ⟨by rw [hg]; first | rfl | (congr 1; exact decide_eq_false (by have := of_decide_eq_false d4; omega)), rfl⟩
        · have d3 : decide (t < m) = false := decide_eq_false q1
          have hg : gd = false := by rw [hgd, d3]; rfl
          clear hgd q1
          go_wp2_with fail
          go_meet
          exact ⟨by rw [hg], rfl⟩
      case rest =>
        obtain ⟨rfl, rfl⟩ := hcut
        go_upto_if 80 with fail
        go_cut [12] from 12 to 12 (fun v wz => ∃ x : Int, v = .int .i64 x ∧ inI x ∧ wz = wc)
        case first =>
          cases gd with
          | false =>
            go_wp2_with fail
            go_meet
            exact ⟨a0, rfl, ⟨by omega, by omega⟩, rfl⟩
          | true =>
            have htm : t < m := by
              have h1 : (decide (t < m) && decide (240 ≤ b1)) = true := hgd.symm
              rw [Bool.and_eq_true] at h1
              exact of_decide_eq_true h1.1
            have htmi : (t : Int) < m := by omega
            have ht0i : (0 : Int) ≤ t := by omega
            obtain ⟨db, dof, rfl, hdb, hdc⟩ := HD.out.cells (by omega)
            have hd0 := (HX.out.K.cell hdb (by simp) (dof + t)).trans (hdc t htm)
            have hdw := bounds_i64 (HD.out.wf t htm)
            generalize D[t]?.getD 0 = y at *
            clear hdc hgd
            go_wp2_with fail
            go_meet
            exact ⟨y, rfl, ⟨by omega, by omega⟩, rfl⟩
        case rest =>
          obtain ⟨x, rfl, hx, rfl⟩ := hcut
          obtain ⟨s, hs⟩ : ∃ s, b0 % 8 = s := ⟨_, rfl⟩
          have hsi : (b0 : Int) % 8 = s := by omega
          have hs8 : s < 8 := by omega
          have hx1 := hx.1
          have hx2 := hx.2
          clear hs hgd hti hri hr12 hr12i hr0i hcl hA
          go_upto_block 2 with fail
          rw [hsi]
          clear hsi
          go_cut [9] from 9 to 9 (fun v wz => ∃ (q cc : Nat) (la : Option Addr) (ws : List Int) (Ls : List (List Int)) (I : List Int), v = .slice la q cc ∧ Hid (Bo (K 12) ws Ls I (t + 1)) ∧ Hid (Has w [] (DD qb hb rb mb (K 12) ws Ls lb lo A la q cc I) wz))
          case first =>
            clear hc0 hc1 hab d1 d1' d2
            rcases sw8 s hs8 with hd | hd | hd
            · as_aux_lemma =>
              obtain ⟨N, E, Ls', hT⟩ := openT_ex Ls
              have HT := hid hT
              have HO2 := hid (hT.bo HO.out.up)
              have hN := hT.num
              clear hT
              go_upto_if 131 with fail
              go_cut [131] from 131 to 131 (fun v wz => v = .bool true ∧ wz = wc)
              case first =>
                rcases hd with hd | ⟨hd, hd'⟩
                all_goals
                  go_wp2_with fail
                  go_meet
                  exact ⟨by first | rfl | (rw [hd]) | (rw [hd']), rfl⟩
              case rest =>
                obtain ⟨rfl, rfl⟩ := hcut
                clear hd
                go_upto_region 29 with (first | (go_at_call 7; refine (eopenq _ HX.out.dd HT.out).mono ?_; rintro e w6 ⟨rfl, hX6⟩))
                have HX6 := hid hX6
                clear hX6 HX
                go_upto_region 30 with (first | (go_at_call 8; refine (eopenf _ HX6.out HT.out).mono ?_; rintro e w7 ⟨rfl, hX7⟩))
                have hx := heap_alloc_new w7 (.cells #[.int .i64 N, .int .i64 E] 39)
                obtain ⟨z0, z1⟩ := two_cells hx
                have HX8 := hid (hX7.keep0 (Keep.alloc [] w7 (.cells #[.int .i64 N, .int .i64 E] 39)))
                clear hX7 HX6 hx
                generalize w7.alloc (.cells #[.int .i64 N, .int .i64 E] 39) = w8 at *
                go_wp2_with fail
                go_quiet (first | (go_at_call 9; exact Calls.quiet_of_same ((err_any _ _).mono (fun e w' h => ⟨h.1, h.2.symm⟩))))
                go_wp2_with fail
                go_meet
                exact ⟨q, cc, la, ws, Ls', I, rfl, HO2, hid (HX8.out.keep0 (Keep.drewN [] _ _)).d2⟩
            · as_aux_lemma =>
              obtain ⟨hd1, hd2, hd⟩ := hd
              go_upto_if 152 with fail
              go_cut [152] from 152 to 152 (fun v wz => v = .bool true ∧ wz = wc)
              case first =>
                rcases hd with hd | ⟨hd, hd'⟩ | ⟨hd, hd', hd''⟩ | ⟨hd, hd', hd'', h4⟩
                all_goals
                  go_wp2_with fail
                  go_meet
                  exact ⟨by first | rfl | (rw [hd]) | (rw [hd']) | (rw [hd'']) | (rw [h4]), rfl⟩
              case rest =>
                obtain ⟨rfl, rfl⟩ := hcut
                clear hd hd1 hd2
                obtain ⟨hIA, hIq⟩ := HX.out.din HO.out
                have HIA := hid hIA
                have HIQ := hid hIq
                have hq := HO.out.few
                rw [hIq] at hq
                have ht60 : t ≤ 60 := by have := HU.out; omega
                have hq6 : q ≤ 1000000 := by omega
                clear hIA hIq
                by_cases hin : x ∈ I
                · have HIN := (show Hid (inL I x = true) from decide_eq_true hin)
                  have HO2 := hid HO.out.up
                  clear hin
                  go_wp2_with (first | (go_at_call 10; refine (rin la q cc I x _ HIA.out HIQ.out hq6).mono ?_; rw [HIN.out]; rintro e w6 ⟨rfl, rfl⟩))
                  go_roundw
                  case rel => exact ⟨u + 2, t + 1, q, cc, la, ws, Ls, I, rfl, by go_num, by have := HU.out; omega, (show u + 2 = 2 * (t + 1) by have := HU.out; omega), HO2, HX⟩
                  case measure => simp [intOf]; omega
                · have HIN := (show Hid (inL I x = false) from decide_eq_false hin)
                  obtain ⟨E, ws', Ls', hT, hbo, hE, _⟩ := HO.out.push (by omega) k x hin
                  have HT := hid hT
                  have HBO := hid hbo
                  have HPT := hid (hT.push HO.out.fine)
                  have HRW := (show Hid (∀ L, L ∈ Ls → L.length < 999999) from fun L hL => by have := HO.out.rows L hL; omega)
                  clear hT hbo hin
                  by_cases hE0 : E = 0
                  · have HO2 := (show Hid (Bo (K 12) ws' Ls' (I ++ [x]) (t + 1)) from by
                      rcases HBO.out with ⟨_, h⟩ | ⟨h, _⟩
                      · exact h
                      · exact absurd hE0 h)
                    subst hE0
                    clear HBO hE
                    go_upto_region 38 with (first
                      | (go_at_call 10; refine (rin la q cc I x _ HIA.out HIQ.out hq6).mono ?_; rw [HIN.out]; rintro e w6 ⟨rfl, rfl⟩)
                      | (go_at_call 11; refine (epushf _ HX.out.dd HT.out).mono ?_; rintro e w7 ⟨rfl, hX7⟩))
                    have HX7 := hid hX7
                    clear hX7 HX HIA
                    go_upto_region 41 with (first
                      | (go_at_call 12; refine (epushq _ HX7.out HPT.out ⟨hx1, hx2⟩ HRW.out).mono ?_; rintro e w8 ⟨rfl, hX8⟩)
                      | (go_at_call 9; refine (err_any _ _).mono ?_; rintro e w' ⟨rfl, rfl⟩))
                    have HX9 := hid (hX8.d2.keep0 (Keep.alloc [] _ (.cells #[.int .i64 x] 3)))
                    clear hX8 HX7
                    go_wp2_with (first | (at_builtin; refine wpList_append_lies _ rfl (.tmp 173) (.tmp 175) 23 rfl 0 3 i0 (.int .i64 0) 1 8 Tryz.underlying23 hI.out.1 hI.out.2.1 hI.out.2.2.1 hI.out.2.2.2 rfl (by decide) _ q (ints I) rfl HX9.out.snd.own ⟨w8.heap.size, 0, none⟩ 1 1 (ints [x]) rfl rfl (one_cell _ _ _) (ints_one _) (by omega) (by unfold maxLen; omega) (by omega) (by omega) (w8.heap.size + 1) (by simp) ?_; intro ga ca w9 hown hgrow hblk hlt9; rw [ints_app] at hown; have HX10 := hid (HX9.out.ownMore hown hgrow hblk (by simp) hlt9); clear hown hgrow hblk hlt9))
                    go_meet
                    exact ⟨q + 1, ca, some ⟨ga, 0, none⟩, ws', Ls', I ++ [x], rfl, HO2, HX10⟩
                  · have HO2 := (show Hid (Bo (K 12) ws' Ls' I (t + 1)) from by
                      rcases HBO.out with ⟨h, _⟩ | ⟨_, h⟩
                      · exact absurd h hE0
                      · exact h)
                    have hEb : (E == 0) = false := by rw [beq_eq_false_iff_ne]; exact hE0
                    clear HBO hE
                    go_upto_region 38 with (first
                      | (go_at_call 10; refine (rin la q cc I x _ HIA.out HIQ.out hq6).mono ?_; rw [HIN.out]; rintro e w6 ⟨rfl, rfl⟩)
                      | (go_at_call 11; refine (epushf _ HX.out.dd HT.out).mono ?_; rintro e w7 ⟨rfl, hX7⟩))
                    have HX7 := hid hX7
                    clear hX7 HX HIA
                    go_wp2_with (first
                      | (go_at_call 12; refine (epushq _ HX7.out HPT.out ⟨hx1, hx2⟩ HRW.out).mono ?_; rintro e w8 ⟨rfl, hX8⟩)
                      | (go_at_call 9; refine (err_any _ _).mono ?_; rintro e w' ⟨rfl, rfl⟩))
                    go_meet
                    exact ⟨q, cc, la, ws', Ls', I, rfl, HO2, hid hX8.d2⟩
            · as_aux_lemma =>
              obtain ⟨hd1, hd2, hd3, hd4, hd5, hd6⟩ := hd
              have ht60 : t ≤ 60 := by have := HU.out; omega
              obtain ⟨N, E, ws', Ls', hT, hbo, hNi, hE, _⟩ := HO.out.poll k
              have HT := hid hT
              have HO2 := hid hbo.up
              have HPT := hid (hT.poll HO.out.fine)
              have hN1 := hNi.1
              have hN2 := hNi.2
              have hq := HO.out.few
              rw [(HX.out.din HO.out).2] at hq
              have HINR := hid HO.out.inR
              clear hT hbo hNi
              go_upto_region 16 with (first | (go_at_call 13; refine (epollq _ HX.out.dd HPT.out).mono ?_; rintro e w6 ⟨rfl, hX6⟩))
              have HX6 := hid hX6
              clear hX6 HX
              go_upto_region 17 with (first | (go_at_call 14; refine (epollf _ HX6.out HT.out).mono ?_; rintro e w7 ⟨rfl, hX7⟩))
              have hx := heap_alloc_new w7 (.cells #[.int .i64 N, .int .i64 E] 39)
              obtain ⟨z0, z1⟩ := two_cells hx
              have HX8 := hid (hX7.d2.keep0 (Keep.alloc [] w7 (.cells #[.int .i64 N, .int .i64 E] 39)))
              clear hX7 HX6 hx
              generalize w7.alloc (.cells #[.int .i64 N, .int .i64 E] 39) = w8 at *
              go_wp2_with fail
              go_quiet (first | (go_at_call 9; exact Calls.quiet_of_same ((err_any _ _).mono (fun e w' h => ⟨h.1, h.2.symm⟩))))
              clear z0 z1
              go_wp2_with fail
              go_loopw [20, 21] (fun v i wr => ∃ (j p cp : Nat) (lp : Option Addr) (P : List Int), v = .slice lp p cp ∧ i = .int .i64 j ∧ j ≤ q ∧ p ≤ j ∧ Hid (P = (I.take j).filter (fun y => y != N)) ∧ Hid (Has w [] ((DD qb hb rb mb (K 12) ws' Ls' lb lo A la q cc I).star (ownA 3 lp p cp P)) wr)) (fun _ i _ => q - (intOf i).toNat)
              case atStart => exact ⟨0, 0, 0, none, _, rfl, rfl, by omega, by omega, by simp [Hid], hid (HX8.out.keep0 (Keep.drewN [] _ _)).ownNew 3⟩
              case round =>
                obtain ⟨j, p, cp, lp, P, rfl, rfl, hj, hpj, HP, HX9⟩ := hrel
                obtain ⟨w9, rfl⟩ : ∃ w9, w9 = wr := ⟨_, rfl⟩
                clear HX8
                obtain ⟨hIA, hIq, _⟩ := own_at HX9.out.fst.snd.own HINR.out
                have HIQ := hid hIq
                by_cases hjq : j < q
                · have hdq : decide (j < q) = true := decide_eq_true hjq
                  obtain ⟨ib, io, rfl, hib, hic⟩ := hIA.cells (by omega)
                  have hci := hic j (by omega)
                  have HTK := (show Hid (I.take (j + 1) = I.take j ++ [I[j]?.getD 0]) from by
                    show _ = _
                    rw [List.take_add_one, List.getElem?_eq_getElem (by omega)]; rfl)
                  have hy1 := (HINR.out j).1
                  have hy2 := (HINR.out j).2
                  clear hic hIA hIq
                  generalize I[j]?.getD 0 = y at *
                  by_cases hyN : y = N
                  · have hb : (y != N) = false := by simp [hyN]
                    have hb' : (y == N) = true := by simp [hyN]
                    have HP2 := (show Hid (P = (I.take (j + 1)).filter (fun y => y != N)) from by
                      show P = _
                      rw [HTK.out, List.filter_append, ← HP.out, List.filter_cons_of_neg (by simp [hb])]; simp)
                    clear hyN
                    go_wp2_with fail
                    go_roundw
                    case rel => exact ⟨j + 1, p, cp, lp, P, rfl, by go_num, by omega, by omega, HP2, HX9⟩
                    case measure => simp [intOf]; omega
                  · have hb : (y != N) = true := by simp [hyN]
                    have hb' : (y == N) = false := by simp [hyN]
                    have HP2 := (show Hid (P ++ [y] = (I.take (j + 1)).filter (fun y => y != N)) from by
                      show P ++ [y] = _
                      rw [HTK.out, List.filter_append, ← HP.out, List.filter_cons_of_pos (by simp [hb])]; simp)
                    have HX10 := hid (HX9.out.keep0 (Keep.alloc [] _ (.cells #[.int .i64 y] 3)))
                    clear hyN
                    go_wp2_with (first | (at_builtin; refine wpList_append_lies _ rfl (.tmp 123) (.tmp 128) 23 rfl 0 3 i0 (.int .i64 0) 1 8 Tryz.underlying23 hI.out.1 hI.out.2.1 hI.out.2.2.1 hI.out.2.2.2 rfl (by decide) _ p (ints P) rfl HX10.out.snd.own ⟨w9.heap.size, 0, none⟩ 1 1 (ints [y]) rfl rfl (one_cell _ _ _) (ints_one _) (by omega) (by unfold maxLen; omega) (by omega) (by omega) (w9.heap.size + 1) (by simp) ?_; intro ga ca w10 hown hgrow hblk hlt9; rw [ints_app] at hown; have HX11 := hid (HX10.out.ownMore hown hgrow hblk (by simp) hlt9); clear hown hgrow hblk hlt9))
                    go_roundw
                    case rel => exact ⟨j + 1, p + 1, ca, some ⟨ga, 0, none⟩, P ++ [y], rfl, by go_num, by omega, by omega, HP2, HX11⟩
                    case measure => simp [intOf]; omega
                · obtain rfl : j = q := by omega
                  have hdq : decide (j < j) = false := decide_eq_false (by omega)
                  have HP2 := (show Hid (P = I.filter (fun y => y != N)) from by
                    show P = _
                    have := HP.out
                    rwa [List.take_of_length_le (by omega)] at this)
                  have HX12 := hid (show Has w [] (DD qb hb rb mb (K 12) ws' Ls' lb lo A lp p cp (I.filter (fun y => y != N))) w9 from by
                    rw [← HP2.out]; exact HX9.out.swap.fst)
                  go_wp2_with fail
                  go_meet
                  exact ⟨p, cp, lp, ws', Ls', I.filter (fun y => y != N), rfl, HO2, HX12⟩
          case rest =>
            clear HO HX hc0 hc1 hx1 hx2 hx hs8 d1 d1' d2
            obtain ⟨q, cc, la, ws, Ls, I, rfl, HO, HX⟩ := hcut
            obtain ⟨w5, rfl⟩ : ∃ w5, w5 = wc := ⟨_, rfl⟩
            obtain ⟨p, hp⟩ : ∃ p, Ls.length = p := ⟨_, rfl⟩
            have HP := hid hp
            have hp8 : p ≤ 8 := by rw [← hp]; exact HX.out.fst.fst.snd.fok.1
            obtain ⟨va, vc, c1⟩ := HX.out.drows hp
            clear hp
            go_upto_region 42 with fail
            go_quiet (first | (go_at_call 15; exact Calls.quiet_of_same (equeues _ (HX.out.keep0 (Keep.drewN [] _ _)) HP.out)))
            clear c1
            go_wp2_with fail
            go_loopw [22] (fun v wr => ∃ J : Int, v = .int .i64 J ∧ -1 ≤ J ∧ J ≤ (p : Int) + 1 ∧ Hid (Has w [] (DD qb hb rb mb (K 12) ws Ls lb lo A la q cc I) wr)) (fun v _ => ((p : Int) + 1 - intOf v).toNat)
            case atStart => exact ⟨-1, rfl, by omega, by omega, hid (HX.out.keep0 (Keep.drewN [] _ _))⟩
            case round =>
              obtain ⟨J, rfl, hJ1, hJ2, HX6⟩ := hrel
              obtain ⟨w6, rfl⟩ : ∃ w6, w6 = wr := ⟨_, rfl⟩
              clear HX
              rcases (show J = -1 ∨ (0 ≤ J ∧ J < p) ∨ J = p ∨ J = (p : Int) + 1 by omega) with rfl | ⟨hJ0, hJp⟩ | rfl | rfl
              · obtain ⟨va, vc, c1⟩ := HX6.out.drows HP.out
                have e1 : decide ((-1 : Int) ≤ (p : Int)) = true := decide_eq_true (by omega)
                have HNQ := (show Hid (¬ IsQ Ls (-1)) from fun h => by have := h.1; omega)
                go_wp2_with (first | (go_at_call 16; refine (elist_no _ HX6.out HNQ.out).mono ?_; rintro e w7 ⟨rfl, rfl⟩) | (go_at_call 9; refine (err_any _ _).mono ?_; rintro e w' ⟨rfl, rfl⟩))
                go_roundw
                case rel => exact ⟨0, by go_num, by omega, by omega, HX6⟩
                case measure => simp [intOf]; omega
              · obtain ⟨j, rfl⟩ := Int.eq_ofNat_of_zero_le hJ0
                have hjp : j < p := by omega
                obtain ⟨L, hL⟩ : ∃ L, Ls[j]? = some L := ⟨_, List.getElem?_eq_getElem (by rw [HP.out]; exact hjp)⟩
                obtain ⟨l, hl⟩ : ∃ l, L.length = l := ⟨_, rfl⟩
                obtain ⟨bb, vc, lq, cq, c1, c2, hIL, hl6⟩ := HX6.out.drow HP.out hL
                rw [hl] at c2 hl6
                have HL := hid hL
                have HLL := hid hl
                have HIL := hid hIL
                have hl1 := lt_of_cell2' c1
                have hl2 := lt_of_cell2' c2
                have e1 : decide ((j : Int) ≤ (p : Int)) = true := decide_eq_true (by omega)
                have e1' : decide (j ≤ p) = true := decide_eq_true (by omega)
                have e2 : decide ((j : Int) < 0) = false := decide_eq_false (by omega)
                have e3 : ((j : Int) == (p : Int)) = false := by rw [beq_eq_false_iff_ne]; omega
                have e3' : (j == p) = false := by rw [beq_eq_false_iff_ne]; omega
                clear hL hl hIL
                go_wp2_with (first
                  | (go_at_call 16; refine (elist_yes j L _ HX6.out HL.out HLL.out).mono ?_; rintro e w7 ⟨lz, lcz, rfl, hI7, hK7⟩; have HI7 := hid hI7; have HIL7 := hid (HIL.out.keep hK7 (by simp [Off])); have c17 := (hK7.cell hl1 (by simp) 1).trans c1; have c27 := (hK7.cell hl2 (by simp) j).trans c2; have HX7 := hid (HX6.out.keep0 hK7); clear hI7 hK7)
                  | (go_at_call 9; refine (err_any _ _).mono ?_; rintro e w' ⟨rfl, rfl⟩)
                  | (go_at_call 17; refine (same_eq lz lq l lcz cq L _ HI7.out HIL7.out HLL.out hl6).mono ?_; rintro e w8 ⟨rfl, hK8⟩; have HX8 := hid (HX7.out.keep0 hK8); clear hK8))
                go_roundw
                case rel => exact ⟨(j : Int) + 1, by go_num, by omega, by omega, HX8⟩
                case measure => simp [intOf]; omega
              · obtain ⟨va, vc, c1⟩ := HX6.out.drows HP.out
                have e1 : decide ((p : Int) ≤ (p : Int)) = true := decide_eq_true (by omega)
                have e2 : decide ((p : Int) < 0) = false := decide_eq_false (by omega)
                have HNQ := (show Hid (¬ IsQ Ls (p : Int)) from fun h => by have := h.2; rw [HP.out] at this; omega)
                go_wp2_with (first | (go_at_call 16; refine (elist_no _ HX6.out HNQ.out).mono ?_; rintro e w7 ⟨rfl, rfl⟩) | (go_at_call 9; refine (err_any _ _).mono ?_; rintro e w' ⟨rfl, rfl⟩))
                go_roundw
                case rel => exact ⟨(p : Int) + 1, by go_num, by omega, by omega, HX6⟩
                case measure => simp [intOf]
              · obtain ⟨va, vc, c1⟩ := HX6.out.drows HP.out
                have e1 : decide ((p : Int) + 1 ≤ (p : Int)) = false := decide_eq_false (by omega)
                have e1' : decide (p + 1 ≤ p) = false := decide_eq_false (by omega)
                go_wp2_with fail
                go_roundw
                case rel => exact ⟨u + 2, t + 1, q, cc, la, ws, Ls, I, rfl, by go_num, by have := HU.out; omega, (show u + 2 = 2 * (t + 1) by have := HU.out; omega), HO, HX6⟩
                case measure => simp [intOf]; omega
    · as_aux_lemma =>
      have HK5 := hid HX.out.K
      have c0 : w5.cell? ⟨rb, 0, none⟩ = some (.pointer (some ⟨mb, 0, none⟩)) := by
        obtain ⟨va, vc, hr⟩ := HX.out.fst.fst.snd.fraw
        exact hr.fcells.1
      have HH := hid HX.out.fst.fst.fst.qheap
      have HR := hid HX.out.fst.fst.snd.fheap
      have hfi := HH.out.fine
      have hnb : (eachK (K 12)).length ≤ 32 * (K 12).length := hfi.wf.each_len (K 12).length
      have hn2 := hfi.wf.len2
      have HFI := hid hfi
      obtain ⟨on, hon⟩ : ∃ on, (eachK (K 12)).length = on := ⟨_, rfl⟩
      have HON := hid hon
      rw [hon] at hnb
      have hon2 : on ≤ 1000000 := by omega
      have HPT := (show Hid (∀ w', Keep [] w5 w' → w'.cell? ⟨rb, 0, none⟩ = some (.pointer (some ⟨mb, 0, none⟩))) from fun w' K => (K.cell (lt_of_cell2' c0) (by simp) 0).trans c0)
      clear hfi hon hnb hn2 HX HO
      rcases (show (¬ u + 1 < n) ∨ (u + 1 < n ∧ ¬ u < 120) by omega) with hun | ⟨hun, hu120⟩
      · have d1 : decide (u + 1 < n) = false := decide_eq_false hun
        have d1' : decide ((u : Int) + 1 < (n : Int)) = false := decide_eq_false (by omega)
        clear hlt
        go_upto_region 53 with fail
        go_region_held3 (fun wz => wz.cell? ⟨rb, 0, none⟩ = some (.pointer (some ⟨mb, 0, none⟩))) (go_keep) (first | (go_at_call 19; refine (oobjects _ (HH.out.keep0 (Keep.drew [] _))).mono ?_; rw [HON.out]; rintro e w6 ⟨va, vc, vs, rfl, hO4, hvs, hK4⟩; have hKa := (Keep.drew [] w5).trans hK4; have HO4 := (show Hid (ObjL w6 va on (vs.map OV.rv) ∧ (vs.map OV.rv).map RV.o = objsK (K 12) ws ∧ Keep [] w5 w6) from ⟨hO4.read (objs_ok HFI.out hvs), by rw [← hvs, List.map_map]; rfl, hKa⟩); have k1 := HPT.out _ hKa; clear hO4 hvs hK4 hKa) | (go_at_call 20; refine (robjects _ (HR.out.keep0 HO4.out.2.2)).mono ?_; rw [HON.out]; rintro e w7 ⟨vb, vd, us5, rfl, hO5, hvs5, hK5⟩; have HO5 := (show Hid (ObjL w7 va on (vs.map OV.rv) ∧ ObjL w7 vb on us5 ∧ (vs.map OV.rv).map RV.o = us5.map RV.o ∧ Keep [] w5 w7) from ⟨HO4.out.1.keep0 hK5, hO5, HO4.out.2.1.trans hvs5.symm, HO4.out.2.2.trans hK5⟩); have l1 := HPT.out _ HO5.out.2.2.2; clear hO5 hvs5 hK5) | (go_at_call 18; refine (sameObjs va vb on vc vd _ us5 _ HO5.out.1 HO5.out.2.1 HO5.out.2.2.1 hon2).mono ?_; rintro e w8 ⟨rfl, hK6⟩; have HK6 := (show Hid (Keep [] w5 w8) from HO5.out.2.2.2.trans hK6); have m1 := HPT.out _ HK6.out; clear hK6) | (go_at_call 21; refine (awake12_any _).mono ?_; rintro e w9 ⟨rfl, hK9⟩; have HK9 := (show Hid (Keep [] w5 w9) from HK6.out.trans hK9); have n1 := HPT.out _ HK9.out; clear hK9))
        go_wp2_with fail
        go_ret
        exact ⟨rfl, HK5.out.trans HK9.out⟩
      · have d1 : decide (u + 1 < n) = true := decide_eq_true hun
        have d1' : decide ((u : Int) + 1 < (n : Int)) = true := decide_eq_true (by omega)
        have d2 : decide ((u : Int) < 120) = false := decide_eq_false (by omega)
        have d2' : decide (u < 120) = false := decide_eq_false (by omega)
        clear hlt
        go_upto_region 53 with fail
        go_region_held3 (fun wz => wz.cell? ⟨rb, 0, none⟩ = some (.pointer (some ⟨mb, 0, none⟩))) (go_keep) (first | (go_at_call 19; refine (oobjects _ (HH.out.keep0 (Keep.drew [] _))).mono ?_; rw [HON.out]; rintro e w6 ⟨va, vc, vs, rfl, hO4, hvs, hK4⟩; have hKa := (Keep.drew [] w5).trans hK4; have HO4 := (show Hid (ObjL w6 va on (vs.map OV.rv) ∧ (vs.map OV.rv).map RV.o = objsK (K 12) ws ∧ Keep [] w5 w6) from ⟨hO4.read (objs_ok HFI.out hvs), by rw [← hvs, List.map_map]; rfl, hKa⟩); have k1 := HPT.out _ hKa; clear hO4 hvs hK4 hKa) | (go_at_call 20; refine (robjects _ (HR.out.keep0 HO4.out.2.2)).mono ?_; rw [HON.out]; rintro e w7 ⟨vb, vd, us5, rfl, hO5, hvs5, hK5⟩; have HO5 := (show Hid (ObjL w7 va on (vs.map OV.rv) ∧ ObjL w7 vb on us5 ∧ (vs.map OV.rv).map RV.o = us5.map RV.o ∧ Keep [] w5 w7) from ⟨HO4.out.1.keep0 hK5, hO5, HO4.out.2.1.trans hvs5.symm, HO4.out.2.2.trans hK5⟩); have l1 := HPT.out _ HO5.out.2.2.2; clear hO5 hvs5 hK5) | (go_at_call 18; refine (sameObjs va vb on vc vd _ us5 _ HO5.out.1 HO5.out.2.1 HO5.out.2.2.1 hon2).mono ?_; rintro e w8 ⟨rfl, hK6⟩; have HK6 := (show Hid (Keep [] w5 w8) from HO5.out.2.2.2.trans hK6); have m1 := HPT.out _ HK6.out; clear hK6) | (go_at_call 21; refine (awake12_any _).mono ?_; rintro e w9 ⟨rfl, hK9⟩; have HK9 := (show Hid (Keep [] w5 w9) from HK6.out.trans hK9); have n1 := HPT.out _ HK9.out; clear hK9))
        go_wp2_with fail
        go_ret
        exact ⟨rfl, HK5.out.trans HK9.out⟩

end Go.Proofs.YtdpkmebckholnaaGreat.queueRuns
