/-
  SpaceApart answers true, whatever it is given.
-/
import Derived.Test.YtpollfcblpaicaaApartM
import Derived.Test.YtpollfcblpaicaaLists
namespace Go.Proofs.Ytpollfcblpaicaa
open Go.RowKit

theorem block_gt (n : Int) (h1 : 1 ≤ n) (h2 : n ≤ 1024) : 1 ≤ blockI n := by
  rcases class_lt n with hc | ⟨c, hc, hc5⟩
  · have hn : 33 ≤ n := by
      have := class_iff n
      omega
    rw [block_none n hc, pages_mid n hn h2]; omega
  · rw [block_class n c hc]
    have := (sz_facts c hc5).1
    have h3 := (sz_facts c hc5).2.2.1
    unfold wordsOf at this
    omega
theorem modA (a m : Nat) (h : 1 ≤ m) : ∃ x : Nat, (a : Int) % m = x ∧ (a : Int).tmod m = x ∧ x < m :=
  ⟨a % m, rfl, by rw [Int.tmod_eq_emod_of_nonneg (by omega)]; rfl, Nat.mod_lt _ (by omega)⟩
theorem last_alloc : AllocR (freshK 32) 1000 (some (64, putParts (freshK 32) 1 16)) := fresh_large 32 16 1000 (by omega) (by omega) (by decide +kernel) (by decide +kernel)
theorem last_used : usedK (putParts (freshK 32) 1 16) = 1024 := by decide +kernel
theorem last_left : ((putParts (freshK 32) 1 16).length : Int) - cntA (takenL (putParts (freshK 32) 1 16)) = 15 := by decide +kernel

set_option maxRecDepth 100000 in
set_option maxHeartbeats 8000000 in
theorem apart6_any (ao : Option Addr) (n c : Nat) (back : Bool) (L : List Int) (w : World) (hn : n ≤ 9223372036854775807) (hl : ListAt w ao .u16 n L) :
    Calls Try.prog 4 #[.slice ao n c, .bool back] w fun e w' => e = .returned (.bool true) ∧ Keep [] w w' := by
  obtain ⟨i0, hi, hz0, hz1, hz2⟩ := info_parts Try.infoInt
  have hI : Hid (Try.prog.info? 3 = some i0 ∧ i0.zero = some (.int .i64 0) ∧ i0.size = 1 ∧ i0.bytes = 8) := ⟨hi, hz0, hz1, hz2⟩
  clear hi hz0 hz1 hz2
  have HN := (show Hid (ListAt w ao .u16 n L) from hl)
  have HLA := (show Hid (AllocR (freshK 32) 1000 (some (64, putParts (freshK 32) 1 16)) ∧ usedK (putParts (freshK 32) 1 16) = 1024 ∧ ((putParts (freshK 32) 1 16).length : Int) - cntA (takenL (putParts (freshK 32) 1 16)) = 15) from ⟨last_alloc, last_used, last_left⟩)
  have HU0 := (show Hid (usedK (freshK 32) = 0) from by show _ = _; decide +kernel)
  clear hl
  go_enter Try.func4, Try.ntmps4
  go_wp2_with fail
  refine (snew_ok 32 w (by omega) (by omega)).mono ?_
  rintro e w1 ⟨sb, F, rfl, hS, hK, _, hF⟩
  have hT0 := Two.start hS (freshK_wf 32 (by omega) (by omega)) hK hF
  obtain ⟨ab, hc0⟩ := hT0.held.c0
  obtain ⟨pb, hc1⟩ := hT0.held.c1
  have HT0 := (show Hid (Two w w1 sb (zeros (64 * 32)) (freshK 32) none none 0 0 0 0 [] []) from hT0)
  have HH0 := (show Hid (Hold (freshK 32) [] []) from ⟨rfl, fun t h => by simp at h, fun t u h => by simp at h, fun x s m e => by rw [freshK_find 32 x (by omega)] at e; cases e⟩)
  clear hS hK hF hT0
  go_wp2_with (go_at_call 10; refine (err_any _ _).mono ?_; rintro e w' ⟨rfl, rfl⟩)
  clear hc0 hc1
  go_loopw [7, 8, 9, 10] (fun va vs us i wr => ∃ (j q U : Nat) (ws : List Int) (kd : List PK) (AT SZ : List Int) (la ls : Option Addr) (ca cs : Nat), va = .slice la q ca ∧ vs = .slice ls q cs ∧ us = .int .i64 U ∧ i = .int .i64 j ∧ j ≤ n ∧ j ≤ 40 ∧ q ≤ j ∧ U ≤ 1024 * j ∧ Hid (kd.length = 32) ∧ Hid (Two w wr sb ws kd la ls q q ca cs AT SZ) ∧ Hid (Hold kd AT SZ) ∧ Hid (usedK kd = U)) (fun _ _ _ i _ => 40 - (intOf i).toNat)
  case atStart => exact ⟨0, 0, 0, _, _, [], [], none, none, 0, 0, rfl, rfl, rfl, rfl, by omega, by omega, by omega, by omega, freshK_length 32, HT0, HH0, HU0⟩
  case round =>
    obtain ⟨j, q, U, ws, kd, AT, SZ, la, ls, ca, cs, rfl, rfl, rfl, rfl, hj, hj40, hqj, hU, HLK, HT, HH, HU⟩ := hrel
    obtain ⟨w2, rfl⟩ : ∃ w2, w2 = wr := ⟨_, rfl⟩
    clear HT0 HH0 HU0
    by_cases hlt2 : j < n ∧ j < 40
    · obtain ⟨hjn, hj9⟩ := hlt2
      obtain ⟨bb, off, rfl, hab, hcs⟩ := HN.out.cells (by omega)
      have hxc := (HT.out.K.cell hab (by simp) (off + j)).trans (hcs j hjn)
      have hvb := bounds_u16 (HN.out.wf j hjn)
      have HXC := (show Hid (w.cell? ⟨bb, off + j, none⟩ = some (.int .u16 (L[j]?.getD 0)) ∧ bb < w.heap.size) from ⟨hcs j hjn, hab⟩)
      clear hcs hab
      generalize L[j]?.getD 0 = v0 at *
      obtain ⟨v, rfl⟩ := Int.eq_ofNat_of_zero_le hvb.1
      obtain ⟨x1, x11, x12, x13⟩ := modA v 300 (by omega)
      have x11' : (v : Int) % 300 = x1 := x11
      have x12' : (v : Int).tmod 300 = x1 := x12
      obtain ⟨m, hm⟩ : ∃ m : Int, (1 : Int) + x1 = m := ⟨_, rfl⟩
      have hmb : 1 ≤ m ∧ m ≤ 300 := by omega
      obtain ⟨b, hb⟩ := Int.eq_ofNat_of_zero_le (block_le m).1
      have g1 := block_gt m (by omega) (by omega)
      have g2 := (block_le m).2
      rw [hb] at g1 g2
      have HB := (show Hid (blockI m = (b : Nat)) from hb)
      obtain ⟨r, hr⟩ := alloc_ex kd m (by rw [hb]; omega)
      clear x11 x12 hb
      cases r with
      | none =>
        have HR := (show Hid (AllocR kd m none ∧ blockI m ≠ 0) from ⟨hr, by rw [HB.out]; omega⟩)
        clear hr
        go_wp2_with fail
        refine (talloc_no sb m ws kd w2 HT.out HR.out.1 HR.out.2).mono ?_
        rintro e w3 ⟨rfl, hT3⟩
        have HT3 := (show Hid (Two w w3 sb ws kd la ls q q ca cs AT SZ) from hT3)
        clear hT3 hxc
        go_wp2_with (go_at_call 10; refine (err_any _ _).mono ?_; rintro e w' ⟨rfl, rfl⟩)
        go_roundw
        case rel => exact ⟨j + 1, q, U, ws, kd, AT, SZ, la, ls, ca, cs, rfl, rfl, rfl, by go_num, by omega, by omega, by omega, by omega, HLK, HT3, HH, HU⟩
        case measure => simp [intOf]; omega
      | some o =>
        obtain ⟨a, kd'⟩ := o
        have HR := (show Hid (AllocR kd m (some (a, kd'))) from hr)
        obtain ⟨b', hb', _, hw', hl', ha1, ha2, _, hf2⟩ := hr.spec HT.out.wf
        obtain rfl : b = b' := by rw [HB.out] at hb'; omega
        rw [HLK.out] at ha2
        have HLK' := (show Hid (kd'.length = 32) from hl'.trans HLK.out)
        obtain ⟨r, r1, r2, r3⟩ := modA v b (by omega)
        have HFD := (show Hid (foundV (findI kd' ((a + r : Nat) : Int)) = .tuple #[.int .i64 a, .int .i64 b, .bool true]) from by
          have : findI kd' ((a + r : Nat) : Int) = some (a, b) := by unfold findI; rw [if_neg (by omega), Int.toNat_natCast, hf2, if_pos (by omega)]
          show _ = _
          rw [this]; rfl)
        have HH' := (show Hid (Hold kd' (AT ++ [(a : Int)]) (SZ ++ [(b : Int)])) from HH.out.more HT.out.wf hr HB.out)
        have HU' := (show Hid (usedK kd' = ((U + b : Nat) : Int)) from by show _ = _; rw [hr.used HT.out.wf, HB.out, HU.out]; omega)
        have HAP := (show Hid (∀ t, t < AT.length → ∃ A Z : Nat, AT[t]?.getD 0 = A ∧ SZ[t]?.getD 0 = Z ∧ (A + Z ≤ a ∨ a + b ≤ A) ∧ A + Z ≤ 64 * kd.length) from fun t ht => HH.out.apart HT.out.wf hr HB.out ht)
        have hb0 : (b : Int) ≠ 0 := by omega
        obtain ⟨ar, har⟩ : ∃ ar : Nat, a + r = ar := ⟨_, rfl⟩
        have hari : (a : Int) + r = ar := by omega
        have harb : ar ≤ 5000 := by omega
        rw [har] at HFD
        clear hr hb' hw' hl' hf2 har
        go_wp2_with fail
        refine (talloc_yes sb a b m ws kd kd' w2 HT.out HR.out HB.out).mono ?_
        rintro e w3 ⟨rfl, hT3⟩
        have HT3 := (show Hid (Two w w3 sb (fill0 ws a b) kd' la ls q q ca cs AT SZ) from hT3)
        clear hT3 hxc HT
        generalize fill0 ws a b = ws' at *
        go_wp2_with (first | (go_at_call 10; refine (err_any _ _).mono ?_; rintro e w' ⟨rfl, rfl⟩) | (go_at_call 27; refine (rblock_any _ _).mono ?_; rw [HB.out]; rintro e w4 ⟨rfl, hK4⟩))
        have HT4 := (show Hid (Two w w4 sb ws' kd' la ls q q ca cs AT SZ) from HT3.out.keep0 hK4)
        clear HT3 hK4
        obtain ⟨hIA, hqA, hbA⟩ := own_at HT4.out.oa HT4.out.ba
        obtain ⟨hIS, hqS, hbS⟩ := own_at HT4.out.os HT4.out.bs
        have QA := (show Hid (AT.length = q) from hqA)
        have QS := (show Hid (SZ.length = q) from hqS)
        have IA := (show Hid (IntsAt w4 la AT) from hIA)
        have IS := (show Hid (IntsAt w4 ls SZ) from hIS)
        clear hIA hqA hbA hIS hqS hbS
        go_loopw [15] (fun i wz => ∃ t : Nat, i = .int .i64 t ∧ t ≤ q ∧ Keep [] w4 wz) (fun i _ => q - (intOf i).toNat)
        case atStart => exact ⟨0, rfl, by omega, Keep.refl _ _⟩
        case round =>
          obtain ⟨t, rfl, ht, hKz⟩ := hrel
          obtain ⟨w5, rfl⟩ : ∃ w5, w5 = wr := ⟨_, rfl⟩
          by_cases htq : t < q
          · obtain ⟨A0, Z0, e1, e2, hap, hAZ⟩ := HAP.out t (by rw [QA.out]; exact htq)
            rw [HLK.out] at hAZ
            obtain ⟨ga, oa, rfl, hga, hca⟩ := (IA.out.keep hKz (fun _ _ _ => by simp)).cells (by rw [QA.out]; omega)
            obtain ⟨gs, os, rfl, hgs, hcs⟩ := (IS.out.keep hKz (fun _ _ _ => by simp)).cells (by rw [QS.out]; omega)
            have y1 := hca t (by rw [QA.out]; exact htq)
            have y2 := hcs t (by rw [QS.out]; exact htq)
            rw [e1] at y1
            rw [e2] at y2
            clear hca hcs e1 e2
            rcases (show A0 + Z0 ≤ a ∨ a < A0 + Z0 ∧ a + b ≤ A0 by omega) with h1 | ⟨h0, h1⟩
            · have hd1 : decide ((a : Int) < (A0 : Int) + Z0) = false := by rw [decide_eq_false_iff_not]; omega
              clear hap
              go_wp2_with fail
              go_quiet (fail)
              go_wp2_with fail
              go_roundw
              case rel => exact ⟨t + 1, by go_num, by omega, hKz.trans (Keep.drewN [] _ _)⟩
              case measure => simp [intOf]; omega
            · have hd1 : decide ((a : Int) < (A0 : Int) + Z0) = true := by rw [decide_eq_true_iff]; omega
              have hd2 : decide ((A0 : Int) < (a : Int) + b) = false := by rw [decide_eq_false_iff_not]; omega
              clear hap
              go_wp2_with fail
              go_quiet (fail)
              go_wp2_with fail
              go_roundw
              case rel => exact ⟨t + 1, by go_num, by omega, hKz.trans (Keep.drewN [] _ _)⟩
              case measure => simp [intOf]; omega
          · obtain rfl : t = q := by omega
            have HT5 := (show Hid (Two w w5 sb ws' kd' la ls t t ca cs AT SZ) from HT4.out.keep0 hKz)
            have hxc5 := (HT5.out.K.cell HXC.out.2 (by simp) (off + j)).trans HXC.out.1
            clear HT4 hKz IA IS
            obtain ⟨q, hq⟩ : ∃ q, t = q := ⟨_, rfl⟩
            subst hq
            go_wp2_with fail
            refine (tfind sb ar ws' kd' w5 HT5.out).mono ?_
            rw [HFD.out]
            rintro e w6 ⟨rfl, hT6⟩
            have HT6 := (show Hid (Two w w6 sb ws' kd' la ls t t ca cs AT SZ) from hT6)
            have hs6 := hT6.K.size
            clear hT6 HT5 hxc5
            go_wp2_with (first | (at_builtin; refine wpList_append_lies _ rfl (.tmp 149) (.tmp 151) 32 rfl w.heap.size 3 i0 (.int .i64 0) 1 8 Try.underlying32 hI.out.1 hI.out.2.1 hI.out.2.2.1 hI.out.2.2.2 rfl (by decide) _ t (ints AT) rfl (HT6.out.oa.alloc _) ⟨w6.heap.size, 0, none⟩ 1 1 (ints [(a : Int)]) rfl rfl (one_cell _ _ _) (ints_one _) (by omega) (by unfold maxLen; omega) (by omega) (by simp; omega) (w6.heap.size + 1) (by simp) ?_; intro ga ca7 w7 hown7 hgrow7 hblk7 hlt7; rw [ints_app] at hown7; have HT7 := (show Hid (Two w w7 sb _ kd' (some ⟨ga, 0, none⟩) ls (t + 1) t ca7 cs (AT ++ [(a : Int)]) SZ) from HT6.out.grewA hown7 hgrow7 hblk7 (by omega)); have hs7 := HT7.out.K.size; clear hown7 hgrow7 hblk7 hlt7) | (at_builtin; refine wpList_append_lies _ rfl (.tmp 153) (.tmp 155) 32 rfl w.heap.size 3 i0 (.int .i64 0) 1 8 Try.underlying32 hI.out.1 hI.out.2.1 hI.out.2.2.1 hI.out.2.2.2 rfl (by decide) _ t (ints SZ) rfl (HT7.out.os.alloc _) ⟨w7.heap.size, 0, none⟩ 1 1 (ints [(b : Int)]) rfl rfl (one_cell _ _ _) (ints_one _) (by omega) (by unfold maxLen; omega) (by omega) (by simp; omega) (w7.heap.size + 1) (by simp) ?_; intro gs cs8 w8 hown8 hgrow8 hblk8 hlt8; rw [ints_app] at hown8; have HT8 := (show Hid (Two w w8 sb _ kd' (some ⟨ga, 0, none⟩) (some ⟨gs, 0, none⟩) (t + 1) (t + 1) ca7 cs8 (AT ++ [(a : Int)]) (SZ ++ [(b : Int)])) from HT7.out.grewS hown8 hgrow8 hblk8 (by omega)); clear hown8 hgrow8 hblk8 hlt8))
            go_roundw
            case rel => exact ⟨j + 1, t + 1, U + b, _, _, _, _, _, _, _, _, rfl, rfl, by go_num, by go_num, by omega, by omega, by omega, by omega, HLK', HT8, HH', HU'⟩
            case measure => simp [intOf]; omega
    · obtain ⟨hIA0, hqA0, _⟩ := own_at HT.out.oa HT.out.ba
      have QA := (show Hid (AT.length = q) from hqA0)
      have HR := (show Hid (Rest kd AT back 0) from HH.out.rest back)
      clear hIA0 hqA0 HH
      have hq40 : q ≤ 40 := by omega
      rcases (show j = n ∨ j < n ∧ j = 40 by omega) with rfl | ⟨hjn, rfl⟩
      all_goals
        go_wp2_with fail
        refine (tused sb ws kd w2 HT.out).mono ?_
        rw [HU.out]
        rintro e w3 ⟨rfl, hT3⟩
        have HT3 := (show Hid (Two w w3 sb ws kd la ls q q ca cs AT SZ) from hT3)
        clear hT3
        go_wp2_with fail
        go_loopw [19] (fun i wr => ∃ (t : Nat) (kd : List PK), i = .int .i64 t ∧ t ≤ q ∧ Hid (kd.length = 32) ∧ Hid (Two w wr sb ws kd la ls q q ca cs AT SZ) ∧ Hid (Rest kd AT back t)) (fun i _ => q - (intOf i).toNat)
        case atStart => exact ⟨0, kd, rfl, by omega, HLK, HT3, HR⟩
        case round =>
          obtain ⟨t, kd, rfl, ht, HLK4, HT4, HR4⟩ := hrel
          obtain ⟨w4, rfl⟩ : ∃ w4, w4 = wr := ⟨_, rfl⟩
          clear HT3
          by_cases htq : t < q
          · obtain ⟨A, Z, kd', e1, e2, hr, hn1, hl1, hR1⟩ := HR4.out.step HT4.out.wf (by rw [QA.out]; exact htq)
            have hA := HT4.out.wf.found e2
            rw [HLK4.out] at hA
            have hAb : A ≤ 3000 := by omega
            have HF := (show Hid (findN kd A = some (A, Z) ∧ FreeR kd A kd' ∧ findN kd' A = none) from ⟨e2, hr, hn1⟩)
            have HLK5 := (show Hid (kd'.length = 32) from hl1.trans HLK4.out)
            have HR5 := (show Hid (Rest kd' AT back (t + 1)) from hR1)
            rw [QA.out] at e1
            obtain ⟨p, hp⟩ : ∃ p, idx back q t = p := ⟨_, rfl⟩
            rw [hp] at e1
            have HE := (show Hid (AT[p]?.getD 0 = (A : Int)) from e1)
            have hpq : p < q := by rw [← hp]; exact idx_lt htq
            obtain ⟨hIA, _, _⟩ := own_at HT4.out.oa HT4.out.ba
            obtain ⟨ga, oa, rfl, hga, hca⟩ := hIA.cells (by rw [QA.out]; omega)
            have y1 := hca p (by rw [QA.out]; exact hpq)
            rw [HE.out] at y1
            clear hca hIA e1 e2 hr hn1 hl1 hR1 hA HR4
            cases back
            · obtain rfl : t = p := by unfold idx at hp; simpa using hp
              go_wp2_with fail
              refine (tfree_yes sb A Z ws kd kd' w4 HT4.out HF.out.1 HF.out.2.1).mono ?_
              rintro e w5 ⟨rfl, hT5⟩
              have HT5 := (show Hid (Two w w5 sb ws kd' (some ⟨ga, oa, none⟩) ls q q ca cs AT SZ) from hT5)
              obtain ⟨hIA5, _, _⟩ := own_at HT5.out.oa HT5.out.ba
              obtain ⟨ga5, oa5, e5, hga5, hca5⟩ := hIA5.cells (by rw [QA.out]; omega)
              cases e5
              have y5 := hca5 t (by rw [QA.out]; exact hpq)
              rw [HE.out] at y5
              clear hca5 hIA5 hT5 HT4 y1
              go_wp2_with (go_at_call 10; refine (err_any _ _).mono ?_; rintro e w' ⟨rfl, rfl⟩)
              refine (tfree_no sb A ws kd' w5 HT5.out HF.out.2.2).mono ?_
              rintro e w6 ⟨rfl, hT6⟩
              have HT6 := (show Hid (Two w w6 sb ws kd' (some ⟨ga, oa, none⟩) ls q q ca cs AT SZ) from hT6)
              clear hT6 HT5 y5
              go_wp2_with (go_at_call 10; refine (err_any _ _).mono ?_; rintro e w' ⟨rfl, rfl⟩)
              go_roundw
              case rel => exact ⟨t + 1, kd', by go_num, by omega, HLK5, HT6, HR5⟩
              case measure => simp [intOf]; omega
            · have hpi : (q : Int) - 1 - t = p := by unfold idx at hp; simp at hp; omega
              clear hp
              go_wp2_with fail
              refine (tfree_yes sb A Z ws kd kd' w4 HT4.out HF.out.1 HF.out.2.1).mono ?_
              rintro e w5 ⟨rfl, hT5⟩
              have HT5 := (show Hid (Two w w5 sb ws kd' (some ⟨ga, oa, none⟩) ls q q ca cs AT SZ) from hT5)
              obtain ⟨hIA5, _, _⟩ := own_at HT5.out.oa HT5.out.ba
              obtain ⟨ga5, oa5, e5, hga5, hca5⟩ := hIA5.cells (by rw [QA.out]; omega)
              cases e5
              have y5 := hca5 p (by rw [QA.out]; exact hpq)
              rw [HE.out] at y5
              clear hca5 hIA5 hT5 HT4 y1
              go_wp2_with (go_at_call 10; refine (err_any _ _).mono ?_; rintro e w' ⟨rfl, rfl⟩)
              refine (tfree_no sb A ws kd' w5 HT5.out HF.out.2.2).mono ?_
              rintro e w6 ⟨rfl, hT6⟩
              have HT6 := (show Hid (Two w w6 sb ws kd' (some ⟨ga, oa, none⟩) ls q q ca cs AT SZ) from hT6)
              clear hT6 HT5 y5
              go_wp2_with (go_at_call 10; refine (err_any _ _).mono ?_; rintro e w' ⟨rfl, rfl⟩)
              go_roundw
              case rel => exact ⟨t + 1, kd', by go_num, by omega, HLK5, HT6, HR5⟩
              case measure => simp [intOf]; omega
          · obtain rfl : t = q := by omega
            have hfr : kd = freshK 32 := by
              have := HR4.out
              rw [← QA.out] at this
              have h2 := this.over HT4.out.wf
              rw [HLK4.out] at h2; exact h2
            subst hfr
            have hH4 := HT4.out.held
            clear HT4 HR4
            go_wp2_with fail
            refine (salloc_nil 1 w4).mono ?_
            rintro e w' ⟨rfl, rfl⟩
            go_wp2_with fail
            refine (sfind_nil 64 w4).mono ?_
            rintro e w' ⟨rfl, rfl⟩
            go_wp2_with fail
            refine (halloc_yes sb 64 1024 1000 ws _ _ w4 hH4 HLA.out.1 rfl).mono ?_
            rintro e w5 ⟨rfl, hH5⟩
            clear hH4
            go_wp2_with (go_at_call 10; refine (err_any _ _).mono ?_; rintro e w' ⟨rfl, rfl⟩)
            refine (hused sb _ _ w5 hH5).mono ?_
            rw [HLA.out.2.1]
            rintro e w6 ⟨rfl, hH6⟩
            obtain ⟨pb, hc1⟩ := hH6.c1
            clear hH5
            go_wp2_with (go_at_call 10; refine (err_any _ _).mono ?_; rintro e w' ⟨rfl, rfl⟩)
            refine (hleft sb pb _ _ w6 hH6 hc1).mono ?_
            rw [HLA.out.2.2]
            rintro e w7 ⟨rfl, hH7⟩
            clear hH6 hc1
            go_wp2_with (go_at_call 10; refine (err_any _ _).mono ?_; rintro e w' ⟨rfl, rfl⟩)
            refine (sfree_nil 64 w7).mono ?_
            rintro e w' ⟨rfl, rfl⟩
            go_wp2_with (go_at_call 10; refine (err_any _ _).mono ?_; rintro e w' ⟨rfl, rfl⟩)
            refine (sused_nil w7).mono ?_
            rintro e w' ⟨rfl, rfl⟩
            go_wp2_with fail
            refine (scap_nil w7).mono ?_
            rintro e w' ⟨rfl, rfl⟩
            go_wp2_with fail
            refine (seach_nil w7).mono ?_
            rintro e w' ⟨rfl, rfl⟩
            go_wp2_with (go_at_call 11; refine (awake6_any _).mono ?_; rintro e w9 ⟨rfl, hK9⟩)
            go_ret
            exact ⟨rfl, hH7.K.trans hK9⟩

end Go.Proofs.Ytpollfcblpaicaa

namespace Go.Proofs.Ytpollfcblpaicaa.spaceApart
open Go.RowKit
theorem walk (o0 : Option Addr) (len0 cap0 : Nat) (A0 : List Int) (a1 : Bool) (w0 : len0 ≤ 9223372036854775807) (w : World) (u0 : ListAt w o0 .u16 len0 A0) :
    Calls Try.prog 4 #[.slice o0 len0 cap0, .bool a1] w fun e w' => e = .returned (.bool true) ∧ Keep [] w w' :=
  apart6_any o0 len0 cap0 a1 A0 w w0 u0
end Go.Proofs.Ytpollfcblpaicaa.spaceApart
