/-
  MarkCloses answers true, whatever it is given.
-/
import Derived.Test.YtgpidokklhjfdaaClosesM
namespace Go.Proofs.Ytgpidokklhjfdaa.markCloses
open Go.RowKit
set_option maxRecDepth 100000 in
set_option maxHeartbeats 12800000 in
theorem closes_any (no : Option Addr) (m nc n : Nat) (B : Nat → Nat) (ao : Option Addr) (p pc : Nat) (BA : Nat → Nat) (nn t40 k40 : Nat) (w : World) (hn : min m 24 = n) (hU : U8At w no m B) (hA : U8At w ao p BA) (hm63 : m ≤ 9223372036854775807) (hp63 : p ≤ 9223372036854775807)
    (_ : nn < 256) (h40 : (nn : Int) % 40 = t40) (hk40 : 1 + (t40 : Int) = k40) (hk1 : 1 ≤ k40) (_ : k40 ≤ 40) :
    Calls Try.prog 5 #[.slice no m nc, .slice ao p pc, .int .u8 nn] w fun e w' => e = .returned (.bool true) ∧ Keep [] w w' := by
  obtain ⟨W, K, A, hG⟩ := graph_ex B m n hU.lt (by omega)
  have hO := hG.ot n (Nat.le_refl _)
  have hGR := graph_any no m nc n B W K A w hn hG hU hm63
  have hn24 := hG.few
  have hLI := hG.bd
  generalize gW B m n W A n = ws at *
  generalize K n = kd at *
  obtain ⟨Lx, hLx⟩ : ∃ Lx, someL (aL A n) n BA (min p 5) = Lx := ⟨_, rfl⟩
  obtain ⟨qx, hqx⟩ : ∃ qx, Lx.length = qx := ⟨_, rfl⟩
  have hqx5 : qx ≤ 5 := by rw [← hqx, ← hLx, someL_length]; omega
  have hxI : inR Lx := by rw [← hLx]; exact someL_in hLI hA.lt _
  have hOk : MOk kd ws dsG (offs ws.length) := MOk.offs
  obtain ⟨ys, hT⟩ := markT_ex hO.fine _ hOk.len Lx
  have hOk1 := hT.ok hOk
  have HGR := hid hGR
  have HA := hid hA
  have HLI := hid hLI
  have HO := hid hO
  have HXE := (show Hid (someL (aL A n) n BA (min p 5) = Lx ∧ Lx.length = qx ∧ inR Lx) from ⟨hLx, hqx, hxI⟩)
  have HM := (show Hid (MOk kd ws dsG (offs ws.length) ∧ MOk kd ws dsG ys) from ⟨hOk, hOk1⟩)
  have HT := hid hT
  clear hG hO hGR hU hA hLI hLx hqx hxI hOk hOk1 hT hn
  go_enter Try.func5, Try.ntmps5
  go_wp2_with fail
  refine HGR.out.mono ?_
  rintro e w1 ⟨hb, la, lc, rfl, hX⟩
  have HX := hid hX
  clear hX HGR
  go_wp2_with fail
  refine (has_left_ex HX.out (fun F hF => tnew_yes k40 _ hF hk1 (by omega))).mono ?_
  rintro e w2 ⟨tb, rfl, hX2⟩
  have HX2 := hid hX2
  obtain ⟨_, _, ct, _⟩ := hX2.fst.snd.trb
  clear hX2 HX
  go_wp2_with (first | (go_at_call 9; refine (err_any _ _).mono ?_; rintro e w' ⟨rfl, rfl⟩))
  refine (some_any la n lc (aL A n) ao p pc BA 5 _ (HX2.out.snd.mint HLI.out) (aL_length A n) (HA.out.keep HX2.out.K (by simp)) (by omega) (by omega) hp63).mono ?_
  rw [HXE.out.1]
  rintro e w4 ⟨v4, m4, rfl, hown4, hK4⟩
  obtain ⟨xa, xc, rfl, hxn, hX4⟩ := HX2.out.listed hK4 hown4 HXE.out.2.2
  rw [HXE.out.2.1]
  have HX4 := hid hX4.assoc
  clear hX4 hown4 hK4 HX2 ct hxn
  go_wp2_with fail
  refine (tmark xa qx xc Lx _ HX4.out (fun zs w' h => h.snd.snd.list) HXE.out.2.1 (by omega) HM.out.1 HT.out).mono ?_
  rintro e w5 ⟨rfl, hX5⟩
  have HX5 := hid hX5
  clear hX5 HX4
  go_wp2_with fail
  go_loopw [12] (fun v wr => ∃ i : Nat, v = .int .i64 i ∧ i ≤ n ∧ Hid (Has w [] (((heapA hb ws kd dsG).star (trA tb hb k40 ys)).star ((midA 3 (.slice la n lc) (aL A n)).star (listA xa Lx))) wr)) (fun v _ => n - (intOf v).toNat)
  case atStart => exact ⟨0, rfl, by omega, HX5.out⟩
  case round =>
    obtain ⟨i, rfl, hi, HX⟩ := hrel
    clear HX5
    by_cases hlt : i < n
    · have hd : decide ((i : Int) < (n : Int)) = true := decide_eq_true (by omega)
      have HAI := (show Hid ((aL A n)[i]?.getD 0 = (A i : Int)) from aL_get A n i hlt)
      obtain ⟨b, off, rfl, _, hcs⟩ := (HX.out.snd.fst.mint HLI.out).cells (by rw [aL_length]; omega)
      have hci := hcs i (by rw [aL_length]; exact hlt)
      rw [HAI.out] at hci
      have HCL := (show Hid (∀ wz, Keep [] wr wz → ∀ j, j < n → wz.cell? ⟨b, off + j, none⟩ = some (.int .i64 (A j))) from fun wz K j hj => by
        obtain ⟨b', off', e, _, hcs⟩ := (((HX.out.keep0 K).snd.fst.mint HLI.out).cells (by rw [aL_length]; omega))
        cases e
        have := hcs j (by rw [aL_length]; exact hj)
        rwa [aL_get A n j hj] at this)
      clear hcs
      by_cases hon : onM ys (A i) = true
      · have HON := hid hon
        obtain ⟨R, hR⟩ := refsT_ex HO.out.fine.ob (A i)
        have HR := hid hR
        obtain ⟨q, hq⟩ : ∃ q, R.length = q := ⟨_, rfl⟩
        have HQ := hid hq
        have hq3 : q ≤ 1023 := by rw [← hq]; exact refs_few HR.out
        clear hon hR hq
        go_wp2_with fail
        refine (tmarked (A i) _ HX.out.fst.snd).mono ?_
        rw [HON.out]
        rintro e w6 ⟨rfl, hK6⟩
        have HX6 := hid (HX.out.keep0 hK6)
        have hci6 := HCL.out _ hK6 i hlt
        clear hci HX
        go_wp2_with fail
        refine (orefs (A i) R _ HX6.out.fst.fst HR.out).mono ?_
        rw [HQ.out]
        rintro e w7 ⟨ra, rc, rfl, hR7, _, hK7⟩
        have HX7 := hid (HX6.out.keep0 hK7)
        have HR7 := hid hR7
        have HK7 := hid (hK6.trans hK7)
        clear hci6 HX6 hR7 hK6 hK7
        go_wp2_with fail
        go_loopw [14] (fun v wq => ∃ k : Nat, v = .int .i64 k ∧ k ≤ q ∧ Hid (Keep [] w7 wq)) (fun v _ => q - (intOf v).toNat)
        case atStart => exact ⟨0, rfl, by omega, Keep.refl _ _⟩
        case round =>
          obtain ⟨k, rfl, hk, HK⟩ := hrel
          by_cases hkl : k < q
          · have hd2 : decide ((k : Int) < (q : Int)) = true := decide_eq_true (by omega)
            obtain ⟨rb, ro, rfl, _, hrs⟩ := (HR7.out.keep HK.out (HR7.out.off (by simp))).cells (by rw [HQ.out]; omega)
            have y2 := hrs k (by rw [HQ.out]; exact hkl)
            have y1 := HCL.out _ (HK7.out.trans HK.out) i hlt
            obtain ⟨N, hN⟩ := HO.out.refs_in HR.out k (by rw [HQ.out]; exact hkl)
            have HF := hid hN
            have HIN := (show Hid (inL (aL A n) N = true → onM ys N = true) from fun e => HM.out.2.cl _ _ HON.out ⟨R, _, 0, HR.out, mem_get (by rw [HQ.out]; exact hkl), hN⟩ (HO.out.inL_at e))
            have HX8 := hid (HX7.out.keep0 HK.out)
            generalize R[k]?.getD 0 = y at *
            clear hN hrs
            go_upto_region 15 with fail
            go_region_law (first | ((try go_simp); refine (ofield (A i) y N 0 _ (HX8.out.keep0 (Keep.drew [] _)).fst.fst HF.out).mono ?_; rintro e w8 ⟨rfl, hK8⟩; have HK8 := hid ((Keep.drew [] _).trans hK8); clear hK8))
            all_goals
              have HX9 := hid (HX8.out.keep0 HK8.out)
              clear HX8 y1 y2
              rcases hin : inL (aL A n) N with _ | _
              · clear HIN
                have HIN := hid hin
                clear hin
                go_wp2_with (first
                  | (go_at_call 9; refine (err_any _ _).mono ?_; rintro e w' ⟨rfl, rfl⟩)
                  | (go_at_call 24; refine (rin (some ⟨b, off, none⟩) n lc (aL A n) N _ (HX9.out.snd.fst.mint HLI.out) (aL_length A n) (by omega)).mono ?_; rw [HIN.out]; rintro e w' ⟨rfl, rfl⟩))
                go_roundw
                case rel => exact ⟨k + 1, by go_num, by omega, HK.out.trans HK8.out⟩
                case measure => simp [intOf]; omega
              · have HINN := hid (HIN.out hin)
                clear HIN
                have HIN := hid hin
                clear hin
                go_wp2_with (first
                  | (go_at_call 9; refine (err_any _ _).mono ?_; rintro e w' ⟨rfl, rfl⟩)
                  | (go_at_call 24; refine (rin (some ⟨b, off, none⟩) n lc (aL A n) N _ (HX9.out.snd.fst.mint HLI.out) (aL_length A n) (by omega)).mono ?_; rw [HIN.out]; rintro e w' ⟨rfl, rfl⟩)
                  | (go_at_call 14; refine (tmarked N _ HX9.out.fst.snd).mono ?_; rw [HINN.out]; rintro e w10 ⟨rfl, hK10⟩))
                go_roundw
                case rel => exact ⟨k + 1, by go_num, by omega, (HK.out.trans HK8.out).trans hK10⟩
                case measure => simp [intOf]; omega
          · have hkq : k = q := by omega
            have hd2 : decide ((k : Int) < (q : Int)) = false := decide_eq_false (by omega)
            have y1 := HCL.out _ (HK7.out.trans HK.out) i hlt
            have HX8 := hid (HX7.out.keep0 HK.out)
            have HCL7 := (show Hid (∀ wz, Keep [] w7 wz → ∀ j, j < n → wz.cell? ⟨b, off + j, none⟩ = some (.int .i64 (A j))) from fun wz K => HCL.out wz (HK7.out.trans K))
            obtain ⟨b0, hb0⟩ : ∃ b0, inL Lx (A i) = b0 := ⟨_, rfl⟩
            have HB0 := hid hb0
            have HW := (show Hid (b0 = true ∨ ∃ j0 k0, 0 ≤ j0 ∧ j0 < n ∧ Wit kd ws ys A i j0 k0) from by
              rcases HO.out.wit HT.out i HON.out with h | ⟨j, k, h1, h2⟩
              · left; rw [← hb0]; exact decide_eq_true h
              · exact .inr ⟨j, k, Nat.zero_le _, h1, h2⟩)
            clear hb0 HK7 HCL HR7 HR HQ hkq
            go_wp2_with (first
              | (go_at_call 24; refine (rin xa qx xc Lx (A i) _ HX8.out.snd.snd.list HXE.out.2.1 (by omega)).mono ?_; rw [HB0.out]; rintro e w' ⟨rfl, rfl⟩))
            go_loopw [17, 18] (fun v17 v18 wq => ∃ (bb : Bool) (j : Nat), v17 = .bool bb ∧ v18 = .int .i64 j ∧ j ≤ n ∧ Hid (bb = true ∨ ∃ j0 k0, j ≤ j0 ∧ j0 < n ∧ Wit kd ws ys A i j0 k0) ∧ Hid (Keep [] w7 wq)) (fun _ v _ => n - (intOf v).toNat)
            case atStart => exact ⟨b0, 0, rfl, rfl, by omega, HW.out, HK.out⟩
            case round =>
              obtain ⟨bb, j, rfl, rfl, hj, HW2, HK2⟩ := hrel
              clear HX8 HK HB0 HW y1 hd hd2
              have HX8 := hid (HX7.out.keep0 HK2.out)
              by_cases hjl : j < n
              · have hd : decide ((j : Int) < (n : Int)) = true := decide_eq_true (by omega)
                have y1 := HCL7.out _ HK2.out j hjl
                obtain ⟨R, hR⟩ := refsT_ex HO.out.fine.ob (A j)
                have HR := hid hR
                obtain ⟨r, hr⟩ : ∃ r, R.length = r := ⟨_, rfl⟩
                have HQ := hid hr
                have hr3 : r ≤ 1023 := by rw [← hr]; exact refs_few HR.out
                clear hR hr
                go_wp2_with fail
                refine (orefs (A j) R _ HX8.out.fst.fst HR.out).mono ?_
                rw [HQ.out]
                rintro e w9 ⟨ra', rc', rfl, hR9, _, hK9⟩
                have HK9 := hid (HK2.out.trans hK9)
                have HR9 := hid hR9
                have HW3 := (show Hid (bb = true ∨ (∃ k0, 0 ≤ k0 ∧ Wit kd ws ys A i j k0) ∨ ∃ j0 k0, j < j0 ∧ j0 < n ∧ Wit kd ws ys A i j0 k0) from by
                  rcases HW2.out with h | ⟨j0, k0, h1, h2, h3⟩
                  · exact .inl h
                  · by_cases e : j = j0
                    · subst e; exact .inr (.inl ⟨k0, Nat.zero_le _, h3⟩)
                    · exact .inr (.inr ⟨j0, k0, by omega, h2, h3⟩))
                clear HX8 hR9 hK9 HK2 HW2 y1
                go_wp2_with fail
                go_loopw [17, 19] (fun v17 v19 wq => ∃ (cb : Bool) (k : Nat), v17 = .bool cb ∧ v19 = .int .i64 k ∧ k ≤ r ∧ Hid (cb = true ∨ (∃ k0, k ≤ k0 ∧ Wit kd ws ys A i j k0) ∨ ∃ j0 k0, j < j0 ∧ j0 < n ∧ Wit kd ws ys A i j0 k0) ∧ Hid (Keep [] w9 wq)) (fun _ v _ => r - (intOf v).toNat)
                case atStart => exact ⟨bb, 0, rfl, rfl, by omega, HW3.out, Keep.refl _ _⟩
                case round =>
                  obtain ⟨cb, k, rfl, rfl, hk', HW4, HK4⟩ := hrel
                  clear HW3 hd
                  have HK5 := hid (HK9.out.trans HK4.out)
                  have HX8 := hid (HX7.out.keep0 HK5.out)
                  by_cases hkl' : k < r
                  · have hd : decide ((k : Int) < (r : Int)) = true := decide_eq_true (by omega)
                    obtain ⟨rb, ro, rfl, _, hrs⟩ := (HR9.out.keep HK4.out (HR9.out.off (by simp))).cells (by rw [HQ.out]; omega)
                    have y2 := hrs k (by rw [HQ.out]; exact hkl')
                    have y1 := HCL7.out _ HK5.out j hjl
                    have y3 := HCL7.out _ HK5.out i hlt
                    obtain ⟨N, hN⟩ := HO.out.refs_in HR.out k (by rw [HQ.out]; exact hkl')
                    have HF := hid hN
                    have HWH := (show Hid (Wit kd ws ys A i j k → j ≠ i ∧ onM ys (A j) = true ∧ k < R.length ∧ N = (A i : Int)) from fun h => h.here HR.out HF.out)
                    generalize R[k]?.getD 0 = y at *
                    clear hN hrs
                    go_upto_region 26 with fail
                    go_region_law (first | ((try go_simp); refine (ofield (A j) y N 0 _ (HX8.out.keep0 (Keep.drew [] _)).fst.fst HF.out).mono ?_; rintro e w10 ⟨rfl, hK10⟩; have HK10 := hid ((Keep.drew [] _).trans hK10); clear hK10))
                    all_goals
                      have HX9 := hid (HX8.out.keep0 HK10.out)
                      have HK11 := hid (HK4.out.trans HK10.out)
                      have y4 := HCL7.out _ (HK5.out.trans HK10.out) j hjl
                      have y5 := HCL7.out _ (HK5.out.trans HK10.out) i hlt
                      clear HX8 HK5 y1 y2 y3
                      rcases cb with _ | _
                      · by_cases hji : j = i
                        · have HW5 := hid (wit_next (cb' := false) HW4.out id (fun h => absurd hji (HWH.out h).1))
                          clear HW4 HWH
                          subst hji
                          go_wp2_with fail
                          go_roundw
                          case rel => exact ⟨false, k + 1, rfl, by go_num, by omega, HW5.out, HK11.out⟩
                          case measure => simp [intOf]; omega
                        · have d1 : ((j : Int) != (i : Int)) = true := by simp; omega
                          have d2 : ((j : Int) == (i : Int)) = false := by rw [beq_eq_false_iff_ne]; omega
                          by_cases hmj : onM ys (A j) = true
                          · have HMJ := hid hmj
                            clear hmj
                            by_cases hNA : N = (A i : Int)
                            · have HW5 := hid (wit_next (cb' := true) HW4.out (fun _ => rfl) (fun _ => rfl))
                              clear HW4 HWH
                              subst hNA
                              go_wp2_with (first
                                | (go_at_call 14; refine (tmarked (A j) _ HX9.out.fst.snd).mono ?_; rw [HMJ.out]; rintro e w11 ⟨rfl, hK11⟩; have y6 := HCL7.out _ ((HK9.out.trans HK11.out).trans hK11) i hlt))
                              go_roundw
                              case rel => exact ⟨true, k + 1, rfl, by go_num, by omega, .inl rfl, HK11.out.trans hK11⟩
                              case measure => simp [intOf]; omega
                            · have HW5 := hid (wit_next (cb' := false) HW4.out id (fun h => absurd (HWH.out h).2.2.2 hNA))
                              have d3 : (N == (A i : Int)) = false := by rw [beq_eq_false_iff_ne]; exact hNA
                              clear HW4 HWH hNA
                              go_wp2_with (first
                                | (go_at_call 14; refine (tmarked (A j) _ HX9.out.fst.snd).mono ?_; rw [HMJ.out]; rintro e w11 ⟨rfl, hK11⟩; have y6 := HCL7.out _ ((HK9.out.trans HK11.out).trans hK11) i hlt))
                              go_roundw
                              case rel => exact ⟨false, k + 1, rfl, by go_num, by omega, HW5.out, HK11.out.trans hK11⟩
                              case measure => simp [intOf]; omega
                          · have HW5 := hid (wit_next (cb' := false) HW4.out id (fun h => absurd (HWH.out h).2.1 hmj))
                            have HMJ := (show Hid (onM ys (A j) = false) from by show _ = _; simpa using hmj)
                            clear HW4 HWH hmj
                            go_wp2_with (first
                              | (go_at_call 14; refine (tmarked (A j) _ HX9.out.fst.snd).mono ?_; rw [HMJ.out]; rintro e w11 ⟨rfl, hK11⟩))
                            go_roundw
                            case rel => exact ⟨false, k + 1, rfl, by go_num, by omega, HW5.out, HK11.out.trans hK11⟩
                            case measure => simp [intOf]; omega
                      · have HW5 := hid (wit_next (cb' := true) HW4.out id (fun _ => rfl))
                        clear HW4 HWH
                        go_wp2_with fail
                        go_roundw
                        case rel => exact ⟨true, k + 1, rfl, by go_num, by omega, .inl rfl, HK11.out⟩
                        case measure => simp [intOf]; omega
                  · have hkr : k = r := by omega
                    have hd : decide ((k : Int) < (r : Int)) = false := decide_eq_false (by omega)
                    have HW5 := (show Hid (cb = true ∨ ∃ j0 k0, j + 1 ≤ j0 ∧ j0 < n ∧ Wit kd ws ys A i j0 k0) from by
                      rcases HW4.out with h | ⟨k0, h1, h2⟩ | h
                      · exact .inl h
                      · have := h2.row HR.out; have := HQ.out; omega
                      · exact .inr h)
                    clear HW4 HX8 hkr HR HQ HR9
                    go_wp2_with fail
                    go_roundw
                    case rel => exact ⟨cb, j + 1, rfl, by go_num, by omega, HW5.out, HK5.out⟩
                    case measure => simp [intOf]; omega
              · have hjn : j = n := by omega
                have hd : decide ((j : Int) < (n : Int)) = false := decide_eq_false (by omega)
                obtain rfl : bb = true := by
                  rcases HW2.out with h | ⟨j0, k0, h1, h2, h3⟩
                  · exact h
                  · omega
                clear HW2 hjn HX7 HCL7
                go_wp2_with fail
                go_roundw
                case rel => exact ⟨i + 1, by go_num, by omega, HX8⟩
                case measure => simp [intOf]; omega
      · have HON := (show Hid (onM ys (A i) = false) from by show _ = _; simpa using hon)
        clear hon
        go_wp2_with fail
        refine (tmarked (A i) _ HX.out.fst.snd).mono ?_
        rw [HON.out]
        rintro e w6 ⟨rfl, hK6⟩
        have HX6 := hid (HX.out.keep0 hK6)
        clear hci HX
        go_wp2_with fail
        go_roundw
        case rel => exact ⟨i + 1, by go_num, by omega, HX6⟩
        case measure => simp [intOf]; omega
    · have hd : decide ((i : Int) < (n : Int)) = false := decide_eq_false (by omega)
      go_wp2_with fail
      go_loopw [22] (fun v wq => ∃ t : Nat, v = .int .i64 t ∧ t ≤ qx ∧ Hid (Has w [] (((heapA hb ws kd dsG).star (trA tb hb k40 ys)).star ((midA 3 (.slice la n lc) (aL A n)).star (listA xa Lx))) wq)) (fun v _ => qx - (intOf v).toNat)
      case atStart => exact ⟨0, rfl, by omega, HX.out⟩
      case round =>
        obtain ⟨t, rfl, ht, HX2⟩ := hrel
        clear HX hd
        by_cases htl : t < qx
        · have hd : decide ((t : Int) < (qx : Int)) = true := decide_eq_true (by omega)
          have HXL := (show Hid (∀ wz, Keep [] _ wz → IntsAt wz xa Lx) from fun wz K => (HX2.out.keep0 K).snd.snd.list)
          obtain ⟨b, off, rfl, _, hcs⟩ := HX2.out.snd.snd.list.cells (by rw [HXE.out.2.1]; omega)
          have y1 := hcs t (by rw [HXE.out.2.1]; omega)
          have HIN := (show Hid (inL (aL A n) (Lx[t]?.getD 0) = true → onM ys (Lx[t]?.getD 0) = true) from fun e => (HT.out.iff _).2 (.inr (.root (mem_get (by rw [HXE.out.2.1]; omega)) (HO.out.inL_at e))))
          clear hcs HXL
          generalize Lx[t]?.getD 0 = x at *
          rcases hin : inL (aL A n) x with _ | _
          · clear HIN
            have HIN := hid hin
            clear hin
            go_wp2_with (first
              | (go_at_call 24; refine (rin la n lc (aL A n) x _ (HX2.out.snd.fst.mint HLI.out) (aL_length A n) (by omega)).mono ?_; rw [HIN.out]; rintro e w' ⟨rfl, rfl⟩))
            go_roundw
            case rel => exact ⟨t + 1, by go_num, by omega, HX2.out⟩
            case measure => simp [intOf]; omega
          · have HINN := hid (HIN.out hin)
            clear HIN
            have HIN := hid hin
            clear hin
            go_wp2_with (first
              | (go_at_call 24; refine (rin la n lc (aL A n) x _ (HX2.out.snd.fst.mint HLI.out) (aL_length A n) (by omega)).mono ?_; rw [HIN.out]; rintro e w' ⟨rfl, rfl⟩)
              | (go_at_call 14; refine (tmarked x _ HX2.out.fst.snd).mono ?_; rw [HINN.out]; rintro e w10 ⟨rfl, hK10⟩))
            go_roundw
            case rel => exact ⟨t + 1, by go_num, by omega, HX2.out.keep0 hK10⟩
            case measure => simp [intOf]; omega
        · have hd : decide ((t : Int) < (qx : Int)) = false := decide_eq_false (by omega)
          go_wp2_with (first
            | (go_at_call 17; refine (awake17_any _).mono ?_; rintro e w18 ⟨rfl, hK18⟩))
          go_ret
          exact ⟨rfl, HX2.out.K.trans hK18⟩
theorem walk (o0 : Option Addr) (l0 c0 : Nat) (A0 : Nat → Nat) (o1 : Option Addr) (l1 c1 : Nat) (A1 : Nat → Nat) (a2 : Int) (b0 : l0 ≤ 9223372036854775807) (b1 : l1 ≤ 9223372036854775807) (w2 : (Lit.int .u8 a2).wf = true) (w : World) (u0 : U8At w o0 l0 A0) (u1 : U8At w o1 l1 A1) :
    Calls Try.prog 5 #[.slice o0 l0 c0, .slice o1 l1 c1, .int .u8 a2] w fun e w' => e = .returned (.bool true) ∧ Keep [] w w' := by
  have h2 := bounds_u8 w2
  obtain ⟨nn, rfl⟩ : ∃ n : Nat, a2 = n := ⟨a2.toNat, by omega⟩
  obtain ⟨t, ht⟩ : ∃ r : Nat, (nn : Int) % 40 = r := ⟨((nn : Int) % 40).toNat, by omega⟩
  obtain ⟨k, hk⟩ : ∃ k : Nat, 1 + (t : Int) = k := ⟨1 + t, by omega⟩
  exact closes_any o0 l0 c0 _ A0 o1 l1 c1 A1 nn t k w rfl u0 u1 b0 b1 (by omega) ht hk (by omega) (by omega)

end Go.Proofs.Ytgpidokklhjfdaa.markCloses
