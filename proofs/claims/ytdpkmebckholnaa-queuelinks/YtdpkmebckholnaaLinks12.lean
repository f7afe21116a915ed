/-
  QueueLinks: in a row each leads to the next one, the last one nowhere, whatever is pushed and polled.
-/
import Derived.Test.YtdpkmebckholnaaPart6
import Derived.Test.YtdpkmebckholnaaLinksM
namespace Go.Proofs.Ytdpkmebckholnaa.queueLinks
open Go.RowKit

theorem few1 {A : Nat → Nat} {j : Nat} (h : j ≤ 20) : ∀ L, L ∈ [aL A j] → L.length < 999999 := fun L hL => by
  simp at hL
  subst hL
  rw [aL_length]; omega

set_option maxRecDepth 100000 in
set_option maxHeartbeats 6400000 in
theorem links_any (n t k p k1 : Nat) (w : World) (hn : n < 256) (ht : t < 256) (hk : (n : Int) % 20 = k) (hk20 : k < 20) (hk1 : (k : Int) + 1 = k1) (_ : 0 < k1) (hp : (t : Int).tmod (k1 : Int) = p) (hpk : p ≤ k) :
    Calls Try.prog 5 #[.int .u8 n, .int .u8 t] w fun e w' => e = .returned (.bool true) ∧ Keep [] w w' := by
  obtain ⟨W, K, A, hC⟩ := chain_ex 20 (by omega)
  have HC := hid hC
  have HNE := (show Hid (∀ i j, i < 20 → j < i → A i ≠ A j) from hC.ne)
  have HL0 := (show Hid (Lk (K 20) A (W 20) 0 0) from ⟨(hC.fine 20 (by omega)).1, fun j hj => by obtain ⟨m, c, h⟩ := hC.refs 20 (by omega) j hj; exact ⟨m, c, h⟩, fun i _ hi => by omega⟩)
  clear hC
  go_enter Try.func5, Try.ntmps5
  go_wp2_with fail
  refine (heap12 20 20 HC.out (by omega) (by omega) _).mono ?_
  rintro e w1 ⟨hb, la, lc, rfl, hX⟩
  have HX := hid hX
  clear hX
  go_wp2_with fail
  refine (has_left_ex HX.out (fun F hF => qnew _ hF)).mono ?_
  rintro e w2 ⟨qb, rfl, hQ⟩
  have HQ := (show Hid (Has w [] ((queueA qb hb (W 20) (K 20) [] (nQ 0)).star (listA la (aL A 20))) w2) from hQ)
  clear hQ HX
  go_wp2_with fail
  refine (has_left HQ.out (fun F hF => qopen_yes _ hF (by rw [nQ_length]; omega))).mono ?_
  rintro e w3 ⟨rfl, hX3⟩
  have HX3 := (show Hid (Has w [] ((queueA qb hb (W 20) (K 20) [] [aL A 0]).star (listA la (aL A 20))) w3) from hX3)
  clear hX3 HQ
  obtain ⟨lb, lo, rfl, _⟩ := HX3.out.qlen (by omega)
  go_upto_region 7 with fail
  rw [hk]
  clear hk
  go_wp2_with fail
  go_loopw [9] (fun i wr => ∃ (j : Nat) (ws : List Int), i = .int .i64 j ∧ j ≤ k ∧ Hid (Lk (K 20) A ws 0 j) ∧ Hid (Has w [] ((queueA qb hb ws (K 20) [] [aL A j]).star (listA (some ⟨lb, lo, none⟩) (aL A 20))) wr)) (fun i _ => k - (intOf i).toNat)
  case atStart => exact ⟨0, _, rfl, by omega, HL0, HX3⟩
  case round =>
    obtain ⟨j, ws, rfl, hj, HL, HX⟩ := hrel
    obtain ⟨w4, rfl⟩ : ∃ w4, w4 = wr := ⟨_, rfl⟩
    clear HX3 HL0
    by_cases hlt : j < k
    · have hd : decide (j < k) = true := decide_eq_true hlt
      obtain ⟨_, _, e, hcs⟩ := HX.out.qlen (by omega)
      cases e
      have hc := hcs j (by omega)
      obtain ⟨ws', hP, hL'⟩ := HL.out.push (by omega) HNE.out
      have hab := HC.out.bd j (by omega)
      have hj20 : j < 20 := by omega
      obtain ⟨a, ha⟩ : ∃ a, A j = a := ⟨_, rfl⟩
      rw [ha] at hc hP hab
      have HP := hid hP
      have HL2 := hid hL'
      clear hcs hP hL' ha HL
      go_wp2_with fail
      refine (has_left HX.out (fun F hF => qpush 0 (a : Int) 0 _ _ _ hF HP.out (by unfold inI; omega) (few1 (by omega)))).mono ?_
      rintro e w5 ⟨rfl, hX5⟩
      have HX5 := hid hX5
      clear hX5 HX
      go_wp2_with (first | (go_at_call 11; refine (err_any _ _).mono ?_; rintro e w' ⟨rfl, rfl⟩))
      go_roundw
      case rel => exact ⟨j + 1, ws', by go_num, by omega, HL2, HX5⟩
      case measure => simp [intOf]; omega
    · obtain rfl : j = k := by omega
      have HX1 := (show Hid (Has w [] ((queueA qb hb ws (K 20) [] [dropL A j 0]).star (listA (some ⟨lb, lo, none⟩) (aL A 20))) w4) from HX.out)
      clear HX
      go_upto_region 13 with fail
      clear hp hk1
      go_wp2_with fail
      go_loopw [11] (fun i wr => ∃ (q : Nat) (ws : List Int), i = .int .i64 q ∧ q ≤ p ∧ Hid (Lk (K 20) A ws q j) ∧ Hid (Has w [] ((queueA qb hb ws (K 20) [] [dropL A j q]).star (listA (some ⟨lb, lo, none⟩) (aL A 20))) wr)) (fun i _ => p - (intOf i).toNat)
      case atStart => exact ⟨0, _, rfl, by omega, HL, HX1⟩
      case round =>
        obtain ⟨q, ws, rfl, hq, HL, HX⟩ := hrel
        obtain ⟨w5, rfl⟩ : ∃ w5, w5 = wr := ⟨_, rfl⟩
        clear HX1
        by_cases hlt : q < p
        · have hd : decide (q < p) = true := decide_eq_true hlt
          obtain ⟨ws', hP, hL'⟩ := HL.out.poll (by omega) (by omega) HNE.out
          have HP := hid hP
          have HL2 := hid hL'
          clear hP hL' HL
          go_wp2_with fail
          refine (has_left HX.out (fun F hF => qpoll 0 _ 0 _ _ _ hF HP.out)).mono ?_
          rintro e w6 ⟨rfl, hX6⟩
          have HX6 := hid hX6
          clear hX6 HX
          go_wp2_with fail
          go_roundw
          case rel => exact ⟨q + 1, ws', by go_num, by omega, HL2, HX6⟩
          case measure => simp [intOf]; omega
        · obtain rfl : q = p := by omega
          obtain ⟨m, hm⟩ : ∃ m, j - q = m := ⟨_, rfl⟩
          have HM := (show Hid ((dropL A j q).length = m) from by show _ = _; rw [dropL_length]; exact hm)
          have hmi : (j : Int) - (q : Int) = m := by omega
          have HMJ := (show Hid (q + m = j) from by show q + m = j; omega)
          go_wp2_with fail
          refine (qlist_yes 0 (dropL A j q) _ HX.out.fst rfl).mono ?_
          rw [HM.out]
          rintro e w6 ⟨la6, lc6, rfl, hown6, hK6⟩
          have hbd : ∀ i : Nat, -9223372036854775808 ≤ (dropL A j q)[i]?.getD 0 ∧ (dropL A j q)[i]?.getD 0 ≤ 9223372036854775807 := by
            intro i
            have := HC.out.aBd j (by omega) (q + i)
            unfold dropL
            rw [List.getElem?_drop]
            exact this
          obtain ⟨la7, lc7, e7, hz7, hX7⟩ := HX.out.listed hK6 hown6 hbd
          rw [HM.out] at e7
          cases e7
          have HX7 := hid hX7
          clear hX7 hown6 hK6 HX hbd hm hz7
          go_wp2_with (first | (go_at_call 11; refine (err_any _ _).mono ?_; rintro e w' ⟨rfl, rfl⟩))
          clear hmi
          go_loopw [14] (fun i wr => ∃ i0 : Nat, i = .int .i64 i0 ∧ i0 ≤ m ∧ Hid (Has w [] (((queueA qb hb ws (K 20) [] [dropL A j q]).star (listA (some ⟨lb, lo, none⟩) (aL A 20))).star (listA la6 (dropL A j q))) wr)) (fun i _ => m - (intOf i).toNat)
          case atStart => exact ⟨0, rfl, by omega, HX7⟩
          case round =>
            obtain ⟨i, rfl, hi, HX⟩ := hrel
            obtain ⟨w7, rfl⟩ : ∃ w7, w7 = wr := ⟨_, rfl⟩
            clear HX7
            by_cases hlt : i < m
            · have hd : decide (i < m) = true := decide_eq_true hlt
              obtain ⟨rb, ro, rfl, _, hrc⟩ := HX.out.snd.list.cells (by have := HM.out; omega)
              have hr1 := hrc i (by have := HM.out; omega)
              rw [dropL_get A j q i (by have := HMJ.out; omega)] at hr1
              have hab := HC.out.bd (q + i) (by have := HMJ.out; omega)
              have HF := (show Hid (FieldT (K 20) ws (A (q + i) : Int) 2 (ws[A (q + i) + 3]?.getD 0) 0) from (HL.out.refs (q + i) (by have := HMJ.out; omega)).field HL.out.fine)
              have hlk := HL.out.link (q + i) (by omega) (by have := HMJ.out; omega)
              have hr2 := hrc (i + 1)
              obtain ⟨s, hs⟩ : ∃ s, q + i = s := ⟨_, rfl⟩
              have hsi : (q : Int) + (i : Int) = s := by omega
              have HS := hid hs
              rw [hs] at hr1 hab HF hlk
              obtain ⟨a, ha⟩ : ∃ a, A s = a := ⟨_, rfl⟩
              rw [ha] at hr1 hab HF hlk
              have HA := hid ha
              clear ha hrc hs
              by_cases hl2 : i + 1 < m
              · have hd2 : decide ((i : Int) + 1 < (m : Int)) = true := decide_eq_true (by omega)
                have hd2' : decide (i + 1 < m) = true := decide_eq_true hl2
                rw [if_pos (by have := HMJ.out; have := HS.out; omega)] at hlk
                obtain ⟨b, hb'⟩ : ∃ b, A (s + 1) = b := ⟨_, rfl⟩
                rw [hb'] at hlk
                rw [hlk] at HF
                have HB := hid hb'
                clear hr2 hb' hlk
                go_wp2_with fail
                refine (has_fst HX.out (fun h => ofield (a : Int) 2 _ 0 _ h.fst.qheap HF.out)).mono ?_
                rintro e w8 ⟨rfl, hX8⟩
                have HX8 := hid hX8
                clear hX8 HX hr1 HF
                obtain ⟨_, _, e, hcs⟩ := HX8.out.fst.qlen (by omega)
                cases e
                have hc2 := hcs s (by have := HMJ.out; have := HS.out; omega)
                rw [HA.out] at hc2
                obtain ⟨_, _, e, _, hrc⟩ := HX8.out.snd.list.cells (by have := HM.out; omega)
                cases e
                have hr1 := hrc i (by have := HM.out; omega)
                rw [dropL_get A j q i (by have := HMJ.out; omega), HS.out, HA.out] at hr1
                clear hcs
                have hr3 := hrc (i + 1) (by have := HM.out; omega)
                rw [dropL_get A j q (i + 1) (by have := HMJ.out; omega), ← Nat.add_assoc q i 1, HS.out, HB.out] at hr3
                clear hrc
                have hs20 : s < 20 := by have := HMJ.out; have := HS.out; omega
                have hs20i : (s : Int) < 20 := by omega
                have hs0i : (0 : Int) ≤ s := by omega
                go_wp2_with fail
                go_quiet (first | (go_at_call 11; exact Calls.quiet_of_same ((err_any _ _).mono (fun e w' h => ⟨h.1, h.2.symm⟩))))
                have HX9 := hid (HX8.out.keep0 (Keep.drewN [] w8 nq))
                generalize w8.drewN nq = w9 at *
                clear hr1 hc2
                go_wp2_with fail
                go_roundw
                case rel => exact ⟨i + 1, by go_num, by omega, HX9⟩
                case measure => simp [intOf]; omega
              · have hd2 : decide ((i : Int) + 1 < (m : Int)) = false := decide_eq_false (by omega)
                have hd2' : decide (i + 1 < m) = false := decide_eq_false hl2
                rw [if_neg (by have := HMJ.out; have := HS.out; omega)] at hlk
                rw [hlk] at HF
                clear hr2 hlk
                go_wp2_with fail
                refine (has_fst HX.out (fun h => ofield (a : Int) 2 _ 0 _ h.fst.qheap HF.out)).mono ?_
                rintro e w8 ⟨rfl, hX8⟩
                have HX8 := hid hX8
                clear hX8 HX hr1 HF
                obtain ⟨_, _, e, hcs⟩ := HX8.out.fst.qlen (by omega)
                cases e
                have hc2 := hcs s (by have := HMJ.out; have := HS.out; omega)
                rw [HA.out] at hc2
                obtain ⟨_, _, e, _, hrc⟩ := HX8.out.snd.list.cells (by have := HM.out; omega)
                cases e
                have hr1 := hrc i (by have := HM.out; omega)
                rw [dropL_get A j q i (by have := HMJ.out; omega), HS.out, HA.out] at hr1
                clear hcs
                clear hrc
                have hs20 : s < 20 := by have := HMJ.out; have := HS.out; omega
                have hs20i : (s : Int) < 20 := by omega
                have hs0i : (0 : Int) ≤ s := by omega
                go_wp2_with fail
                go_quiet (first | (go_at_call 11; exact Calls.quiet_of_same ((err_any _ _).mono (fun e w' h => ⟨h.1, h.2.symm⟩))))
                have HX9 := hid (HX8.out.keep0 (Keep.drewN [] w8 nq))
                generalize w8.drewN nq = w9 at *
                clear hr1 hc2
                go_wp2_with fail
                go_roundw
                case rel => exact ⟨i + 1, by go_num, by omega, HX9⟩
                case measure => simp [intOf]; omega
            · obtain rfl : i = m := by omega
              have hd : decide (i < i) = false := decide_eq_false (by omega)
              go_wp2_with (first | (go_at_call 15; refine (awake12_any _).mono ?_; rintro e w9 ⟨rfl, hK9⟩))
              go_ret
              exact ⟨rfl, HX.out.K.trans hK9⟩
theorem walk (a0 a1 : Int) (w0 : (Lit.int .u8 a0).wf = true) (w1 : (Lit.int .u8 a1).wf = true) (w : World) :
    Calls Try.prog 5 #[.int .u8 a0, .int .u8 a1] w fun e w' => e = .returned (.bool true) ∧ Keep [] w w' := by
  have h0 := bounds_u8 w0
  have h1 := bounds_u8 w1
  obtain ⟨n, rfl⟩ := Int.eq_ofNat_of_zero_le h0.1
  obtain ⟨t, rfl⟩ := Int.eq_ofNat_of_zero_le h1.1
  have hm : t % (n % 20 + 1) < n % 20 + 1 := Nat.mod_lt _ (by omega)
  exact links_any n t (n % 20) (t % (n % 20 + 1)) (n % 20 + 1) w (by omega) (by omega) (by omega) (by omega) (by omega) (by omega) (by rw [Int.tmod_eq_emod_of_nonneg (by omega)]; rfl) (by omega)

end Go.Proofs.Ytdpkmebckholnaa.queueLinks
