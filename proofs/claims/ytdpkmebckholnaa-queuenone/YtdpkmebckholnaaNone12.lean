/-
  QueueNone: queues that there are not tell so; an empty one has none.
-/
import Derived.Test.YtdpkmebckholnaaPart6
import Derived.Deep.CutRange
namespace Go.Proofs.Ytdpkmebckholnaa.queueNone
open Go.RowKit

set_option maxRecDepth 100000 in
set_option maxHeartbeats 6400000 in
theorem none_any (n k : Nat) (odd : Int) (w : World) (hn : n < 256) (hk : n % 5 = k) (ho : inI odd) :
    Calls Try.prog 7 #[.int .u8 n, .int .i64 odd] w fun e w' => e = .returned (.bool true) ∧ Keep [] w w' := by
  obtain ⟨W, K, A, hC⟩ := chain_ex 1 (by omega)
  have HC := hid hC
  have hk5 : k < 5 := by omega
  have hki : (n : Int) % 5 = k := by omega
  unfold inI at ho
  obtain ⟨a0, ha0⟩ : ∃ a, A 0 = a := ⟨_, rfl⟩
  have HA0 := hid ha0
  have hab := hC.bd 0 (by omega)
  rw [ha0] at hab
  clear hC hk ha0
  go_enter Try.func7, Try.ntmps7
  go_wp2_with fail
  refine (heap12 1 1 HC.out (by omega) (by omega) _).mono ?_
  rintro e w1 ⟨hb, la, lc, rfl, hX⟩
  have HX := hid hX
  clear hX
  go_wp2_with fail
  refine (has_left_ex HX.out (fun F hF => qnew _ hF)).mono ?_
  rintro e w2 ⟨qb, rfl, hQ⟩
  have HQ := (show Hid (Has w [] ((queueA qb hb (W 1) (K 1) [] (nQ 0)).star (listA la (aL A 1))) w2) from hQ)
  clear hQ HX
  go_wp2_with fail
  rw [hki]
  clear hki
  go_loopw [9] (fun i wr => ∃ j : Nat, i = .int .i64 j ∧ j ≤ k ∧ Hid (Has w [] ((queueA qb hb (W 1) (K 1) [] (nQ j)).star (listA la (aL A 1))) wr)) (fun i _ => k - (intOf i).toNat)
  case atStart => exact ⟨0, rfl, by omega, HQ⟩
  case round =>
    obtain ⟨j, rfl, hj, HX⟩ := hrel
    obtain ⟨w3, rfl⟩ : ∃ w3, w3 = wr := ⟨_, rfl⟩
    clear HQ
    by_cases hlt : j < k
    · have hd : decide (j < k) = true := decide_eq_true hlt
      go_wp2_with fail
      refine (has_left HX.out (fun F hF => qopen_yes _ hF (by rw [nQ_length]; omega))).mono ?_
      rintro e w4 ⟨rfl, hX4⟩
      rw [nQ_more] at hX4
      have HX4 := hid hX4
      clear hX4
      go_wp2_with fail
      go_roundw
      case rel => exact ⟨j + 1, by go_num, by omega, HX4⟩
      case measure => simp [intOf]; omega
    · obtain rfl : j = k := by omega
      go_upto_region 10 with fail
      rcases (show (0 ≤ odd ∧ odd < (j : Int)) ∨ (0 ≤ odd ∧ ¬ odd < (j : Int)) ∨ ¬ 0 ≤ odd from by omega) with ⟨h1, h2⟩ | ⟨h1, h2⟩ | h1
      · have d1 : decide (0 ≤ odd) = true := decide_eq_true h1
        have d2 : decide (odd < (j : Int)) = true := decide_eq_true h2
        have HNO := (show Hid (¬ IsQ (nQ j) (j : Int)) from by show ¬ _; unfold IsQ; rw [nQ_length]; omega)
        go_upto_region 12 with fail
        clear h1 h2 d1 d2
        obtain ⟨lb, lo, rfl, hcs⟩ := HX.out.qlen (by omega)
        have hc0 := hcs 0 (by omega)
        rw [HA0.out, Nat.add_zero] at hc0
        clear hcs
        go_wp2_with fail
        refine (qpoll_none _ _ HX.out.fst HNO.out).mono ?_
        rintro e w4 ⟨rfl, rfl⟩
        go_wp2_with fail
        refine (qlist_no _ _ HX.out.fst HNO.out).mono ?_
        rintro e w4 ⟨rfl, rfl⟩
        go_wp2_with fail
        refine (qpush_none _ (a0 : Int) _ HX.out.fst HNO.out).mono ?_
        rintro e w4 ⟨rfl, rfl⟩
        have HX5 := (show Hid (Has w [] (queueA qb hb (W 1) (K 1) [] (nQ j)) w3) from HX.out.fst)
        clear HX hc0
        go_wp2_with fail
        go_loopw [15] (fun i wr => ∃ p : Nat, i = .int .i64 p ∧ p ≤ j ∧ Hid (Has w [] (queueA qb hb (W 1) (K 1) [] (nQ j)) wr)) (fun i _ => j - (intOf i).toNat)
        case atStart => exact ⟨0, rfl, by omega, HX5⟩
        case round =>
          obtain ⟨p, rfl, hp, HX⟩ := hrel
          obtain ⟨w5, rfl⟩ : ∃ w5, w5 = wr := ⟨_, rfl⟩
          clear HX5
          by_cases hlt : p < j
          · have hd : decide (p < j) = true := decide_eq_true hlt
            have HG := (show Hid ((nQ j)[p]? = some []) from nQ_get j p hlt)
            go_wp2_with fail
            refine (qlist_yes p [] _ HX.out HG.out).mono ?_
            rw [List.length_nil]
            rintro e w6 ⟨la6, lc6, rfl, _, hK6⟩
            have HX6 := hid (HX.out.keep0 hK6)
            clear hK6 HX
            go_wp2_with fail
            refine (qpoll_empty p _ HX6.out HG.out).mono ?_
            rintro e w7 ⟨rfl, rfl⟩
            go_wp2_with (first | (go_at_call 11; refine (err_any _ _).mono ?_; rintro e w' ⟨rfl, rfl⟩))
            go_roundw
            case rel => exact ⟨p + 1, by go_num, by omega, HX6⟩
            case measure => simp [intOf]; omega
          · obtain rfl : p = j := by omega
            go_wp2_with (first | (go_at_call 11; refine (err_any _ _).mono ?_; rintro e w' ⟨rfl, rfl⟩) | (go_at_call 17; refine (qqueues _ HX.out).mono ?_; rw [nQ_length]; rintro e w' ⟨rfl, rfl⟩) | (go_at_call 15; refine (awake12_any _).mono ?_; rintro e w9 ⟨rfl, hK9⟩))
            go_ret
            exact ⟨rfl, HX.out.K.trans hK9⟩
      · have d1 : decide (0 ≤ odd) = true := decide_eq_true h1
        have d2 : decide (odd < (j : Int)) = false := decide_eq_false h2
        have HNO := (show Hid (¬ IsQ (nQ j) odd) from by show ¬ _; unfold IsQ; rw [nQ_length]; omega)
        go_upto_region 12 with fail
        clear h1 h2 d1 d2
        obtain ⟨lb, lo, rfl, hcs⟩ := HX.out.qlen (by omega)
        have hc0 := hcs 0 (by omega)
        rw [HA0.out, Nat.add_zero] at hc0
        clear hcs
        go_wp2_with fail
        refine (qpoll_none _ _ HX.out.fst HNO.out).mono ?_
        rintro e w4 ⟨rfl, rfl⟩
        go_wp2_with fail
        refine (qlist_no _ _ HX.out.fst HNO.out).mono ?_
        rintro e w4 ⟨rfl, rfl⟩
        go_wp2_with fail
        refine (qpush_none _ (a0 : Int) _ HX.out.fst HNO.out).mono ?_
        rintro e w4 ⟨rfl, rfl⟩
        have HX5 := (show Hid (Has w [] (queueA qb hb (W 1) (K 1) [] (nQ j)) w3) from HX.out.fst)
        clear HX hc0
        go_wp2_with fail
        go_loopw [15] (fun i wr => ∃ p : Nat, i = .int .i64 p ∧ p ≤ j ∧ Hid (Has w [] (queueA qb hb (W 1) (K 1) [] (nQ j)) wr)) (fun i _ => j - (intOf i).toNat)
        case atStart => exact ⟨0, rfl, by omega, HX5⟩
        case round =>
          obtain ⟨p, rfl, hp, HX⟩ := hrel
          obtain ⟨w5, rfl⟩ : ∃ w5, w5 = wr := ⟨_, rfl⟩
          clear HX5
          by_cases hlt : p < j
          · have hd : decide (p < j) = true := decide_eq_true hlt
            have HG := (show Hid ((nQ j)[p]? = some []) from nQ_get j p hlt)
            go_wp2_with fail
            refine (qlist_yes p [] _ HX.out HG.out).mono ?_
            rw [List.length_nil]
            rintro e w6 ⟨la6, lc6, rfl, _, hK6⟩
            have HX6 := hid (HX.out.keep0 hK6)
            clear hK6 HX
            go_wp2_with fail
            refine (qpoll_empty p _ HX6.out HG.out).mono ?_
            rintro e w7 ⟨rfl, rfl⟩
            go_wp2_with (first | (go_at_call 11; refine (err_any _ _).mono ?_; rintro e w' ⟨rfl, rfl⟩))
            go_roundw
            case rel => exact ⟨p + 1, by go_num, by omega, HX6⟩
            case measure => simp [intOf]; omega
          · obtain rfl : p = j := by omega
            go_wp2_with (first | (go_at_call 11; refine (err_any _ _).mono ?_; rintro e w' ⟨rfl, rfl⟩) | (go_at_call 17; refine (qqueues _ HX.out).mono ?_; rw [nQ_length]; rintro e w' ⟨rfl, rfl⟩) | (go_at_call 15; refine (awake12_any _).mono ?_; rintro e w9 ⟨rfl, hK9⟩))
            go_ret
            exact ⟨rfl, HX.out.K.trans hK9⟩
      · have d1 : decide (0 ≤ odd) = false := decide_eq_false h1
        have HNO := (show Hid (¬ IsQ (nQ j) odd) from by show ¬ _; unfold IsQ; rw [nQ_length]; omega)
        go_upto_region 12 with fail
        clear h1 d1
        obtain ⟨lb, lo, rfl, hcs⟩ := HX.out.qlen (by omega)
        have hc0 := hcs 0 (by omega)
        rw [HA0.out, Nat.add_zero] at hc0
        clear hcs
        go_wp2_with fail
        refine (qpoll_none _ _ HX.out.fst HNO.out).mono ?_
        rintro e w4 ⟨rfl, rfl⟩
        go_wp2_with fail
        refine (qlist_no _ _ HX.out.fst HNO.out).mono ?_
        rintro e w4 ⟨rfl, rfl⟩
        go_wp2_with fail
        refine (qpush_none _ (a0 : Int) _ HX.out.fst HNO.out).mono ?_
        rintro e w4 ⟨rfl, rfl⟩
        have HX5 := (show Hid (Has w [] (queueA qb hb (W 1) (K 1) [] (nQ j)) w3) from HX.out.fst)
        clear HX hc0
        go_wp2_with fail
        go_loopw [15] (fun i wr => ∃ p : Nat, i = .int .i64 p ∧ p ≤ j ∧ Hid (Has w [] (queueA qb hb (W 1) (K 1) [] (nQ j)) wr)) (fun i _ => j - (intOf i).toNat)
        case atStart => exact ⟨0, rfl, by omega, HX5⟩
        case round =>
          obtain ⟨p, rfl, hp, HX⟩ := hrel
          obtain ⟨w5, rfl⟩ : ∃ w5, w5 = wr := ⟨_, rfl⟩
          clear HX5
          by_cases hlt : p < j
          · have hd : decide (p < j) = true := decide_eq_true hlt
            have HG := (show Hid ((nQ j)[p]? = some []) from nQ_get j p hlt)
            go_wp2_with fail
            refine (qlist_yes p [] _ HX.out HG.out).mono ?_
            rw [List.length_nil]
            rintro e w6 ⟨la6, lc6, rfl, _, hK6⟩
            have HX6 := hid (HX.out.keep0 hK6)
            clear hK6 HX
            go_wp2_with fail
            refine (qpoll_empty p _ HX6.out HG.out).mono ?_
            rintro e w7 ⟨rfl, rfl⟩
            go_wp2_with (first | (go_at_call 11; refine (err_any _ _).mono ?_; rintro e w' ⟨rfl, rfl⟩))
            go_roundw
            case rel => exact ⟨p + 1, by go_num, by omega, HX6⟩
            case measure => simp [intOf]; omega
          · obtain rfl : p = j := by omega
            go_wp2_with (first | (go_at_call 11; refine (err_any _ _).mono ?_; rintro e w' ⟨rfl, rfl⟩) | (go_at_call 17; refine (qqueues _ HX.out).mono ?_; rw [nQ_length]; rintro e w' ⟨rfl, rfl⟩) | (go_at_call 15; refine (awake12_any _).mono ?_; rintro e w9 ⟨rfl, hK9⟩))
            go_ret
            exact ⟨rfl, HX.out.K.trans hK9⟩
theorem walk (a0 a1 : Int) (w0 : (Lit.int .u8 a0).wf = true) (w1 : (Lit.int .i64 a1).wf = true) (w : World) :
    Calls Try.prog 7 #[.int .u8 a0, .int .i64 a1] w fun e w' => e = .returned (.bool true) ∧ Keep [] w w' := by
  have h0 := bounds_u8 w0
  have h1 := bounds_i64 w1
  obtain ⟨n, rfl⟩ := Int.eq_ofNat_of_zero_le h0.1
  exact none_any n (n % 5) a1 w (by omega) rfl (by unfold inI; omega)

end Go.Proofs.Ytdpkmebckholnaa.queueNone
