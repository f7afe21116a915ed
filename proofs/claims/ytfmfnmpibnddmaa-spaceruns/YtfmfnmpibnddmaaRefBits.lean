/-
  What each call of the document's own Bits (a plain list of bools) does.
-/
import Derived.Test.YtfmfnmpibnddmaaBits
namespace Go.Proofs.Ytfmfnmpibnddmaa
open Go.RowKit

set_option maxHeartbeats 400000 in
theorem rnext_any (g n c : Nat) (f : Int) (v : Bool) (xs : List Bool) (w : World) (hr : BRow w 4 g xs) (hxn : xs.length = n) (hn : n ≤ 16384) (hf : f ≤ 9223372036854775807) :
    Calls Try.prog 43 #[.slice (some ⟨g, 0, none⟩) n c, .int .i64 f, .bool v] w fun e w' => e = .returned (.int .i64 (nextR xs f.toNat v)) ∧ w = w' := by
  have HR := (show Hid (∀ i : Nat, i < n → w.cell? ⟨g, i, none⟩ = some (.bool (xs[i]?.getD false))) from fun i hi => hr.cell (by omega))
  have HX := (show Hid (xs.length = n) from hxn)
  clear hr hxn
  generalize hN : nextR xs f.toNat v = r
  obtain ⟨i0, hi0, hi1⟩ : ∃ i0 : Nat, i0 = f.toNat ∧ (i0 : Int) ≤ 9223372036854775807 := ⟨_, rfl, by omega⟩
  rw [← hi0] at hN
  have HN := (show Hid (nextR xs i0 v = r) from hN)
  clear hN
  rcases (show f = i0 ∨ f < 0 ∧ i0 = 0 by omega) with rfl | ⟨hneg, rfl⟩
  all_goals
    clear hi0
    go_enter Try.func43, Try.ntmps43
    go_wp2
    go_loop [7] (fun i => ∃ j : Nat, i = .int .i64 j ∧ (j : Int) ≤ 9223372036854775807 ∧ Hid (nextR xs j v = r)) (fun i => n - (intOf i).toNat)
    case atStart => first | exact ⟨i0, rfl, hi1, HN⟩ | exact ⟨0, rfl, by omega, HN⟩
    case round =>
      obtain ⟨j, rfl, hj, HJ⟩ := hrel
      by_cases hlt : j < n
      · have hc := HR.out j hlt
        by_cases hv : xs[j]?.getD false = v
        · have HF := (show Hid ((j : Int) = r) from (nextR_yes xs j v (by rw [HX.out]; exact hlt) hv).symm.trans HJ.out)
          rw [hv] at hc
          clear hv
          go_wp2
          go_ret
          exact ⟨by rw [← HF.out]; rfl, rfl⟩
        · have HK := (show Hid (nextR xs (j + 1) v = r) from (nextR_no xs j v (by rw [HX.out]; exact hlt) hv).symm.trans HJ.out)
          obtain ⟨y, hy⟩ : ∃ y, xs[j]?.getD false = y := ⟨_, rfl⟩
          rw [hy] at hc hv
          have hbq : (y == v) = false := by rw [beq_eq_false_iff_ne]; exact hv
          clear hy hv
          go_wp2
          go_round
          case rel => exact ⟨j + 1, by go_num, by omega, HK⟩
          case measure => simp [intOf]; omega
      · have HF := (show Hid (-1 = r) from (nextR_end xs j v (by rw [HX.out]; omega)).symm.trans HJ.out)
        have hd : decide ((j : Int) < n) = false := by rw [decide_eq_false_iff_not]; omega
        go_wp2
        go_ret
        exact ⟨by rw [← HF.out]; rfl, rfl⟩

set_option maxHeartbeats 400000 in
theorem rcount_any (g n c : Nat) (xs : List Bool) (w : World) (hr : BRow w 4 g xs) (hxn : xs.length = n) (hn : n ≤ 16384) :
    Calls Try.prog 35 #[.slice (some ⟨g, 0, none⟩) n c] w fun e w' => e = .returned (.int .i64 (cntA xs)) ∧ w = w' := by
  have HR := (show Hid (∀ i : Nat, i < n → w.cell? ⟨g, i, none⟩ = some (.bool (xs[i]?.getD false))) from fun i hi => hr.cell (by omega))
  have HX := (show Hid (xs.length = n) from hxn)
  clear hr hxn
  go_enter Try.func35, Try.ntmps35
  go_wp2
  go_loop [3, 4] (fun c i => ∃ j q : Nat, i = .int .i64 j ∧ c = .int .i64 q ∧ j ≤ n ∧ q ≤ j ∧ Hid (q = cnt xs j)) (fun _ i => n - (intOf i).toNat)
  case atStart => exact ⟨0, 0, rfl, rfl, by omega, by omega, (cnt_zero xs).symm⟩
  case round =>
    obtain ⟨j, q, rfl, rfl, hj, hq, HJ⟩ := hrel
    by_cases hlt : j < n
    · have hc := HR.out j hlt
      have hs := cnt_step xs j (by rw [HX.out]; exact hlt)
      by_cases hv : xs[j]?.getD false = true
      · rw [if_pos hv] at hs
        have HK := (show Hid (q + 1 = cnt xs (j + 1)) from by show q + 1 = cnt xs (j + 1); rw [hs, ← HJ.out])
        rw [hv] at hc
        clear hv HJ hs
        go_wp2
        go_round
        case rel => exact ⟨j + 1, q + 1, by go_num, by go_num, by omega, by omega, HK⟩
        case measure => simp [intOf]; omega
      · rw [if_neg hv] at hs
        have HK := (show Hid (q = cnt xs (j + 1)) from by rw [hs, ← HJ.out]; rfl)
        have hv' : xs[j]?.getD false = false := by simpa using hv
        rw [hv'] at hc
        clear hv hv' HJ hs
        go_wp2
        go_round
        case rel => exact ⟨j + 1, q, by go_num, rfl, by omega, by omega, HK⟩
        case measure => simp [intOf]; omega
    · obtain rfl : j = n := by omega
      go_wp2
      go_ret
      exact ⟨by unfold cntA; rw [HX.out, ← HJ.out]; rfl, rfl⟩

set_option maxHeartbeats 400000 in
theorem rclear_any (g n c i k : Nat) (xs : List Bool) (w : World) (hr : BRow w 4 g xs) (hxn : xs.length = n) (hn : n ≤ 16384) (hik : i + k ≤ n) :
    Calls Try.prog 61 #[.slice (some ⟨g, 0, none⟩) n c, .int .i64 i, .int .i64 k] w fun e w' => e = .returned (.bool (clrB xs i k)) ∧ w = w' := by
  have HR := (show Hid (∀ i : Nat, i < n → w.cell? ⟨g, i, none⟩ = some (.bool (xs[i]?.getD false))) from fun i hi => hr.cell (by omega))
  have HX := (show Hid (xs.length = n) from hxn)
  clear hr hxn
  generalize hN : clrB xs i k = r
  have HN := (show Hid (clrB xs i k = r) from hN)
  clear hN
  go_enter Try.func61, Try.ntmps61
  go_wp2
  go_loop [7] (fun q => ∃ j : Nat, q = .int .i64 j ∧ i ≤ j ∧ j ≤ i + k ∧ Hid (∀ t, i ≤ t → t < j → xs[t]?.getD false = false)) (fun q => i + k - (intOf q).toNat)
  case atStart => exact ⟨i, rfl, by omega, by omega, fun t a b => by omega⟩
  case round =>
    obtain ⟨j, rfl, hj1, hj2, HJ⟩ := hrel
    by_cases hlt : j < i + k
    · have hc := HR.out j (by omega)
      by_cases hv : xs[j]?.getD false = true
      · have HF := (show Hid (false = r) from by
          rw [← HN.out]
          cases h : clrB xs i k
          · rfl
          · have := ((clrB_iff _ _ _).1 h).2 j hj1 hlt; rw [hv] at this; cases this)
        rw [hv] at hc
        clear hv HJ
        go_wp2
        go_ret
        exact ⟨by rw [← HF.out]; rfl, rfl⟩
      · have hv' : xs[j]?.getD false = false := by simpa using hv
        have HK := (show Hid (∀ t, i ≤ t → t < j + 1 → xs[t]?.getD false = false) from fun t a b => by
          by_cases e : t = j
          · subst e; exact hv'
          · exact HJ.out t a (by omega))
        rw [hv'] at hc
        clear hv hv' HJ
        go_wp2
        go_round
        case rel => exact ⟨j + 1, by go_num, by omega, by omega, HK⟩
        case measure => simp [intOf]; omega
    · have HF := (show Hid (true = r) from by
        show true = r
        rw [← HN.out]; symm; rw [clrB_iff]
        exact ⟨by rw [HX.out]; exact hik, fun t a b => HJ.out t a (by omega)⟩)
      have hd : decide ((j : Int) < (i : Int) + k) = false := by rw [decide_eq_false_iff_not]; omega
      go_wp2
      go_ret
      exact ⟨by rw [← HF.out]; rfl, rfl⟩

set_option maxHeartbeats 400000 in
theorem rrun_low (x : Value) (f k : Int) (w : World) (h : k < 1) :
    Calls Try.prog 41 #[x, .int .i64 f, .int .i64 k] w fun e w' => e = .returned (.int .i64 (-1)) ∧ w = w' := by
  go_enter Try.func41, Try.ntmps41
  go_wp2
  go_ret
  exact ⟨rfl, rfl⟩
set_option maxHeartbeats 400000 in
theorem rrun_big (g n c : Nat) (f k : Int) (w : World) (h1 : 1 ≤ k) (h : (n : Int) < k) :
    Calls Try.prog 41 #[.slice (some ⟨g, 0, none⟩) n c, .int .i64 f, .int .i64 k] w fun e w' => e = .returned (.int .i64 (-1)) ∧ w = w' := by
  go_enter Try.func41, Try.ntmps41
  go_wp2
  go_ret
  exact ⟨rfl, rfl⟩
set_option maxHeartbeats 400000 in
theorem rrun_core (g n c k : Nat) (f : Int) (xs : List Bool) (w : World) (hr : BRow w 4 g xs) (hxn : xs.length = n) (hn : n ≤ 16384) (hf : f ≤ 9223372036854775807) (h1 : 1 ≤ k) (h2 : k ≤ n) :
    Calls Try.prog 41 #[.slice (some ⟨g, 0, none⟩) n c, .int .i64 f, .int .i64 k] w fun e w' => e = .returned (.int .i64 (runR xs f.toNat k)) ∧ w = w' := by
  have HX := (show Hid (xs.length = n) from hxn)
  have HR := (show Hid (BRow w 4 g xs) from hr)
  clear hxn hr
  generalize hN : runR xs f.toNat k = r
  obtain ⟨i0, hi0, hi1⟩ : ∃ i0 : Nat, i0 = f.toNat ∧ (i0 : Int) ≤ 9223372036854775807 := ⟨_, rfl, by omega⟩
  rw [← hi0] at hN
  have HN := (show Hid (runR xs i0 k = r) from hN)
  clear hN
  have hk1 : decide ((k : Int) < 1) = false := by rw [decide_eq_false_iff_not]; omega
  have hk2 : decide (n < k) = false := by rw [decide_eq_false_iff_not]; omega
  rcases (show f = i0 ∨ f < 0 ∧ i0 = 0 by omega) with rfl | ⟨hneg, rfl⟩
  all_goals
    clear hi0
    go_enter Try.func41, Try.ntmps41
    go_wp2
    go_loop [7] (fun i => ∃ j : Nat, i = .int .i64 j ∧ (j : Int) ≤ 9223372036854775807 ∧ Hid (runR xs j k = r)) (fun i => n - (intOf i).toNat)
    case atStart => first | exact ⟨i0, rfl, hi1, HN⟩ | exact ⟨0, rfl, by omega, HN⟩
    case round =>
      obtain ⟨j, rfl, hj, HJ⟩ := hrel
      by_cases hlt : j + k ≤ n
      · by_cases hv : clrB xs j k = true
        · have HF := (show Hid ((j : Int) = r) from (runR_yes xs j k h1 ((clrB_iff _ _ _).1 hv)).symm.trans HJ.out)
          have HV := (show Hid (clrB xs j k = true) from hv)
          clear hv
          go_wp2_with (go_at_call 61; refine (rclear_any _ _ _ j k _ _ HR.out HX.out hn hlt).mono ?_; rw [HV.out]; rintro e w' ⟨rfl, rfl⟩)
          go_ret
          exact ⟨by rw [← HF.out]; rfl, rfl⟩
        · have HK := (show Hid (runR xs (j + 1) k = r) from (runR_no xs j k (fun e => hv ((clrB_iff _ _ _).2 e))).symm.trans HJ.out)
          have HV := (show Hid (clrB xs j k = false) from by show clrB xs j k = false; simpa using hv)
          clear hv
          go_wp2_with (go_at_call 61; refine (rclear_any _ _ _ j k _ _ HR.out HX.out hn hlt).mono ?_; rw [HV.out]; rintro e w' ⟨rfl, rfl⟩)
          go_round
          case rel => exact ⟨j + 1, by go_num, by omega, HK⟩
          case measure => simp [intOf]; omega
      · have HF := (show Hid (-1 = r) from (runR_end xs j k (by rw [HX.out]; omega)).symm.trans HJ.out)
        have hd : decide ((j : Int) ≤ (n : Int) - k) = false := by rw [decide_eq_false_iff_not]; omega
        go_wp2
        go_ret
        exact ⟨by rw [← HF.out]; rfl, rfl⟩
theorem rrun_any (g n c : Nat) (f k : Int) (xs : List Bool) (w : World) (hr : BRow w 4 g xs) (hxn : xs.length = n) (hn : n ≤ 16384) (hf : f ≤ 9223372036854775807) :
    Calls Try.prog 41 #[.slice (some ⟨g, 0, none⟩) n c, .int .i64 f, .int .i64 k] w fun e w' => e = .returned (.int .i64 (runI xs f k)) ∧ w = w' := by
  unfold runI
  by_cases h : k < 1
  · rw [if_pos h]; exact rrun_low _ f k w h
  · rw [if_neg h]
    obtain ⟨m, rfl⟩ := Int.eq_ofNat_of_zero_le (show 0 ≤ k by omega)
    by_cases h2 : m ≤ n
    · exact rrun_core g n c m f xs w hr hxn hn hf (by omega) h2
    · rw [Int.toNat_natCast, runR_end _ _ _ (by omega)]
      exact rrun_big g n c f m w (by omega) (by omega)


end Go.Proofs.Ytfmfnmpibnddmaa
