/-
  What each call of the document's own Bits (a plain list of bools) does.
-/
import Derived.Test.YtmnmgibhjjdkaaaBits
namespace Go.Proofs.Ytmnmgibhjjdkaaa
open Go.RowKit

set_option maxHeartbeats 400000 in
theorem rhas_any (g n c : Nat) (i : Int) (xs : List Bool) (w : World) (hr : BRow w 4 g xs) (hn : xs.length = n) :
    Calls Try.prog 14 #[.slice (some ⟨g, 0, none⟩) n c, .int .i64 i] w fun e w' => e = .returned (.bool (hasR xs i)) ∧ w = w' := by
  by_cases h0 : 0 ≤ i
  · by_cases h1 : i < (n : Int)
    · obtain ⟨k, rfl⟩ := Int.eq_ofNat_of_zero_le h0
      rw [show hasR xs (k : Int) = xs[k]?.getD false from by unfold hasR; rw [isPl_true (by omega)]; simp]
      have hc := hr.cell (i := k) (by omega)
      have hg : decide ((k : Int) ≥ 0) = true := by rw [decide_eq_true_iff]; omega
      have hd : decide ((k : Int) < n) = true := by rw [decide_eq_true_iff]; exact h1
      generalize xs[k]?.getD false = x at *
      clear hr hn
      go_enter Try.func14, Try.ntmps14
      go_wp2
      go_ret
      exact ⟨rfl, rfl⟩
    · rw [show hasR xs i = false from by unfold hasR; rw [isPl_false (by omega)]; rfl]
      have hd : decide (i < (n : Int)) = false := by rw [decide_eq_false_iff_not]; exact h1
      clear hr hn
      go_enter Try.func14, Try.ntmps14
      go_wp2
      go_ret
      exact ⟨rfl, rfl⟩
  · rw [show hasR xs i = false from by unfold hasR; rw [isPl_false (by omega)]; rfl]
    have hd : decide (0 ≤ i) = false := by rw [decide_eq_false_iff_not]; exact h0
    clear hr hn
    go_enter Try.func14, Try.ntmps14
    go_wp2
    go_ret
    exact ⟨rfl, rfl⟩

set_option maxHeartbeats 400000 in
theorem rnext_any (g n c : Nat) (f : Int) (v : Bool) (xs : List Bool) (w : World) (hr : BRow w 4 g xs) (hxn : xs.length = n) (hn : n ≤ 16384) (hf : f ≤ 9223372036854775807) :
    Calls Try.prog 12 #[.slice (some ⟨g, 0, none⟩) n c, .int .i64 f, .bool v] w fun e w' => e = .returned (.int .i64 (nextR xs f.toNat v)) ∧ w = w' := by
  have HR := (show Hid (∀ i : Nat, i < n → w.cell? ⟨g, i, none⟩ = some (.bool (xs[i]?.getD false))) from fun i hi => hr.cell (by omega))
  have HX := (show Hid (xs.length = n) from hxn)
  clear hr hxn
  generalize hN : nextR xs f.toNat v = r
  obtain ⟨i0, hi0, hi1⟩ : ∃ i0 : Nat, i0 = f.toNat ∧ (i0 : Int) ≤ 9223372036854775807 := ⟨_, rfl, by omega⟩
  rw [← hi0] at hN
  have HN := (show Hid (nextR xs i0 v = r) from hN)
  clear hN
  rcases (show f = i0 ∨ f < 0 ∧ i0 = 0 by omega) with rfl | ⟨hneg, rfl⟩
  all_goals
    clear hi0
    go_enter Try.func12, Try.ntmps12
    go_wp2
    go_loop [7] (fun i => ∃ j : Nat, i = .int .i64 j ∧ (j : Int) ≤ 9223372036854775807 ∧ Hid (nextR xs j v = r)) (fun i => n - (intOf i).toNat)
    case atStart => first | exact ⟨i0, rfl, hi1, HN⟩ | exact ⟨0, rfl, by omega, HN⟩
    case round =>
      obtain ⟨j, rfl, hj, HJ⟩ := hrel
      by_cases hlt : j < n
      · have hc := HR.out j hlt
        by_cases hv : xs[j]?.getD false = v
        · have HF := (show Hid ((j : Int) = r) from (nextR_yes xs j v (by rw [HX.out]; exact hlt) hv).symm.trans HJ.out)
          rw [hv] at hc
          clear hv
          go_wp2
          go_ret
          exact ⟨by rw [← HF.out]; rfl, rfl⟩
        · have HK := (show Hid (nextR xs (j + 1) v = r) from (nextR_no xs j v (by rw [HX.out]; exact hlt) hv).symm.trans HJ.out)
          obtain ⟨y, hy⟩ : ∃ y, xs[j]?.getD false = y := ⟨_, rfl⟩
          rw [hy] at hc hv
          have hbq : (y == v) = false := by rw [beq_eq_false_iff_ne]; exact hv
          clear hy hv
          go_wp2
          go_round
          case rel => exact ⟨j + 1, by go_num, by omega, HK⟩
          case measure => simp [intOf]; omega
      · have HF := (show Hid (-1 = r) from (nextR_end xs j v (by rw [HX.out]; omega)).symm.trans HJ.out)
        have hd : decide ((j : Int) < n) = false := by rw [decide_eq_false_iff_not]; omega
        go_wp2
        go_ret
        exact ⟨by rw [← HF.out]; rfl, rfl⟩

set_option maxHeartbeats 400000 in
theorem rcount_any (g n c : Nat) (xs : List Bool) (w : World) (hr : BRow w 4 g xs) (hxn : xs.length = n) (hn : n ≤ 16384) :
    Calls Try.prog 16 #[.slice (some ⟨g, 0, none⟩) n c] w fun e w' => e = .returned (.int .i64 (cntA xs)) ∧ w = w' := by
  have HR := (show Hid (∀ i : Nat, i < n → w.cell? ⟨g, i, none⟩ = some (.bool (xs[i]?.getD false))) from fun i hi => hr.cell (by omega))
  have HX := (show Hid (xs.length = n) from hxn)
  clear hr hxn
  go_enter Try.func16, Try.ntmps16
  go_wp2
  go_loop [3, 4] (fun c i => ∃ j q : Nat, i = .int .i64 j ∧ c = .int .i64 q ∧ j ≤ n ∧ q ≤ j ∧ Hid (q = cnt xs j)) (fun _ i => n - (intOf i).toNat)
  case atStart => exact ⟨0, 0, rfl, rfl, by omega, by omega, (cnt_zero xs).symm⟩
  case round =>
    obtain ⟨j, q, rfl, rfl, hj, hq, HJ⟩ := hrel
    by_cases hlt : j < n
    · have hc := HR.out j hlt
      have hs := cnt_step xs j (by rw [HX.out]; exact hlt)
      by_cases hv : xs[j]?.getD false = true
      · rw [if_pos hv] at hs
        have HK := (show Hid (q + 1 = cnt xs (j + 1)) from by show q + 1 = cnt xs (j + 1); rw [hs, ← HJ.out])
        rw [hv] at hc
        clear hv HJ hs
        go_wp2
        go_round
        case rel => exact ⟨j + 1, q + 1, by go_num, by go_num, by omega, by omega, HK⟩
        case measure => simp [intOf]; omega
      · rw [if_neg hv] at hs
        have HK := (show Hid (q = cnt xs (j + 1)) from by rw [hs, ← HJ.out]; rfl)
        have hv' : xs[j]?.getD false = false := by simpa using hv
        rw [hv'] at hc
        clear hv hv' HJ hs
        go_wp2
        go_round
        case rel => exact ⟨j + 1, q, by go_num, rfl, by omega, by omega, HK⟩
        case measure => simp [intOf]; omega
    · obtain rfl : j = n := by omega
      go_wp2
      go_ret
      exact ⟨by unfold cntA; rw [HX.out, ← HJ.out]; rfl, rfl⟩

end Go.Proofs.Ytmnmgibhjjdkaaa
