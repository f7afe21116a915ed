/-
  ArenaFills answers true, whatever it is given.
-/
import Derived.Test.YtfjjcimdbmgaoaaAwake1
import Derived.ProofKit
import Derived.OpenShut
namespace Go.Proofs.Ytfjjcimdbmgaoaa
open Go.RowKit

/-- The first j of 128 words are x. -/
def Filled (xs : List Int) (j : Nat) (x : Int) : Prop := xs.length = 128 ∧ ∀ t, t < j → xs[t]?.getD 0 = x
theorem Filled.step {xs : List Int} {j : Nat} {x : Int} (h : Filled xs j x) (hj : j < 128) : Filled (xs.set j x) (j + 1) x := by
  refine ⟨by simpa using h.1, fun t ht => ?_⟩
  by_cases e : t = j
  · subst e; exact set_get_same _ _ _ (by have := h.1; omega)
  · rw [set_get_other _ _ _ _ (by omega)]; exact h.2 t (by omega)

set_option maxRecDepth 100000 in
set_option maxHeartbeats 1000000 in
theorem fills_any (a n : Nat) (x : Int) (w : World) (ha : a < 256) (hn : n < 256) :
    Calls Try.prog 5 #[.int .u8 a, .int .u8 n, .int .i64 x] w fun e w' => e = .returned (.bool true) ∧ Keep [] w w' := by
  go_enter Try.func5, Try.ntmps5
  go_wp2_with fail
  refine (new_ok 2 w (by omega) (by omega)).mono ?_
  rintro e w1 ⟨b1, g1, rfl, hA, hK, hb1, hg1⟩
  go_wp2_with (first | (go_at_call 8; refine (err_any _ _).mono ?_; rintro e w' ⟨rfl, rfl⟩))
  go_loopw [9] (fun i wr => ∃ (j : Nat) (xs : List Int), j ≤ 128 ∧ i = .int .i64 j ∧ IsArena wr b1 g1 xs ∧ Filled xs j x ∧ Keep [g1] w wr) (fun i _ => 128 - (intOf i).toNat)
  case atStart => exact ⟨0, _, by omega, rfl, hA, ⟨zeros_length _, fun t h => by omega⟩, hK.mono (by simp)⟩
  case round =>
    obtain ⟨j, xs, hj, rfl, hA1, hx, hK1⟩ := hrel
    clear hA hK
    by_cases hlt : j < 128
    · go_wp2_with (first | (go_at_call 10; refine (store_in b1 g1 _ _ xs _ hA1 (by omega) (by have := hx.1; omega)).mono ?_; rintro e w2 ⟨rfl, hA2, hK2⟩))
      go_roundw
      case rel =>
        exact ⟨j + 1, _, by omega, by go_num, hA2, hx.step hlt, hK1.trans hK2⟩
      case measure => simp [intOf]; omega
    · obtain rfl : j = 128 := by omega
      clear hj hlt
      obtain ⟨k, hk⟩ : ∃ k : Nat, (a : Int) % 140 = k := ⟨a % 140, by omega⟩
      obtain ⟨m, hm⟩ : ∃ m : Nat, (n : Int) % 140 = m := ⟨n % 140, by omega⟩
      have hk' : k < 140 := by omega
      have hm' : m < 140 := by omega
      go_wp2_with fail
      refine (fill_tot b1 g1 k m xs _ hA1).mono ?_
      rintro e w2 ⟨c, ys, rfl, hA2, hK2, hyl, hcase⟩
      have HX : Hid (Filled xs 128 x) := hx
      have HY : Hid (ys.length = xs.length) := hyl
      have hend : ∀ w8, Keep [] w2 w8 → Keep [] w w8 := fun w8 h8 => ((hK1.trans hK2).trans (h8.mono (by simp))).drop (by simp; omega)
      have HE : Hid (∀ w8, Keep [] w2 w8 → Keep [] w w8) := hend
      clear hx hyl hA1 hK1 hK2 hend
      rcases hcase with ⟨hfit, rfl, hy⟩ | ⟨hfit, rfl, rfl⟩
      · have HV : Hid (∀ t : Nat, ys[t]?.getD 0 = if k ≤ t ∧ t < k + m then 0 else xs[t]?.getD 0) := hy
        clear hy
        have hf : (k : Int) + m ≤ 128 ∨ (m : Int) = 0 ∧ 128 < (k : Int) := by have := HX.out.1; omega
        rcases hf with hf | ⟨hf, hf2⟩
        all_goals
          go_wp2_with (first | (go_at_call 8; refine (err_any _ _).mono ?_; rintro e w' ⟨rfl, rfl⟩))
          go_loop [14] (fun i => ∃ j : Nat, j ≤ 128 ∧ i = .int .i64 j) (fun i => 128 - (intOf i).toNat)
          case atStart => exact ⟨0, by omega, rfl⟩
          case round =>
            obtain ⟨j, hj, rfl⟩ := hrel
            by_cases hlt : j < 128
            · have hjy : (j : Int) < ys.length := by have := HX.out.1; have := HY.out; omega
              by_cases h1 : k ≤ j
              · by_cases h2 : j < k + m
                · have hv : ys[(j : Int).toNat]?.getD 0 = 0 := by rw [Int.toNat_natCast, HV.out, if_pos ⟨h1, h2⟩]
                  have H2 : Hid (ys[(j : Int).toNat]?.getD 0 = 0) := hv
                  clear hv
                  go_wp2_with (first | (go_at_call 12; refine (load_in b1 g1 _ _ _ hA2 (by omega) hjy).mono ?_; rw [H2.out]; rintro e w' ⟨rfl, rfl⟩) | (go_at_call 8; refine (err_any _ _).mono ?_; rintro e w' ⟨rfl, rfl⟩))
                  all_goals
                    go_round
                    case rel => exact ⟨j + 1, by omega, by go_num⟩
                    case measure => simp [intOf]; omega
                · have hv : ys[(j : Int).toNat]?.getD 0 = x := by rw [Int.toNat_natCast, HV.out, if_neg (by omega)]; exact HX.out.2 j hlt
                  have H2 : Hid (ys[(j : Int).toNat]?.getD 0 = x) := hv
                  clear hv
                  go_wp2_with (first | (go_at_call 12; refine (load_in b1 g1 _ _ _ hA2 (by omega) hjy).mono ?_; rw [H2.out]; rintro e w' ⟨rfl, rfl⟩) | (go_at_call 8; refine (err_any _ _).mono ?_; rintro e w' ⟨rfl, rfl⟩))
                  all_goals
                    go_round
                    case rel => exact ⟨j + 1, by omega, by go_num⟩
                    case measure => simp [intOf]; omega
              · have hv : ys[(j : Int).toNat]?.getD 0 = x := by rw [Int.toNat_natCast, HV.out, if_neg (by omega)]; exact HX.out.2 j hlt
                have H2 : Hid (ys[(j : Int).toNat]?.getD 0 = x) := hv
                clear hv
                go_wp2_with (first | (go_at_call 12; refine (load_in b1 g1 _ _ _ hA2 (by omega) hjy).mono ?_; rw [H2.out]; rintro e w' ⟨rfl, rfl⟩) | (go_at_call 8; refine (err_any _ _).mono ?_; rintro e w' ⟨rfl, rfl⟩))
                go_round
                case rel => exact ⟨j + 1, by omega, by go_num⟩
                case measure => simp [intOf]; omega
            · go_wp2_with (first | (go_at_call 9; refine (awake_any _).mono ?_; rintro e w8 ⟨rfl, hK8⟩))
              go_ret
              exact ⟨rfl, HE.out _ hK8⟩
      · have hf : decide ((m : Int) ≤ 128 - (k : Int)) = false := by have := HX.out.1; rw [decide_eq_false_iff_not]; omega
        have hm0 : ((m : Int) == 0) = false := by rw [beq_eq_false_iff_ne]; omega
        go_wp2_with (first | (go_at_call 8; refine (err_any _ _).mono ?_; rintro e w' ⟨rfl, rfl⟩))
        go_loop [14] (fun i => ∃ j : Nat, j ≤ 128 ∧ i = .int .i64 j) (fun i => 128 - (intOf i).toNat)
        case atStart => exact ⟨0, by omega, rfl⟩
        case round =>
          obtain ⟨j, hj, rfl⟩ := hrel
          by_cases hlt : j < 128
          · have hjy : (j : Int) < ys.length := by have := HX.out.1; omega
            have hv : ys[(j : Int).toNat]?.getD 0 = x := by rw [Int.toNat_natCast]; exact HX.out.2 j hlt
            have H2 : Hid (ys[(j : Int).toNat]?.getD 0 = x) := hv
            clear hv
            go_wp2_with (first | (go_at_call 12; refine (load_in b1 g1 _ _ _ hA2 (by omega) hjy).mono ?_; rw [H2.out]; rintro e w' ⟨rfl, rfl⟩) | (go_at_call 8; refine (err_any _ _).mono ?_; rintro e w' ⟨rfl, rfl⟩))
            go_round
            case rel => exact ⟨j + 1, by omega, by go_num⟩
            case measure => simp [intOf]; omega
          · go_wp2_with (first | (go_at_call 9; refine (awake_any _).mono ?_; rintro e w8 ⟨rfl, hK8⟩))
            go_ret
            exact ⟨rfl, HE.out _ hK8⟩

end Go.Proofs.Ytfjjcimdbmgaoaa

namespace Go.Proofs.Ytfjjcimdbmgaoaa.arenaFills
open Go.RowKit
theorem walk (a0 a1 a2 : Int) (w0 : (Lit.int .u8 a0).wf = true) (w1 : (Lit.int .u8 a1).wf = true) (_ : (Lit.int .i64 a2).wf = true) (w : World) :
    Calls Try.prog 5 #[.int .u8 a0, .int .u8 a1, .int .i64 a2] w fun e w' => e = .returned (.bool true) ∧ Keep [] w w' := by
  have hb := bounds_u8 w0
  have hc := bounds_u8 w1
  obtain ⟨i, rfl⟩ := Int.eq_ofNat_of_zero_le hb.1
  obtain ⟨j, rfl⟩ := Int.eq_ofNat_of_zero_le hc.1
  exact fills_any i j a2 w (by omega) (by omega)
end Go.Proofs.Ytfjjcimdbmgaoaa.arenaFills
