/-
  ArenaSizes answers true, whatever it is given.
-/
import Derived.Test.YtfjjcimdbmgaoaaAwake1
import Derived.ProofKit
import Derived.OpenShut
namespace Go.Proofs.Ytfjjcimdbmgaoaa
open Go.RowKit

set_option maxHeartbeats 1000000 in
theorem sizes_any (n : Nat) (bad : Int) (w : World) (hn : n < 256) :
    Calls Try.prog 6 #[.int .u8 n, .int .i64 bad] w fun e w' => e = .returned (.bool true) ∧ Keep [] w w' := by
  have l0 := zeros_length ((1 + n) * 64)
  have r1 : ((((1 + n) * 64 : Nat) : Int) == (1 + (n : Int)) * 64) = true := by rw [beq_iff_eq]; omega
  go_enter Try.func6, Try.ntmps6
  go_wp2_with fail
  refine (new_ok (1 + n) w (by omega) (by omega)).mono ?_
  rintro e w1 ⟨b1, g1, rfl, hA, hK, hb1, hg1⟩
  have l1 := hA.lt
  go_wp2_with (first | (go_at_call 8; refine (err_any _ _).mono ?_; rintro e w' ⟨rfl, rfl⟩) | (go_at_call 13; refine (len_any _ _ _ _ hA).mono ?_; rw [zeros_length]; rintro e w' ⟨rfl, rfl⟩))
  refine (store_in b1 g1 _ 7 _ _ hA (by omega) (by rw [zeros_length]; omega)).mono ?_
  rintro e w2 ⟨rfl, hA2, hK2⟩
  obtain ⟨ys, hys⟩ : ∃ ys, ys = (zeros ((1 + n) * 64)).set ((1 + (n : Int)) * 64 - 1).toNat 7 := ⟨_, rfl⟩
  have hl : ys.length = (1 + n) * 64 := by rw [hys, List.length_set, zeros_length]
  have hv : ys[((1 + (n : Int)) * 64 - 1).toNat]?.getD 0 = 7 := by rw [hys, set_get_same _ _ _ (by rw [zeros_length]; omega)]
  rw [← hys] at hA2
  have HV : Hid (ys[((1 + (n : Int)) * 64 - 1).toNat]?.getD 0 = 7) := hv
  have HL : Hid (ys.length = (1 + n) * 64) := hl
  clear hys hl hv hA l0 l1
  go_wp2_with (first | (go_at_call 13; refine (len_any _ _ _ _ hA2).mono ?_; rw [HL.out]; rintro e w' ⟨rfl, rfl⟩))
  refine (load_in b1 g1 _ _ _ hA2 (by omega) (by rw [HL.out]; omega)).mono ?_
  rw [HV.out]
  rintro e w3 ⟨rfl, rfl⟩
  go_wp2_with (first | (go_at_call 13; refine (len_any _ _ _ _ hA2).mono ?_; rw [HL.out]; rintro e w' ⟨rfl, rfl⟩))
  refine (store_no b1 g1 _ 7 _ _ hA2 (by rw [HL.out]; omega)).mono ?_
  rintro e w4 ⟨rfl, rfl⟩
  go_wp2_with fail
  refine (load_no b1 g1 _ _ _ hA2 (by omega)).mono ?_
  rintro e w5 ⟨rfl, rfl⟩
  go_wp2_with (first | (go_at_call 7; refine (new_no _ _ (by omega)).mono ?_; rintro e w' ⟨rfl, rfl⟩) | (go_at_call 8; refine (err_any _ _).mono ?_; rintro e w' ⟨rfl, rfl⟩) | (go_at_call 11; refine (fill_neg _ _ _ _ (by omega)).mono ?_; rintro e w' ⟨rfl, rfl⟩) | (go_at_call 9; refine (awake_any _).mono ?_; rintro e w8 ⟨rfl, hK8⟩))
  all_goals
    go_ret
    have k1 : Keep [g1] w w8 := ((hK.mono (by simp)).trans hK2).trans (hK8.mono (by simp))
    exact ⟨rfl, k1.drop (by simp; omega)⟩

end Go.Proofs.Ytfjjcimdbmgaoaa

namespace Go.Proofs.Ytfjjcimdbmgaoaa.arenaSizes
open Go.RowKit
theorem walk (a0 a1 : Int) (w0 : (Lit.int .u8 a0).wf = true) (_ : (Lit.int .i64 a1).wf = true) (w : World) :
    Calls Try.prog 6 #[.int .u8 a0, .int .i64 a1] w fun e w' => e = .returned (.bool true) ∧ Keep [] w w' := by
  have hb := bounds_u8 w0
  obtain ⟨i, rfl⟩ := Int.eq_ofNat_of_zero_le hb.1
  exact sizes_any i a1 w (by omega)
end Go.Proofs.Ytfjjcimdbmgaoaa.arenaSizes
