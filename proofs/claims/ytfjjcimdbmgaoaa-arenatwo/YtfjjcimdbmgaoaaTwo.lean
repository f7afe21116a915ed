/-
  ArenaTwo answers true, whatever it is given.
-/
import Derived.Test.YtfjjcimdbmgaoaaAwake1
import Derived.ProofKit
import Derived.OpenShut
namespace Go.Proofs.Ytfjjcimdbmgaoaa
open Go.RowKit

set_option maxHeartbeats 1000000 in
theorem two_any (i : Nat) (x y : Int) (w : World) (hi : i < 256) :
    Calls Try.prog 4 #[.int .u8 i, .int .i64 x, .int .i64 y] w fun e w' => e = .returned (.bool true) ∧ Keep [] w w' := by
  go_enter Try.func4, Try.ntmps4
  go_wp2_with fail
  refine (new_ok 4 w (by omega) (by omega)).mono ?_
  rintro e w1 ⟨b1, g1, rfl, hA, hK, hb1, hg1⟩
  go_wp2_with fail
  refine (new_ok 4 w1 (by omega) (by omega)).mono ?_
  rintro e w2 ⟨b2, g2, rfl, hB, hK2, hb2, hg2⟩
  have hA2 := hA.keep hK2 (by simp) (by simp)
  have l1 := hA.lt
  have l2 := hB.lt
  clear hA
  go_wp2_with (first | (go_at_call 8; refine (err_any _ _).mono ?_; rintro e w' ⟨rfl, rfl⟩))
  refine (store_yes b1 g1 i x _ _ hA2 (by rw [zeros_length]; omega)).mono ?_
  rintro e w3 ⟨rfl, hA3, hK3⟩
  have hB3 := hB.keep hK3 (by simp; omega) (by simp; omega)
  clear hA2 hB
  go_wp2_with fail
  refine (store_yes b2 g2 i y _ _ hB3 (by rw [zeros_length]; omega)).mono ?_
  rintro e w4 ⟨rfl, hB4, hK4⟩
  have hA4 := hA3.keep hK4 (by simp; omega) (by simp; omega)
  clear hA3 hB3
  go_wp2_with fail
  refine (load_yes b1 g1 i _ _ hA4 (by rw [List.length_set, zeros_length]; omega)).mono ?_
  rw [set_get_same _ _ _ (by rw [zeros_length]; omega)]
  rintro e w5 ⟨rfl, rfl⟩
  go_wp2_with fail
  refine (load_yes b2 g2 i _ _ hB4 (by rw [List.length_set, zeros_length]; omega)).mono ?_
  rw [set_get_same _ _ _ (by rw [zeros_length]; omega)]
  rintro e w6 ⟨rfl, rfl⟩
  go_wp2_with fail
  refine (load_nil _ _).mono ?_
  rintro e w7 ⟨rfl, rfl⟩
  go_wp2_with (first | (go_at_call 8; refine (err_any _ _).mono ?_; rintro e w' ⟨rfl, rfl⟩) | (go_at_call 10; refine (store_nil _ _ _).mono ?_; rintro e w' ⟨rfl, rfl⟩) | (go_at_call 13; refine (len_nil _).mono ?_; rintro e w' ⟨rfl, rfl⟩) | (go_at_call 9; refine (awake_any _).mono ?_; rintro e w8 ⟨rfl, hK8⟩))
  go_ret
  have k1 : Keep [g1, g2] w w8 := ((((hK.mono (by simp)).trans (hK2.mono (by simp))).trans (hK3.mono (by simp))).trans (hK4.mono (by simp))).trans (hK8.mono (by simp))
  exact ⟨rfl, k1.drop (by simp; omega)⟩

end Go.Proofs.Ytfjjcimdbmgaoaa

namespace Go.Proofs.Ytfjjcimdbmgaoaa.arenaTwo
open Go.RowKit
theorem walk (a0 a1 a2 : Int) (w0 : (Lit.int .u8 a0).wf = true) (_ : (Lit.int .i64 a1).wf = true) (_ : (Lit.int .i64 a2).wf = true) (w : World) :
    Calls Try.prog 4 #[.int .u8 a0, .int .i64 a1, .int .i64 a2] w fun e w' => e = .returned (.bool true) ∧ Keep [] w w' := by
  have hb := bounds_u8 w0
  obtain ⟨i, rfl⟩ := Int.eq_ofNat_of_zero_le hb.1
  exact two_any i a1 a2 w (by omega)
end Go.Proofs.Ytfjjcimdbmgaoaa.arenaTwo
