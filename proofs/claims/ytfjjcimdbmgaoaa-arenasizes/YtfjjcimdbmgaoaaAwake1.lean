/-
  What the first folder's own helpers answer: Err the number, awake true, with nothing old turned.
-/
import Derived.Test.YtfjjcimdbmgaoaaArena
namespace Go.Proofs.Ytfjjcimdbmgaoaa
open Go.RowKit

set_option maxHeartbeats 400000 in
theorem err_any (n : Int) (w : World) :
    Calls Try.prog 8 #[.int .i64 n] w fun e w' => e = .returned (.int .i64 n) ∧ w = w' := by
  go_enter Try.func8, Try.ntmps8
  go_wp2
  go_ret
  exact ⟨rfl, rfl⟩

set_option maxHeartbeats 400000 in
theorem awake_any (w : World) :
    Calls Try.prog 9 #[] w fun e w' => e = .returned (.bool true) ∧ Keep [] w w' := by
  go_enter Try.func9, Try.ntmps9
  go_wp2_with fail
  refine (new_yes 1 w (by omega) (by omega)).mono ?_
  rintro e w1 ⟨rfl, hA, hK, hz⟩
  go_wp2_with fail
  refine (load_yes _ _ 63 _ _ hA (by rw [zeros_length]; omega)).mono ?_
  rw [zeros_get]
  rintro e w2 ⟨rfl, rfl⟩
  go_wp2_with fail
  refine (load_no _ _ 64 _ _ hA (by rw [zeros_length]; omega)).mono ?_
  rintro e w2 ⟨rfl, rfl⟩
  go_wp2_with (first | (go_at_call 8; refine (err_any _ _).mono ?_; rintro e w' ⟨rfl, rfl⟩) | (go_at_call 13; refine (len_any _ _ _ _ hA).mono ?_; rw [zeros_length]; rintro e w' ⟨rfl, rfl⟩))
  go_ret
  exact ⟨rfl, hK⟩

end Go.Proofs.Ytfjjcimdbmgaoaa
