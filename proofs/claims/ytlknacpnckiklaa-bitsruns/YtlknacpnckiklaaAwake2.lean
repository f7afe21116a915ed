/-
  What the second folder's own helpers answer: Err the number, awake true, with nothing old turned.
-/
import Derived.Test.YtlknacpnckiklaaBits
namespace Go.Proofs.Ytlknacpnckiklaa
open Go.RowKit

set_option maxHeartbeats 400000 in
theorem err_any (n : Int) (w : World) :
    Calls Try.prog 9 #[.int .i64 n] w fun e w' => e = .returned (.int .i64 n) ∧ w = w' := by
  go_enter Try.func9, Try.ntmps9
  go_wp2
  go_ret
  exact ⟨rfl, rfl⟩

theorem awake_r1 : runI (offs 3) 0 3 = 0 := by decide
theorem awake_r2 : runI (offs 3) 0 4 = -1 := by decide

set_option maxHeartbeats 400000 in
theorem awake2_any (w : World) :
    Calls Try.prog 10 #[] w fun e w' => e = .returned (.bool true) ∧ Keep [] w w' := by
  go_enter Try.func10, Try.ntmps10
  go_wp2_with fail
  refine (bnew_ok 3 w (by omega)).mono ?_
  rintro e w1 ⟨b, g, rfl, hA, hK, hb, hg⟩
  go_wp2_with (first | (go_at_call 9; refine (err_any _ _).mono ?_; rintro e w' ⟨rfl, rfl⟩))
  refine (brun_any _ _ 0 3 _ _ hA (by omega) (by omega)).mono ?_
  rw [awake_r1]
  rintro e w2 ⟨rfl, rfl⟩
  go_wp2_with fail
  refine (brun_any _ _ 0 4 _ _ hA (by omega) (by omega)).mono ?_
  rw [awake_r2]
  rintro e w2 ⟨rfl, rfl⟩
  go_wp2_with (first | (go_at_call 21; refine (bsize_any _ _ _ _ hA).mono ?_; rw [offs_length]; rintro e w' ⟨rfl, rfl⟩))
  go_ret
  exact ⟨rfl, hK⟩

end Go.Proofs.Ytlknacpnckiklaa
