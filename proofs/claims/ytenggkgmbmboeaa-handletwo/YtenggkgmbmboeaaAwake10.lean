/-
  What the tenth folder's own helpers answer; calls of handles in memory that is owned.
-/
import Derived.Test.YtenggkgmbmboeaaHandAll
import Derived.Test.YtenggkgmbmboeaaHandP
import Derived.Test.YtenggkgmbmboeaaSep
namespace Go.Proofs.Ytenggkgmbmboeaa
open Go.RowKit

set_option maxHeartbeats 400000 in
theorem err_any (n : Int) (w : World) :
    Calls Try.prog 14 #[.int .i64 n] w fun e w' => e = .returned (.int .i64 n) ∧ w = w' := by
  go_enter Try.func14, Try.ntmps14
  go_wp2
  go_ret
  exact ⟨rfl, rfl⟩

set_option maxRecDepth 100000 in
set_option maxHeartbeats 1600000 in
theorem awake10_any (w : World) :
    Calls Try.prog 9 #[] w fun e w' => e = .returned (.bool true) ∧ Keep [] w w' := by
  go_enter Try.func9, Try.ntmps9
  go_wp2_with (first
    | (go_at_call 8; refine (hnew_any _).mono ?_; rintro e w1 ⟨b, rfl, hI1, hK1, hb⟩)
    | (go_at_call 12; refine (hhold b 64 512 0 (zeros 512) onesL (oneH 64) _ hI1 HOK.fresh (by omega) (by omega) (oneH_hold (by omega))).mono ?_; rintro e w2 ⟨rfl, hI2, hK2⟩)
    | (go_at_call 17; refine (hheld b 512 64 0 (oneH 64) onesL _ hI2 (oneH_ok (by omega) (by omega)) (by omega) (oneH_held (by omega))).mono ?_; rintro e w' ⟨rfl, rfl⟩)
    | (go_at_call 14; refine (err_any _ _).mono ?_; rintro e w' ⟨rfl, rfl⟩)
    | (go_at_call 19; refine (hroom b (oneH 64) onesL _ hI2 (oneH_ok (by omega) (by omega)) (by omega)).mono ?_; rw [(oneH_pref (a := 64) (by omega)).len (by omega)]; rintro e w3 ⟨rfl, hK3⟩))
  go_ret
  exact ⟨rfl, ((hK1.mono (T := [b]) (by simp)).trans (hK2.trans (hK3.mono (by simp)))).drop (by simp; omega)⟩

end Go.Proofs.Ytenggkgmbmboeaa
