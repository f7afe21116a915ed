/-
  BlockRefuses answers true, whatever it is given.
-/
import Derived.Test.YtmnmgibhjjdkaaaAwake5
import Derived.ProofKit
import Derived.OpenShut
namespace Go.Proofs.Ytmnmgibhjjdkaaa
open Go.RowKit

theorem has_offs (n : Nat) (i : Int) : hasR (offs n) i = false := by
  unfold hasR; rw [offs_get, Bool.and_false]

set_option maxRecDepth 100000 in
set_option maxHeartbeats 4000000 in
theorem refuses5_any (c i : Int) (w : World) :
    Calls Try.prog 6 #[.int .i64 c, .int .i64 i] w fun e w' => e = .returned (.bool true) ∧ Keep [] w w' := by
  have HN := (show Hid (noneB (offs 32) = true) from none_offs 32)
  have HH := (show Hid (∀ k, hasR (offs 32) k = false) from has_offs 32)
  rcases (show c < 0 ∨ 0 ≤ c ∧ c < 5 ∨ 0 ≤ c ∧ 5 ≤ c by omega) with h1 | ⟨h1, h2⟩ | ⟨h1, h2⟩
  all_goals
    go_enter Try.func6, Try.ntmps6
    go_wp2_with fail
    refine (knew_no _ w (by omega)).mono ?_
    rintro e w1 ⟨rfl, hK1⟩
    go_wp2_with fail
    refine (knew_ok 0 w1 (by omega)).mono ?_
    rintro e w2 ⟨pb, b, g, rfl, hA, hK2, hp, hb, hg⟩
    have hA2 : IsPage w2 pb b g 2 (offs 32) := hA
    have hc := hA2.cell
    have hK3 := hK1.trans hK2
    clear hA hK1 hK2
    rcases (show i < 0 ∨ 0 ≤ i ∧ i < 32 ∨ 0 ≤ i ∧ 32 ≤ i by omega) with i1 | ⟨i1, i2⟩ | ⟨i1, i2⟩
    all_goals
      go_wp2_with (first | (go_at_call 8; refine (err_any _ _).mono ?_; rintro e w' ⟨rfl, rfl⟩) | (go_at_call 13; refine (kgive_no _ _ _ _ _ _ _ hA2 (HH.out _)).mono ?_; rintro e w' ⟨rfl, rfl⟩) | (go_at_call 19; refine (kwords_any _ _ _ _ _ _ hA2).mono ?_; rintro e w' ⟨rfl, rfl⟩) | (go_at_call 15; refine (kempty_any _ _ _ _ _ _ hA2).mono ?_; rw [HN.out]; rintro e w' ⟨rfl, rfl⟩) | (go_at_call 9; refine (awake5_any _).mono ?_; rintro e w8 ⟨rfl, hK8⟩))
      go_ret
      exact ⟨rfl, hK3.trans hK8⟩

end Go.Proofs.Ytmnmgibhjjdkaaa

namespace Go.Proofs.Ytmnmgibhjjdkaaa.blockRefuses
open Go.RowKit
theorem walk (a0 a1 : Int) (_w0 : (Lit.int .i64 a0).wf = true) (_w1 : (Lit.int .i64 a1).wf = true) (w : World) :
    Calls Try.prog 6 #[.int .i64 a0, .int .i64 a1] w fun e w' => e = .returned (.bool true) ∧ Keep [] w w' :=
  refuses5_any a0 a1 w
end Go.Proofs.Ytmnmgibhjjdkaaa.blockRefuses
