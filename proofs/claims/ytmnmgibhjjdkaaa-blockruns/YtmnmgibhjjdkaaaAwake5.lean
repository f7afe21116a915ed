/-
  What the fifth folder's own helpers answer: Err the number, awake true, with nothing old turned.
-/
import Derived.Test.YtmnmgibhjjdkaaaBlock
namespace Go.Proofs.Ytmnmgibhjjdkaaa
open Go.RowKit

set_option maxHeartbeats 400000 in
theorem err_any (n : Int) (w : World) :
    Calls Try.prog 8 #[.int .i64 n] w fun e w' => e = .returned (.int .i64 n) ∧ w = w' := by
  go_enter Try.func8, Try.ntmps8
  go_wp2
  go_ret
  exact ⟨rfl, rfl⟩

theorem none_offs (n : Nat) : noneB (offs n) = true := by
  rw [none_count, cntA_offs]; rfl

set_option maxHeartbeats 800000 in
theorem awake5_any (w : World) :
    Calls Try.prog 9 #[] w fun e w' => e = .returned (.bool true) ∧ Keep [] w w' := by
  have HN := (show Hid (noneB (offs 2) = true) from none_offs 2)
  have HL := (show Hid ((offs 2).length = 2) from offs_length 2)
  go_enter Try.func9, Try.ntmps9
  go_wp2_with fail
  refine (knew_ok 4 w (by omega)).mono ?_
  rintro e w1 ⟨pb, b, g, rfl, hA, hK, hp, hb, hg⟩
  have hA2 : IsPage w1 pb b g 32 (offs 2) := hA
  have hc := hA2.cell
  clear hA
  go_wp2_with (first | (go_at_call 8; refine (err_any _ _).mono ?_; rintro e w' ⟨rfl, rfl⟩) | (go_at_call 20; refine (bsize_any _ _ _ _ hA2.bits).mono ?_; rw [HL.out]; rintro e w' ⟨rfl, rfl⟩) | (go_at_call 19; refine (kwords_any _ _ _ _ _ _ hA2).mono ?_; rintro e w' ⟨rfl, rfl⟩) | (go_at_call 15; refine (kempty_any _ _ _ _ _ _ hA2).mono ?_; rw [HN.out]; rintro e w' ⟨rfl, rfl⟩))
  go_ret
  exact ⟨rfl, hK⟩

end Go.Proofs.Ytmnmgibhjjdkaaa
