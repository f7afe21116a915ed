/-
  Awake of gloaminglaw16.
-/
import Derived.Test.YtjlfjbdkffppeaaStk
namespace Go.Proofs.Ytjlfjbdkffppeaa
open Go.RowKit

theorem err_any (n : Int) (w : World) :
    Calls Try.prog 7 #[.int .i64 n] w fun e w' => e = .returned (.int .i64 n) ∧ w = w' := by
  go_enter Try.func7, Try.ntmps7
  go_wp2
  go_ret
  exact ⟨rfl, rfl⟩
theorem in78 : inR [7, 8] := by
  intro i
  rcases i with _ | _ | i <;> simp
set_option maxRecDepth 100000 in
set_option maxHeartbeats 1600000 in
theorem awake16_any (w : World) :
    Calls Try.prog 8 #[] w fun e w' => e = .returned (.bool true) ∧ Keep [] w w' := by
  go_enter Try.func8, Try.ntmps8
  go_wp2_with fail
  refine (stnew_yes 1 _ (by omega) (by omega)).mono ?_
  rintro e w1 ⟨sb, rfl, hX⟩
  have HX := (show Hid (Has w [] ((stkA sb 1 [] false).star (blockA w1.heap.size (litO [7, 8]))) (w1.alloc (litO [7, 8]))) from hX.newB _)
  clear hX
  go_wp2_with (first | (go_at_call 7; refine (err_any _ _).mono ?_; rintro e w' ⟨rfl, rfl⟩))
  refine (stpush (some ⟨w1.heap.size, 0, none⟩) 2 2 [7, 8] _ HX.out (fun _ _ w' h => h.snd.fact (fun F h => ints_lit h in78)) rfl (cap_lit _ 2 (by omega)) (by omega)).mono ?_
  rintro e w2 ⟨rfl, hX2⟩
  have HX2 := (show Hid (Has w [] (stkA sb 1 [7] true) w2) from hX2.fst)
  clear HX hX2
  go_wp2_with (first
    | (go_at_call 12; refine (stover _ HX2.out).mono ?_; rintro e w3 ⟨rfl, hK3⟩)
    | (go_at_call 13; refine (stdepth _ (HX2.out.keep0 hK3)).mono ?_; rintro e w4 ⟨rfl, hK4⟩))
  go_ret
  exact ⟨rfl, (HX2.out.K.trans hK3).trans hK4⟩

end Go.Proofs.Ytjlfjbdkffppeaa
