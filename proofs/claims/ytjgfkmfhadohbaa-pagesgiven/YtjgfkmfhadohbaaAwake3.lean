/-
  What the third folder's own helpers answer: Err the number, awake true, with nothing old turned.
-/
import Derived.Test.YtjgfkmfhadohbaaPagesOps
namespace Go.Proofs.Ytjgfkmfhadohbaa
open Go.RowKit

set_option maxHeartbeats 400000 in
theorem err_any (n : Int) (w : World) :
    Calls Try.prog 9 #[.int .i64 n] w fun e w' => e = .returned (.int .i64 n) ∧ w = w' := by
  go_enter Try.func9, Try.ntmps9
  go_wp2
  go_ret
  exact ⟨rfl, rfl⟩

theorem awake_t1 : takeN (fresh 1) 1 = 0 ∧ takeE (fresh 1) 1 = 3 := by decide
theorem awake_t2 : takeN (fresh 3) 2 = 1 ∧ takeE (fresh 3) 2 = 0 := by decide
theorem awake_t3 : ((takeR (fresh 3) 2).length : Int) - cntA (takeR (fresh 3) 2) = 0 := by decide

set_option maxHeartbeats 800000 in
theorem awake3_any (w : World) :
    Calls Try.prog 10 #[] w fun e w' => e = .returned (.bool true) ∧ Keep [] w w' := by
  go_enter Try.func10, Try.ntmps10
  go_wp2_with fail
  refine (pnew_ok 1 w (by omega) (by omega)).mono ?_
  rintro e w1 ⟨p1, b1, g1, rfl, hA1, hK1, hp1, hb1, hg1⟩
  go_wp2_with fail
  refine (pnew_ok 3 w1 (by omega) (by omega)).mono ?_
  rintro e w2 ⟨p2, b2, g2, rfl, hA2, hK2, hp2, hb2, hg2⟩
  have l1 := hA1.lt
  have s1 := hK1.size
  have s2 := hK2.size
  have hA3 := hA1.keep hK2 (by simp) (by simp) (by simp)
  have hK3 := hK1.trans hK2
  have hc := hA2.cell
  clear hA1 hK1 hK2
  go_wp2_with fail
  refine (ptake_any p1 b1 g1 1 _ _ hA3 (by omega)).mono ?_
  rw [awake_t1.1, awake_t1.2]
  rintro e w3 ⟨rfl, hA4, hK4⟩
  have hA5 := hA2.keep hK4 (by simp; omega) (by simp; omega) (by simp; omega)
  clear hA4 hA3 hA2 hc
  go_wp2_with fail
  refine (ptake_any p2 b2 g2 2 _ _ hA5 (by omega)).mono ?_
  rw [awake_t2.1, awake_t2.2]
  rintro e w4 ⟨rfl, hA6, hK6⟩
  have hK7 : Keep [g1, g2] w w4 := ((hK3.mono (T := [g1, g2]) (by simp)).trans (hK4.mono (by simp))).trans (hK6.mono (by simp))
  have hK8 := hK7.drop (T := []) (by simp; omega)
  clear hA5 hK7 hK6 hK4 hK3
  go_wp2_with (first | (go_at_call 9; refine (err_any _ _).mono ?_; rintro e w' ⟨rfl, rfl⟩) | (go_at_call 16; refine (pleft_any _ _ _ _ _ hA6).mono ?_; rw [awake_t3]; rintro e w5 ⟨rfl, hK9⟩))
  go_ret
  exact ⟨rfl, hK8.trans hK9⟩

end Go.Proofs.Ytjgfkmfhadohbaa
