/-
  PagesRefuses answers true, whatever it is given.
-/
import Derived.Test.YtjgfkmfhadohbaaAwake3
import Derived.ProofKit
import Derived.OpenShut
namespace Go.Proofs.Ytjgfkmfhadohbaa
open Go.RowKit

set_option maxRecDepth 100000 in
set_option maxHeartbeats 4000000 in
theorem refuses_any (n : Nat) (k : Int) (w : World) (hn : n < 256) (hk : -9223372036854775808 ≤ k ∧ k ≤ 9223372036854775807) :
    Calls Try.prog 6 #[.int .u8 n, .int .i64 k] w fun e w' => e = .returned (.bool true) ∧ Keep [] w w' := by
  obtain ⟨m, hm1, hm2, hm3⟩ : ∃ m : Nat, 2 + (n : Int) % 50 = m ∧ 2 ≤ m ∧ m ≤ 51 := ⟨2 + n % 50, by omega, by omega, by omega⟩
  obtain ⟨lo, hlo, hlo2⟩ : ∃ lo : Int, (if 0 < k then 0 else k) = lo ∧ lo < 1 := ⟨_, rfl, by split <;> omega⟩
  obtain ⟨hi, hhi, hhi2, hhi3⟩ : ∃ hi : Nat, (if k < 300 then 300 else k) = hi ∧ 300 ≤ hi ∧ (hi : Int) ≤ 9223372036854775807 := ⟨(if k < 300 then 300 else k).toNat, by split <;> omega, by split <;> omega, by split <;> omega⟩
  have f1 : fullB (fresh m) 1 1 = false := fullB_no _ _ _ 1 (by omega) (by omega) (.inr (by rw [fresh_get m 1 (by omega)]; rfl))
  have hl : 1 + 1 ≤ (fresh m).length := by rw [fresh_length]; omega
  have g1 := putR_in (fresh m) 1 1 true hl 1 (by omega) (by omega)
  have g2 := putR_out (fresh m) 1 1 true hl 2 (by omega)
  have gl := (putR_length (fresh m) 1 1 true).trans (fresh_length m)
  have hr := fresh_run m 1 (by omega) (by omega)
  rw [fresh_get m 2 (by omega)] at g2
  have F1 := (show Hid (fullB (fresh m) 1 1 = false) from f1)
  have F2 := (show Hid (fullB (putR (fresh m) 1 1 true) 1 2 = false) from fullB_no _ _ _ 2 (by omega) (by omega) (.inr g2))
  have F3 := (show Hid (fullB (putR (fresh m) 1 1 true) 1 hi = false) from fullB_no _ _ _ 51 (by omega) (by omega) (.inl (by omega)))
  have F4 := (show Hid (hasR (putR (fresh m) 1 1 true) 1 = true) from (has_nat (putR (fresh m) 1 1 true) 1 (by omega)).trans g1)
  have F5 := (show Hid (runR (fresh m) 0 1 = (1 : Nat)) from hr)
  have F6 := (show Hid (1 + 1 ≤ (fresh m).length) from hl)
  clear f1 hl g1 g2 gl hr
  go_enter Try.func6, Try.ntmps6
  go_wp2_with fail
  refine (pnew_ok m w (by omega) (by omega)).mono ?_
  rintro e w1 ⟨pb, b, g, rfl, hA, hK, hp, hb, hg⟩
  have hc := hA.cell
  go_wp2_with (first | (go_at_call 9; refine (err_any _ _).mono ?_; rintro e w' ⟨rfl, rfl⟩))
  refine (ptake_low pb lo w1 hlo2).mono ?_
  rintro e w' ⟨rfl, rfl⟩
  go_wp2_with fail
  refine (pgive_arg pb 0 1 w1 (by omega)).mono ?_
  rintro e w' ⟨rfl, rfl⟩
  go_wp2_with fail
  refine (pgive_no pb b g 1 1 _ w1 hA (by omega) (by omega) (by omega) (by omega) F1.out).mono ?_
  rintro e w' ⟨rfl, rfl⟩
  go_wp2_with fail
  refine (ptake_yes pb b g 1 1 _ w1 hA (by omega) F5.out F6.out).mono ?_
  rintro e w2 ⟨rfl, hA2, hK2⟩
  clear hA hc
  have hc := hA2.cell
  go_wp2_with fail
  refine (pgive_no pb b g 1 2 _ w2 hA2 (by omega) (by omega) (by omega) (by omega) F2.out).mono ?_
  rintro e w' ⟨rfl, rfl⟩
  go_wp2_with fail
  refine (pgive_no pb b g 1 hi _ w2 hA2 (by omega) (by omega) (by omega) (by omega) F3.out).mono ?_
  rintro e w' ⟨rfl, rfl⟩
  go_wp2_with fail
  refine (pgive_arg pb lo 1 w2 (by omega)).mono ?_
  rintro e w' ⟨rfl, rfl⟩
  have hK3 := ((hK.mono (T := [g]) (by simp)).trans hK2).drop (T := []) (by simp; omega)
  go_wp2_with (first | (go_at_call 9; refine (err_any _ _).mono ?_; rintro e w' ⟨rfl, rfl⟩) | (go_at_call 18; refine (bhas_any b g 1 _ _ hA2.bits).mono ?_; rw [F4.out]; rintro e w' ⟨rfl, rfl⟩) | (go_at_call 10; refine (awake3_any _).mono ?_; rintro e w8 ⟨rfl, hK8⟩))
  go_ret
  exact ⟨rfl, hK3.trans hK8⟩

end Go.Proofs.Ytjgfkmfhadohbaa

namespace Go.Proofs.Ytjgfkmfhadohbaa.pagesRefuses
open Go.RowKit
theorem walk (a0 a1 : Int) (w0 : (Lit.int .u8 a0).wf = true) (w1 : (Lit.int .i64 a1).wf = true) (w : World) :
    Calls Try.prog 6 #[.int .u8 a0, .int .i64 a1] w fun e w' => e = .returned (.bool true) ∧ Keep [] w w' := by
  have h0 := bounds_u8 w0
  have h1 := bounds_i64 w1
  obtain ⟨n, rfl⟩ := Int.eq_ofNat_of_zero_le h0.1
  exact refuses_any n a1 w (by omega) h1
end Go.Proofs.Ytjgfkmfhadohbaa.pagesRefuses
