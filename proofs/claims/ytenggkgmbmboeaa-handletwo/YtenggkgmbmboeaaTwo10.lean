/-
  HandleTwo: two do not touch one another; what one told is stale in the other, till it holds there.
-/
import Derived.Test.YtenggkgmbmboeaaAwake10
import Derived.Deep.CutRange
namespace Go.Proofs.Ytenggkgmbmboeaa.handleTwo
open Go.RowKit

set_option maxRecDepth 100000 in
set_option maxHeartbeats 3200000 in
theorem core (n : Nat) (o q : Int) (w : World) (h1 : n ≤ 65535) (ho : -9223372036854775808 ≤ o ∧ o ≤ 9223372036854775807) (hq : q ≠ 512) (hoq : (o == 512) = true ∧ q = 0 ∨ (o == 512) = false ∧ q = o) :
    Calls Try.prog 7 #[.int .u16 n, .int .i64 o] w fun e w' => e = .returned (.bool true) ∧ Keep [] w w' := by
  have HS := (show Hid (Stale (oneH (1 + (n : Int))) onesL q) from oneH_stale (by omega) hq)
  have HKA := (show Hid (HOK 0 (oneH (1 + (n : Int))) onesL) from oneH_ok (by omega) (by omega))
  have HKB := (show Hid (HOK 0 (oneH 9) onesL) from oneH_ok (by omega) (by omega))
  have HLA := (show Hid ((allH (oneH (1 + (n : Int))) onesL).length = 1) from (oneH_pref (by omega)).len (by omega) _)
  go_enter Try.func7, Try.ntmps7
  go_wp2_with fail
  refine (hnew_any _).mono ?_
  rintro e w1 ⟨ba, rfl, hA1, hK1, hba⟩
  go_wp2_with fail
  refine (hnew_any _).mono ?_
  rintro e w2 ⟨bb, rfl, hB2, hK2, hbb⟩
  have hab : ba ≠ bb := by have := hA1.lt; omega
  have hA2 := hA1.keep hK2 (by simp)
  have hbb2 : w.heap.size ≤ bb := Nat.le_trans hK1.size hbb
  have hK2w := hK1.trans hK2
  clear hA1 hK1 hK2 hbb
  go_upto_region 5 with (first | (go_at_call 12; refine (hhold ba (1 + (n : Int)) 512 0 (zeros 512) onesL _ _ hA2 HOK.fresh (by omega) (by omega) (oneH_hold (by omega))).mono ?_; rintro e w3 ⟨rfl, hA3, hK3⟩))
  have hB3 := hB2.keep hK3 (by simp; omega)
  clear hA2 hB2
  go_upto_region 6 with (first | (go_at_call 17; refine (hheld bb 512 0 6 (zeros 512) onesL _ hB3 HOK.fresh (by omega) (.inl ⟨Pref.stale0 _ _, rfl, rfl⟩)).mono ?_; rintro e w' ⟨rfl, rfl⟩))
  go_upto_region 7 with (first | (go_at_call 15; refine (hdrop bb 512 6 (zeros 512) onesL _ _ _ hB3 HOK.fresh (by omega) (.inl ⟨Pref.stale0 _ _, rfl, rfl, rfl⟩)).mono ?_; rintro e w4 ⟨rfl, hB4, hK4⟩))
  have hA4 := hA3.keep hK4 (by simp; omega)
  clear hA3 hB3
  go_upto_region 8 with (first | (go_at_call 12; refine (hhold bb 9 512 0 (zeros 512) onesL _ _ hB4 HOK.fresh (by omega) (by omega) (oneH_hold (by omega))).mono ?_; rintro e w5 ⟨rfl, hB5, hK5⟩))
  have hA5 := hA4.keep hK5 (by simp; omega)
  clear hA4 hB4
  have hKA : Keep [ba, bb] w w5 := (((hK2w.mono (by simp)).trans (hK3.mono (by simp))).trans (hK4.mono (by simp))).trans (hK5.mono (by simp))
  have HKW := (show Hid (Keep [] w w5) from hKA.drop (by simp; omega))
  clear hK2w hK3 hK4 hK5 hKA
  go_upto_region 9 with (first | (go_at_call 17; refine (hheld ba 512 (1 + (n : Int)) 0 _ onesL _ hA5 HKA.out (by omega) (oneH_held (by omega))).mono ?_; rintro e w' ⟨rfl, rfl⟩))
  rcases hoq with ⟨hoq, rfl⟩ | ⟨hoq, rfl⟩
  all_goals
    go_upto_region 12 with (first | (go_at_call 17; refine (hheld ba _ 0 6 _ onesL _ hA5 HKA.out (by omega) (.inl ⟨HS.out, rfl, rfl⟩)).mono ?_; rintro e w' ⟨rfl, rfl⟩))
    go_wp2_with (first
      | (go_at_call 15; refine (hdrop ba _ 6 _ onesL _ _ _ hA5 HKA.out (by omega) (.inl ⟨HS.out, rfl, rfl, rfl⟩)).mono ?_; rintro e w6 ⟨rfl, hA6, hK6⟩)
      | (go_at_call 22; refine (hall ba _ onesL _ hA6 HKA.out (by omega)).mono ?_; rw [HLA.out]; rintro e w7 ⟨va, vc, rfl, hHe, hK7⟩)
      | (go_at_call 14; refine (err_any _ _).mono ?_; rintro e w' ⟨rfl, rfl⟩)
      | (go_at_call 9; refine (awake10_any _).mono ?_; rintro e w8 ⟨rfl, hK8⟩))
    go_ret
    exact ⟨rfl, ((HKW.out.mono (T := [ba]) (by simp)).trans (hK6.trans ((hK7.trans hK8).mono (by simp)))).drop (by simp; omega)⟩

theorem walk (a0 a1 : Int) (w0 : (Lit.int .u16 a0).wf = true) (w1 : (Lit.int .i64 a1).wf = true) (w : World) :
    Calls Try.prog 7 #[.int .u16 a0, .int .i64 a1] w fun e w' => e = .returned (.bool true) ∧ Keep [] w w' := by
  obtain ⟨h0, h1⟩ := bounds_u16 w0
  obtain ⟨n, rfl⟩ := Int.eq_ofNat_of_zero_le h0
  have hb := bounds_i64 w1
  by_cases h : a1 = 512
  · exact core n a1 0 w (by omega) (by omega) (by omega) (.inl ⟨by rw [beq_iff_eq]; exact h, rfl⟩)
  · exact core n a1 a1 w (by omega) (by omega) h (.inr ⟨by rw [beq_eq_false_iff_ne]; exact h, rfl⟩)

end Go.Proofs.Ytenggkgmbmboeaa.handleTwo
