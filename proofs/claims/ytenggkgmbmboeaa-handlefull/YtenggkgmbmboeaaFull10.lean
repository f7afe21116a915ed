/-
  HandleFull: there are as many as may be, and no more; one dropped there is room for one.
-/
import Derived.Test.YtenggkgmbmboeaaAwake10
import Derived.Deep.CutRange
namespace Go.Proofs.Ytenggkgmbmboeaa.handleFull
open Go.RowKit

set_option maxRecDepth 100000 in
set_option maxHeartbeats 3200000 in
theorem walk (a0 : Int) (w0 : (Lit.int .u16 a0).wf = true) (w : World) :
    Calls Try.prog 5 #[.int .u16 a0] w fun e w' => e = .returned (.bool true) ∧ Keep [] w w' := by
  obtain ⟨h0, h1⟩ := bounds_u16 w0
  obtain ⟨n, rfl⟩ := Int.eq_ofNat_of_zero_le h0
  obtain ⟨k, hk⟩ : ∃ k : Nat, n % 512 = k := ⟨_, rfl⟩
  have hk5 : k < 512 := by omega
  have hki : (n : Int).tmod 512 = k := by rw [Int.tmod_eq_emod_of_nonneg (by omega)]; omega
  clear w0 hk h0
  go_enter Try.func5, Try.ntmps5
  go_wp2_with (first | (go_at_call 8; refine (hnew_any _).mono ?_; rintro e w1 ⟨b, rfl, hI1, hK1, hb⟩))
  go_loopw [4, 5, 6, 27] (fun i v5 v6 v27 wr => ∃ (u5 u6 u27 : Value) (j : Nat) (xs : List Int), u5 = v5 ∧ u6 = v6 ∧ u27 = v27 ∧ i = .int .i64 j ∧ j ≤ 512 ∧ Hid (IsHand wr b xs onesL) ∧ Hid (HOK 0 xs onesL) ∧ Hid (Pref xs j) ∧ Keep [b] w wr) (fun i _ _ _ _ => 512 - (intOf i).toNat)
  case atStart => exact ⟨_, _, _, 0, zeros 512, rfl, rfl, rfl, rfl, by omega, hI1, HOK.fresh, Pref.zeros, hK1.mono (by simp)⟩
  case round =>
    obtain ⟨u5, u6, u27, j, xs, rfl, rfl, rfl, rfl, hj, HI, HK, HP, hKw⟩ := hrel
    clear hI1 hK1
    by_cases hlt : j < 512
    · have HT := (show Hid (HoldT xs onesL (64 + (j : Int)) (512 + (j : Int)) 0 (xs.set j (64 + (j : Int)))) from .inr (.inr ⟨by omega, j, HP.out.free hlt, by rw [onesL_get j hlt]; omega, rfl, rfl⟩))
      go_upto_region 8 with (first | (go_at_call 12; refine (hhold b (64 + (j : Int)) (512 + (j : Int)) 0 xs onesL _ _ HI.out HK.out (by omega) (by omega) HT.out).mono ?_; rintro e w2 ⟨rfl, hI2, hK2⟩))
      go_wp2_with (first | (go_at_call 14; refine (err_any _ _).mono ?_; rintro e w' ⟨rfl, rfl⟩))
      go_roundw
      case rel => exact ⟨_, _, _, j + 1, _, rfl, rfl, rfl, by go_num, by omega, hI2, HT.out.ok HK.out (by omega), HP.out.set (by rw [HK.out.lx]; exact hlt) _ (by omega), hKw.trans hK2⟩
      case measure => simp [intOf]; omega
    · obtain rfl : j = 512 := by omega
      have HNF := (show Hid (NoFree xs) from HP.out.full)
      have HD := (show Hid (DropT xs onesL (512 + (k : Int)) 0 (xs.set k 0) (onesL.set k 2)) from .inr ⟨k, ⟨hk5, HP.out.yes k hk5, by rw [onesL_get k hk5]; omega⟩, rfl, rfl, by rw [onesL_get k hk5]; rfl⟩)
      have HK2 := (show Hid (HOK 1 (xs.set k 0) (onesL.set k 2)) from HD.out.ok HK.out)
      have HF2 := (show Hid (FreeAt (xs.set k 0) k) from ⟨hk5, set_get_same _ _ _ (by rw [HK.out.lx]; exact hk5), fun i hi => by rw [set_get_other _ _ _ _ (by omega)]; exact HP.out.yes i (by omega)⟩)
      have HT2 := (show Hid (HoldT (xs.set k 0) (onesL.set k 2) 9 (1024 + (k : Int)) 0 ((xs.set k 0).set k 9)) from .inr (.inr ⟨by omega, k, HF2.out, by rw [set_get_same _ _ _ (by unfold onesL; rw [List.length_replicate]; exact hk5)]; omega, rfl, rfl⟩))
      have HK3 := (show Hid (HOK 1 ((xs.set k 0).set k 9) (onesL.set k 2)) from HT2.out.ok HK2.out (by omega))
      go_upto_region 11 with (first | (go_at_call 12; refine (hhold b 7 0 3 xs onesL _ _ HI.out HK.out (by omega) (by omega) (.inr (.inl ⟨by omega, HNF.out, rfl, rfl, rfl⟩))).mono ?_; rintro e w2 ⟨rfl, hI2, hK2⟩))
      go_upto_region 13 with (first | (go_at_call 15; refine (hdrop b (512 + (k : Int)) 0 xs onesL _ _ _ hI2 HK.out (by omega) HD.out).mono ?_; rintro e w3 ⟨rfl, hI3, hK3⟩))
      go_upto_region 14 with (first | (go_at_call 12; refine (hhold b 9 (1024 + (k : Int)) 0 (xs.set k 0) (onesL.set k 2) _ _ hI3 HK2.out (by omega) (by omega) HT2.out).mono ?_; rintro e w4 ⟨rfl, hI4, hK4⟩))
      go_upto_region 15 with (first | (go_at_call 12; refine (hhold b 0 0 1 ((xs.set k 0).set k 9) (onesL.set k 2) _ _ hI4 HK3.out (by omega) (by omega) (.inl ⟨by omega, rfl, rfl, rfl⟩)).mono ?_; rintro e w5 ⟨rfl, hI5, hK5⟩))
      go_upto_region 17 with (first | (go_at_call 17; refine (hheld_nil _ _).mono ?_; rintro e w' ⟨rfl, rfl⟩))
      go_upto_region 18 with (first | (go_at_call 12; refine (hhold_nil _ _).mono ?_; rintro e w' ⟨rfl, rfl⟩))
      go_wp2_with (first
        | (go_at_call 15; refine (hdrop_nil _ _).mono ?_; rintro e w' ⟨rfl, rfl⟩)
        | (go_at_call 19; refine (hroom_nil _).mono ?_; rintro e w' ⟨rfl, rfl⟩)
        | (go_at_call 22; refine (hall_nil _).mono ?_; rintro e w' ⟨rfl, rfl⟩)
        | (go_at_call 14; refine (err_any _ _).mono ?_; rintro e w' ⟨rfl, rfl⟩)
        | (go_at_call 9; refine (awake10_any _).mono ?_; rintro e w8 ⟨rfl, hK8⟩))
      go_ret
      exact ⟨rfl, ((((hKw.trans hK2).trans hK3).trans hK4).trans (hK5.trans (hK8.mono (by simp)))).drop (by simp; omega)⟩

end Go.Proofs.Ytenggkgmbmboeaa.handleFull
