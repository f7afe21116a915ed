/-
  RootTwo: two do not touch one another; set again a root is the later one; set to 0 it is none.
-/
import Derived.Test.YtiknghbfigophaaAwake11
import Derived.Deep.CutRange
namespace Go.Proofs.Ytiknghbfigophaa.rootTwo
open Go.RowKit

set_option maxRecDepth 100000 in
set_option maxHeartbeats 3200000 in
theorem core (i x y : Nat) (w : World) (h0 : i ≤ 255) (h1 : x ≤ 65535) (h2 : y ≤ 65535) :
    Calls Try.prog 6 #[.int .u8 i, .int .u16 x, .int .u16 y] w fun e w' => e = .returned (.bool true) ∧ Keep [] w w' := by
  obtain ⟨k, hk⟩ : ∃ k : Nat, i % 16 = k := ⟨_, rfl⟩
  have hk5 : k < 16 := by omega
  have hki : (i : Int).tmod 16 = k := by rw [Int.tmod_eq_emod_of_nonneg (by omega)]; omega
  have T1 := (show Hid (PlaceT (zeros 16) k x 0 ((zeros 16).set k x)) from .inr ⟨k, hk5, rfl, by omega, rfl, rfl⟩)
  have T2 := (show Hid (PlaceT ((zeros 16).set k x) k y 0 (((zeros 16).set k x).set k y)) from .inr ⟨k, hk5, rfl, by omega, rfl, rfl⟩)
  have T3 := (show Hid (RootT (((zeros 16).set k x).set k y) k y 0) from .inr ⟨k, hk5, rfl, by rw [set_get_same _ _ _ (by rw [List.length_set, zeros_length]; exact hk5)], rfl⟩)
  have T4 := (show Hid (RootT (zeros 16) k 0 0) from .inr ⟨k, hk5, rfl, by rw [zeros_get], rfl⟩)
  have T5 := (show Hid (PlaceT (((zeros 16).set k x).set k y) k 0 0 ((((zeros 16).set k x).set k y).set k 0)) from .inr ⟨k, hk5, rfl, by omega, rfl, rfl⟩)
  have T6 := (show Hid (RootT ((((zeros 16).set k x).set k y).set k 0) k 0 0) from .inr ⟨k, hk5, rfl, by rw [set_get_same _ _ _ (by rw [List.length_set, List.length_set, zeros_length]; exact hk5)], rfl⟩)
  clear hk
  go_enter Try.func6, Try.ntmps6
  go_wp2_with fail
  refine (onew_any _).mono ?_
  rintro e w1 ⟨ba, rfl, hA1, hK1, hba⟩
  go_wp2_with fail
  refine (onew_any _).mono ?_
  rintro e w2 ⟨bb, rfl, hB2, hK2, hbb⟩
  have hab : ba ≠ bb := by have := hA1.lt; omega
  have hA2 := hA1.keep hK2 (by simp)
  have hbb2 : w.heap.size ≤ bb := Nat.le_trans hK1.size hbb
  have hK2w := hK1.trans hK2
  clear hA1 hK1 hK2 hbb
  go_wp2_with fail
  refine (oplace ba k x 0 _ _ _ hA2 (by omega) T1.out).mono ?_
  rintro e w3 ⟨rfl, hA3, hK3⟩
  have hB3 := hB2.keep hK3 (by simp; omega)
  clear hA2 hB2
  go_wp2_with fail
  refine (oplace ba k y 0 _ _ _ hA3 (by omega) T2.out).mono ?_
  rintro e w4 ⟨rfl, hA4, hK4⟩
  have hB4 := hB3.keep hK4 (by simp; omega)
  clear hA3 hB3
  go_wp2_with fail
  refine (oroot ba k y 0 _ _ hA4 T3.out).mono ?_
  rintro e w' ⟨rfl, rfl⟩
  go_wp2_with fail
  refine (oroot bb k 0 0 _ _ hB4 T4.out).mono ?_
  rintro e w' ⟨rfl, rfl⟩
  go_wp2_with fail
  refine (oplace ba k 0 0 _ _ _ hA4 (by omega) T5.out).mono ?_
  rintro e w5 ⟨rfl, hA5, hK5⟩
  clear hA4 hB4
  go_wp2_with fail
  refine (oroot ba k 0 0 _ _ hA5 T6.out).mono ?_
  rintro e w' ⟨rfl, rfl⟩
  have hKw := (((hK2w.mono (T := [ba]) (by simp)).trans hK3).trans hK4).trans hK5
  clear hK2w hK3 hK4 hK5 hki T1 T2 T3 T4 T5 T6
  obtain ⟨xs, hxs⟩ : ∃ xs, (((zeros 16).set k (x : Int)).set k (y : Int)).set k 0 = xs := ⟨_, rfl⟩
  rw [hxs] at hA5
  clear hxs
  go_wp2_with (go_at_call 8; refine (err_any _ _).mono ?_; rintro e w' ⟨rfl, rfl⟩)
  refine (oplace ba 16 1 1 xs xs _ hA5 (by omega) (.inl ⟨by omega, rfl, rfl⟩)).mono ?_
  rintro e w6 ⟨rfl, hA6, hK6⟩
  clear hA5
  go_wp2_with (go_at_call 8; refine (err_any _ _).mono ?_; rintro e w' ⟨rfl, rfl⟩)
  refine (oplace ba 0 (-1) 1 xs xs _ hA6 (by omega) (.inl ⟨by omega, rfl, rfl⟩)).mono ?_
  rintro e w7 ⟨rfl, hA7, hK7⟩
  go_wp2_with (first | (go_at_call 8; refine (err_any _ _).mono ?_; rintro e w' ⟨rfl, rfl⟩) | (go_at_call 13; refine (awake11_any _).mono ?_; rintro e w8 ⟨rfl, hK8⟩))
  go_ret
  exact ⟨rfl, (((hKw.trans hK6).trans hK7).trans (hK8.mono (by simp))).drop (by simp; omega)⟩

theorem walk (a0 a1 a2 : Int) (w0 : (Lit.int .u8 a0).wf = true) (w1 : (Lit.int .u16 a1).wf = true) (w2 : (Lit.int .u16 a2).wf = true) (w : World) :
    Calls Try.prog 6 #[.int .u8 a0, .int .u16 a1, .int .u16 a2] w fun e w' => e = .returned (.bool true) ∧ Keep [] w w' := by
  obtain ⟨h0, h1⟩ := bounds_u8 w0
  obtain ⟨h2, h3⟩ := bounds_u16 w1
  obtain ⟨h4, h5⟩ := bounds_u16 w2
  obtain ⟨i, rfl⟩ := Int.eq_ofNat_of_zero_le h0
  obtain ⟨x, rfl⟩ := Int.eq_ofNat_of_zero_le h2
  obtain ⟨y, rfl⟩ := Int.eq_ofNat_of_zero_le h4
  exact core i x y w (by omega) (by omega) (by omega)

end Go.Proofs.Ytiknghbfigophaa.rootTwo
