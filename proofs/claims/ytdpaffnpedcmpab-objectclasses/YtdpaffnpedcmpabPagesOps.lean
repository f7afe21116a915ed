/-
  Take, Give and Left of package pages, whatever they are given.
-/
import Derived.Test.YtdpaffnpedcmpabPages
namespace Go.Proofs.Ytdpaffnpedcmpab
open Go.RowKit

set_option maxHeartbeats 400000 in
theorem ptake_nil (k : Int) (w : World) :
    Calls Try.prog 71 #[.pointer none, .int .i64 k] w fun e w' => e = .returned (.tuple #[.int .i64 0, .int .i64 2]) ∧ w = w' := by
  go_enter Try.func71, Try.ntmps71
  go_wp2
  go_ret2
  exact ⟨rfl, rfl⟩
set_option maxHeartbeats 400000 in
theorem pgive_nil (a k : Int) (w : World) :
    Calls Try.prog 52 #[.pointer none, .int .i64 a, .int .i64 k] w fun e w' => e = .returned (.int .i64 2) ∧ w = w' := by
  go_enter Try.func52, Try.ntmps52
  go_wp2
  go_ret
  exact ⟨rfl, rfl⟩
set_option maxHeartbeats 400000 in
theorem ptake_low (pb : Nat) (k : Int) (w : World) (hk : k < 1) :
    Calls Try.prog 71 #[.pointer (some ⟨pb, 0, none⟩), .int .i64 k] w fun e w' => e = .returned (.tuple #[.int .i64 0, .int .i64 1]) ∧ w = w' := by
  go_enter Try.func71, Try.ntmps71
  go_wp2
  go_ret2
  exact ⟨rfl, rfl⟩
set_option maxHeartbeats 400000 in
theorem ptake_no (pb b g k : Nat) (xs : List Bool) (w : World) (hp : IsPages w pb b g xs) (hk1 : 1 ≤ k) (hk2 : (k : Int) ≤ 9223372036854775807) (h : runR xs 0 k = -1) :
    Calls Try.prog 71 #[.pointer (some ⟨pb, 0, none⟩), .int .i64 k] w fun e w' => e = .returned (.tuple #[.int .i64 0, .int .i64 3]) ∧ w = w' := by
  have hc := hp.cell
  have hA := hp.bits
  have HR := (show Hid (runR xs (0 : Int).toNat k = -1) from h)
  have hkd : decide ((k : Int) < 1) = false := by rw [decide_eq_false_iff_not]; omega
  clear hp h
  go_enter Try.func71, Try.ntmps71
  go_wp2_with (go_at_call 76; refine (brun_core _ _ k 0 _ _ hA (by omega) hk1 hk2).mono ?_; rw [HR.out]; rintro e w' ⟨rfl, rfl⟩)
  go_ret2
  exact ⟨rfl, rfl⟩
set_option maxHeartbeats 800000 in
theorem ptake_yes (pb b g k p : Nat) (xs : List Bool) (w : World) (hp : IsPages w pb b g xs) (hk1 : 1 ≤ k) (h : runR xs 0 k = p) (hl : p + k ≤ xs.length) :
    Calls Try.prog 71 #[.pointer (some ⟨pb, 0, none⟩), .int .i64 k] w fun e w' => e = .returned (.tuple #[.int .i64 p, .int .i64 0]) ∧ IsPages w' pb b g (putR xs p k true) ∧ Keep [g] w w' := by
  have hn := hp.bits.len
  have hc := hp.cell
  have hA := hp.bits
  have HR := (show Hid (runR xs (0 : Int).toNat k = p) from h)
  have hkd : decide ((k : Int) < 1) = false := by rw [decide_eq_false_iff_not]; omega
  have hpd : decide ((p : Int) < 0) = false := by rw [decide_eq_false_iff_not]; omega
  clear h
  go_enter Try.func71, Try.ntmps71
  go_wp2_with (go_at_call 76; refine (brun_core _ _ k 0 _ _ hA (by omega) hk1 (by omega)).mono ?_; rw [HR.out]; rintro e w' ⟨rfl, rfl⟩)
  have hp1 := hp.drew
  have hc1 := hp1.cell
  have hlt := hp1.lt
  have hK0 := Keep.drew [g] w
  clear hp hA
  go_region_held3 (fun wz => wz.cell? ⟨pb, 0, none⟩ = some (.pointer (some ⟨b, 0, none⟩))) (go_keep) (first | (go_at_call 67; refine (prow_any p k _ (by omega) (by omega)).mono ?_; rintro e w2 ⟨z, rfl, hI2, hK2, hz⟩; have hp2 := hp1.keep hK2 (by simp) (by simp) (by simp); have hc2 := hp2.cell) | (go_at_call 56; refine (bset_yes' b g k k true xs _ (rowL p k) _ (rowL_length p k) hp2.bits hI2 (fun _ a e => by cases e; simp; omega) (by omega) (rowL_fitsB p k _ hl)).mono ?_; rintro e w3 ⟨rfl, hA3, hK3⟩; have hp3 := hp2.other hK3 hA3; have hc3 := hp3.cell))
  have HP := (show Hid (IsPages w3 pb b g (putR xs p k true)) from hp3)
  have hK4 := (hK0.trans (hK2.mono (T := [g]) (by simp))).trans hK3
  clear hp3 hp2 hp1 hA3
  go_wp2
  go_ret2
  exact ⟨rfl, HP.out, hK4⟩
theorem ptake_any (pb b g : Nat) (k : Int) (xs : List Bool) (w : World) (hp : IsPages w pb b g xs) (hk2 : k ≤ 9223372036854775807) :
    Calls Try.prog 71 #[.pointer (some ⟨pb, 0, none⟩), .int .i64 k] w fun e w' => e = .returned (.tuple #[.int .i64 (takeN xs k), .int .i64 (takeE xs k)]) ∧ IsPages w' pb b g (takeR xs k) ∧ Keep [g] w w' := by
  by_cases h : k < 1
  · obtain ⟨e1, e2, e3⟩ := take_low xs k h
    rw [e1, e2, e3]
    refine (ptake_low pb k w h).mono ?_
    rintro e w' ⟨rfl, rfl⟩
    exact ⟨rfl, hp, Keep.refl _ _⟩
  · obtain ⟨m, rfl⟩ := Int.eq_ofNat_of_zero_le (show 0 ≤ k by omega)
    rcases runR_spec xs m (by omega) _ 0 rfl with ⟨hr, _⟩ | ⟨j, hr, _, hcl, _⟩
    · obtain ⟨e1, e2, e3⟩ := take_no xs m (by omega) hr
      rw [e1, e2, e3]
      refine (ptake_no pb b g m xs w hp (by omega) hk2 hr).mono ?_
      rintro e w' ⟨rfl, rfl⟩
      exact ⟨rfl, hp, Keep.refl _ _⟩
    · obtain ⟨e1, e2, e3⟩ := take_yes xs m j (by omega) hr
      rw [e1, e2, e3]
      exact ptake_yes pb b g m j xs w hp (by omega) hr hcl.1

set_option maxHeartbeats 400000 in
theorem pgive_arg (pb : Nat) (a k : Int) (w : World) (h : k < 1 ∨ a < 1) :
    Calls Try.prog 52 #[.pointer (some ⟨pb, 0, none⟩), .int .i64 a, .int .i64 k] w fun e w' => e = .returned (.int .i64 1) ∧ w = w' := by
  rcases (show k < 1 ∨ 1 ≤ k ∧ a < 1 by omega) with h1 | ⟨h0, h1⟩
  all_goals
    go_enter Try.func52, Try.ntmps52
    go_wp2
    go_ret
    exact ⟨rfl, rfl⟩
set_option maxHeartbeats 400000 in
theorem pgive_no (pb b g a k : Nat) (xs : List Bool) (w : World) (hp : IsPages w pb b g xs) (ha1 : 1 ≤ a) (ha : (a : Int) ≤ 9223372036854775807) (hk1 : 1 ≤ k) (hk : (k : Int) ≤ 9223372036854775807) (h : fullB xs a k = false) :
    Calls Try.prog 52 #[.pointer (some ⟨pb, 0, none⟩), .int .i64 a, .int .i64 k] w fun e w' => e = .returned (.int .i64 2) ∧ w = w' := by
  have hkd : decide ((k : Int) < 1) = false := by rw [decide_eq_false_iff_not]; omega
  have had : decide ((a : Int) < 1) = false := by rw [decide_eq_false_iff_not]; omega
  go_enter Try.func52, Try.ntmps52
  go_wp2_with (go_at_call 66; refine (ptaken_any _ _ _ a k _ _ hp ha1 ha hk1 hk).mono ?_; rw [h]; rintro e w' ⟨rfl, rfl⟩)
  go_ret
  exact ⟨rfl, rfl⟩
set_option maxHeartbeats 800000 in
theorem pgive_yes (pb b g a k : Nat) (xs : List Bool) (w : World) (hp : IsPages w pb b g xs) (ha1 : 1 ≤ a) (hk1 : 1 ≤ k) (h : fullB xs a k = true) :
    Calls Try.prog 52 #[.pointer (some ⟨pb, 0, none⟩), .int .i64 a, .int .i64 k] w fun e w' => e = .returned (.int .i64 0) ∧ IsPages w' pb b g (putR xs a k false) ∧ Keep [g] w w' := by
  have hn := hp.bits.len
  have hl := fullB_len _ _ _ h
  have hkd : decide ((k : Int) < 1) = false := by rw [decide_eq_false_iff_not]; omega
  have had : decide ((a : Int) < 1) = false := by rw [decide_eq_false_iff_not]; omega
  go_enter Try.func52, Try.ntmps52
  go_wp2_with (go_at_call 66; refine (ptaken_any _ _ _ a k _ _ hp ha1 (by omega) hk1 (by omega)).mono ?_; rw [h]; rintro e w' ⟨rfl, rfl⟩)
  have hc := hp.cell
  have hp1 := hp.drew
  have hc1 := hp1.cell
  have hlt := hp1.lt
  have hK0 := Keep.drew [g] w
  clear hp
  go_region_held3 (fun wz => wz.cell? ⟨pb, 0, none⟩ = some (.pointer (some ⟨b, 0, none⟩))) (go_keep) (first | (go_at_call 67; refine (prow_any a k _ (by omega) (by omega)).mono ?_; rintro e w2 ⟨z, rfl, hI2, hK2, hz⟩; have hp2 := hp1.keep hK2 (by simp) (by simp) (by simp); have hc2 := hp2.cell) | (go_at_call 56; refine (bset_yes' b g k k false xs _ (rowL a k) _ (rowL_length a k) hp2.bits hI2 (fun _ a e => by cases e; simp; omega) (by omega) (rowL_fitsB a k _ hl)).mono ?_; rintro e w3 ⟨rfl, hA3, hK3⟩; have hp3 := hp2.other hK3 hA3; have hc3 := hp3.cell))
  have HP := (show Hid (IsPages w3 pb b g (putR xs a k false)) from hp3)
  have hK4 := (hK0.trans (hK2.mono (T := [g]) (by simp))).trans hK3
  clear hp3 hp2 hp1 hA3
  go_wp2
  go_ret
  exact ⟨rfl, HP.out, hK4⟩
theorem pgive_any (pb b g : Nat) (a k : Int) (xs : List Bool) (w : World) (hp : IsPages w pb b g xs) (ha2 : a ≤ 9223372036854775807) (hk2 : k ≤ 9223372036854775807) :
    Calls Try.prog 52 #[.pointer (some ⟨pb, 0, none⟩), .int .i64 a, .int .i64 k] w fun e w' => e = .returned (.int .i64 (giveE xs a k)) ∧ IsPages w' pb b g (giveR xs a k) ∧ Keep [g] w w' := by
  by_cases h : k < 1 ∨ a < 1
  · obtain ⟨e1, e2⟩ := give_arg xs a k h
    rw [e1, e2]
    refine (pgive_arg pb a k w h).mono ?_
    rintro e w' ⟨rfl, rfl⟩
    exact ⟨rfl, hp, Keep.refl _ _⟩
  · obtain ⟨m, rfl⟩ := Int.eq_ofNat_of_zero_le (show 0 ≤ k by omega)
    obtain ⟨c, rfl⟩ := Int.eq_ofNat_of_zero_le (show 0 ≤ a by omega)
    cases hf : fullB xs c m
    · obtain ⟨e1, e2⟩ := give_no xs c m (by omega) (by omega) hf
      rw [e1, e2]
      refine (pgive_no pb b g c m xs w hp (by omega) ha2 (by omega) hk2 hf).mono ?_
      rintro e w' ⟨rfl, rfl⟩
      exact ⟨rfl, hp, Keep.refl _ _⟩
    · obtain ⟨e1, e2⟩ := give_yes xs c m (by omega) (by omega) hf
      rw [e1, e2]
      exact pgive_yes pb b g c m xs w hp (by omega) (by omega) hf

end Go.Proofs.Ytdpaffnpedcmpab
