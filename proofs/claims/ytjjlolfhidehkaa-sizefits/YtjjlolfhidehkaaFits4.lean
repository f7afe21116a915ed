/-
  SizeFits answers true, whatever it is given.
-/
import Derived.Test.YtjjlolfhidehkaaAwake4
import Derived.ProofKit
import Derived.OpenShut
namespace Go.Proofs.Ytjjlolfhidehkaa
open Go.RowKit

theorem fits_small_dec : ∀ k : Fin 33, 1 ≤ k.val → ∃ j : Fin 5, classI k.val = j.val ∧ blockI k.val = sizesL[j.val]?.getD 0 ∧ (k.val : Int) ≤ sizesL[j.val]?.getD 0 ∧ (0 < j.val → sizesL[j.val - 1]?.getD 0 < (k.val : Int)) ∧ blockI ((k.val : Int) - 1) ≤ blockI k.val := by decide +kernel
theorem fits_small (k : Int) (h1 : 1 ≤ k) (h2 : k ≤ 32) : ∃ j : Nat, j < 5 ∧ classI k = j ∧ blockI k = sizesL[j]?.getD 0 ∧ k ≤ sizesL[j]?.getD 0 ∧ (0 < j → sizesL[j - 1]?.getD 0 < k) ∧ blockI (k - 1) ≤ blockI k := by
  obtain ⟨m, rfl⟩ := Int.eq_ofNat_of_zero_le (show 0 ≤ k by omega)
  obtain ⟨j, h⟩ := fits_small_dec ⟨m, by omega⟩ (show 1 ≤ m by omega)
  exact ⟨j.val, j.isLt, h⟩
theorem fits_large (k : Int) (h1 : 33 ≤ k) (h2 : k ≤ 1024) : ∃ p : Int, classI k = -1 ∧ pagesI k = p ∧ blockI k = p * 64 ∧ k ≤ p * 64 ∧ p * 64 < k + 64 ∧ 1 ≤ p ∧ p ≤ 16 ∧ blockI (k - 1) ≤ p * 64 := by
  have hc := class_none k (fun t _ => by have := sizes_le t; omega)
  have hp := pages_mid k h1 h2
  refine ⟨_, hc, rfl, block_none k hc, by omega, by omega, by omega, by omega, ?_⟩
  by_cases h : k = 33
  · subst h; decide
  · have hc2 := class_none (k - 1) (fun t _ => by have := sizes_le t; omega)
    have hp2 := pages_mid (k - 1) (by omega) (by omega)
    rw [block_none _ hc2]; omega
theorem fits_0 : blockI 0 = 0 := by decide
theorem fits_1025 : blockI 1025 = 0 := by decide
theorem fits_33 : classI 33 = -1 := by decide

set_option maxRecDepth 100000 in
set_option maxHeartbeats 1600000 in
theorem fits_any (n : Nat) (w : World) (hn : n < 65536) :
    Calls Try.prog 4 #[.int .u16 n] w fun e w' => e = .returned (.bool true) ∧ Keep [] w w' := by
  obtain ⟨k, hk, hk1, hk2⟩ : ∃ k : Int, 1 + (n : Int) % 1024 = k ∧ 1 ≤ k ∧ k ≤ 1024 := ⟨_, rfl, by omega, by omega⟩
  obtain ⟨B1, hB1⟩ : ∃ B1, blockI (k - 1) = B1 := ⟨_, rfl⟩
  by_cases h32 : k ≤ 32
  · obtain ⟨j, hj, hc, hb, hbk, hlow, hmono⟩ := fits_small k hk1 h32
    have hp := pages_class k h32
    have hs := sizes_le j
    rw [hB1, hb] at hmono
    obtain ⟨s, hs0⟩ : ∃ s, sizesL[j]?.getD 0 = s := ⟨_, rfl⟩
    have HL := (show Hid (0 < j → sizesL[j - 1]?.getD 0 < k) from hlow)
    rw [hs0] at hb hbk hs hmono
    have HS := (show Hid (sizesL[j]?.getD 0 = s) from hs0)
    clear hlow hs0
    have two : (s ≤ 2 * k ∨ 2 * k < s) := by omega
    rcases two with two | two
    all_goals
      rcases Nat.eq_zero_or_pos j with hj0 | hj0
      · subst hj0
        go_enter Try.func4, Try.ntmps4
        go_wp2_with fail
        refine (block_any k _).mono ?_
        rw [hb]; rintro e w1 ⟨rfl, hK1⟩
        go_wp2_with fail
        refine (class_any k _).mono ?_
        rw [hc]; rintro e w2 ⟨rfl, hK2⟩
        go_wp2_with fail
        refine (sizes_any _).mono ?_
        rintro e w3 ⟨g, rfl, hr, hK3, hg⟩
        have hx := hr.cell (i := 0) hj
        rw [HS.out] at hx
        have hK123 := (hK1.trans hK2).trans hK3
        go_wp2_with fail
        refine (pages_any k _).mono ?_
        rw [hp]; rintro e w4 ⟨rfl, hK4⟩
        go_wp2_with fail
        refine (block_any k _).mono ?_
        rw [hb]; rintro e w5 ⟨rfl, hK5⟩
        go_wp2_with fail
        refine (block_any (k - 1) _).mono ?_
        rw [hB1]; rintro e w6 ⟨rfl, hK6⟩
        go_wp2_with fail
        refine (block_any 0 _).mono ?_
        rw [fits_0]; rintro e w7 ⟨rfl, hK7⟩
        go_wp2_with fail
        refine (block_any 1025 _).mono ?_
        rw [fits_1025]; rintro e w8 ⟨rfl, hK8⟩
        go_wp2_with fail
        refine (class_any 33 _).mono ?_
        rw [fits_33]; rintro e w9 ⟨rfl, hK9⟩
        go_wp2_with fail
        refine (awake4_any _).mono ?_
        rintro e w10 ⟨rfl, hK10⟩
        go_wp2_with fail
        go_ret
        exact ⟨rfl, ((((((hK123.trans hK4).trans hK5).trans hK6).trans hK7).trans hK8).trans hK9).trans hK10⟩
      · obtain ⟨j1, hj1, hj2⟩ : ∃ j1 : Nat, (j : Int) - 1 = j1 ∧ j - 1 = j1 := ⟨j - 1, by omega, rfl⟩
        have hlow := HL.out hj0
        rw [hj2] at hlow
        have hj3 : j1 < 5 := by omega
        obtain ⟨t, ht⟩ : ∃ t, sizesL[j1]?.getD 0 = t := ⟨_, rfl⟩
        rw [ht] at hlow
        have HT := (show Hid (sizesL[j1]?.getD 0 = t) from ht)
        clear ht hj2
        go_enter Try.func4, Try.ntmps4
        go_wp2_with fail
        refine (block_any k _).mono ?_
        rw [hb]; rintro e w1 ⟨rfl, hK1⟩
        go_wp2_with fail
        refine (class_any k _).mono ?_
        rw [hc]; rintro e w2 ⟨rfl, hK2⟩
        go_wp2_with fail
        refine (sizes_any _).mono ?_
        rintro e w3 ⟨g, rfl, hr, hK3, hg⟩
        have hx := hr.cell (i := j) hj
        rw [HS.out] at hx
        have hx2 := hr.cell (i := j1) hj3
        rw [HT.out] at hx2
        have hK123 := (hK1.trans hK2).trans hK3
        go_wp2_with fail
        refine (pages_any k _).mono ?_
        rw [hp]; rintro e w4 ⟨rfl, hK4⟩
        go_wp2_with fail
        refine (block_any k _).mono ?_
        rw [hb]; rintro e w5 ⟨rfl, hK5⟩
        go_wp2_with fail
        refine (block_any (k - 1) _).mono ?_
        rw [hB1]; rintro e w6 ⟨rfl, hK6⟩
        go_wp2_with fail
        refine (block_any 0 _).mono ?_
        rw [fits_0]; rintro e w7 ⟨rfl, hK7⟩
        go_wp2_with fail
        refine (block_any 1025 _).mono ?_
        rw [fits_1025]; rintro e w8 ⟨rfl, hK8⟩
        go_wp2_with fail
        refine (class_any 33 _).mono ?_
        rw [fits_33]; rintro e w9 ⟨rfl, hK9⟩
        go_wp2_with fail
        refine (awake4_any _).mono ?_
        rintro e w10 ⟨rfl, hK10⟩
        go_wp2_with fail
        go_ret
        exact ⟨rfl, ((((((hK123.trans hK4).trans hK5).trans hK6).trans hK7).trans hK8).trans hK9).trans hK10⟩
  · obtain ⟨p, hc, hp, hb, hbk, hbk2, hp1, hp2, hmono⟩ := fits_large k (by omega) hk2
    rw [hB1] at hmono
    obtain ⟨s, hs⟩ : ∃ s, p * 64 = s := ⟨_, rfl⟩
    rw [hs] at hb hbk hbk2 hmono
    have hm : s % 64 = 0 := by omega
    have hq : s / 64 = p := by omega
    have hs1 : 0 ≤ s ∧ s ≤ 1024 := by omega
    clear hs
    have two : ((s ≤ 2 * k ∧ s ≤ 64) ∨ (s ≤ 2 * k ∧ 64 < s)) := by omega
    rcases two with ⟨two, t2⟩ | ⟨two, t2⟩
    all_goals
      go_enter Try.func4, Try.ntmps4
      go_wp2_with fail
      refine (block_any k _).mono ?_
      rw [hb]; rintro e w1 ⟨rfl, hK1⟩
      go_wp2_with fail
      refine (class_any k _).mono ?_
      rw [hc]; rintro e w2 ⟨rfl, hK2⟩
      have hK123 := hK1.trans hK2
      go_wp2_with fail
      refine (pages_any k _).mono ?_
      rw [hp]; rintro e w4 ⟨rfl, hK4⟩
      go_wp2_with fail
      refine (block_any k _).mono ?_
      rw [hb]; rintro e w5 ⟨rfl, hK5⟩
      go_wp2_with fail
      refine (block_any (k - 1) _).mono ?_
      rw [hB1]; rintro e w6 ⟨rfl, hK6⟩
      go_wp2_with fail
      refine (block_any 0 _).mono ?_
      rw [fits_0]; rintro e w7 ⟨rfl, hK7⟩
      go_wp2_with fail
      refine (block_any 1025 _).mono ?_
      rw [fits_1025]; rintro e w8 ⟨rfl, hK8⟩
      go_wp2_with fail
      refine (class_any 33 _).mono ?_
      rw [fits_33]; rintro e w9 ⟨rfl, hK9⟩
      go_wp2_with fail
      refine (awake4_any _).mono ?_
      rintro e w10 ⟨rfl, hK10⟩
      go_wp2_with fail
      go_ret
      exact ⟨rfl, ((((((hK123.trans hK4).trans hK5).trans hK6).trans hK7).trans hK8).trans hK9).trans hK10⟩

end Go.Proofs.Ytjjlolfhidehkaa

namespace Go.Proofs.Ytjjlolfhidehkaa.sizeFits
theorem walk (a0 : Int) (w0 : (Lit.int .u16 a0).wf = true) (w : World) :
    Calls Try.prog 4 #[.int .u16 a0] w fun e w' => e = .returned (.bool true) ∧ Keep [] w w' := by
  have b0 := bounds_u16 w0
  obtain ⟨n, rfl⟩ := Int.eq_ofNat_of_zero_le b0.1
  exact fits_any n w (by omega)
end Go.Proofs.Ytjjlolfhidehkaa.sizeFits
