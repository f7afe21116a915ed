/-
  SpaceRefuses answers true, whatever it is given.
-/
import Derived.Test.YtpollfcblpaicabSpaceHeld
import Derived.ProofKit
import Derived.OpenShut
namespace Go.Proofs.Ytpollfcblpaicab
open Go.RowKit

theorem block_ge (n : Int) (h1 : 1 ≤ n) (h2 : n ≤ 1024) : n ≤ blockI n := by
  rcases class_lt n with hc | ⟨c, hc, hc5⟩
  · have hn : 33 ≤ n := by
      have := class_iff n
      omega
    rw [block_none n hc, pages_mid n hn h2]; omega
  · rw [block_class n c hc]
    have := (class_iff n).1 (by omega)
    unfold classI at hc
    rw [if_neg (by omega)] at hc
    split at hc
    · obtain rfl : c = 0 := by omega
      assumption
    · split at hc
      · obtain rfl : c = 1 := by omega
        assumption
      · split at hc
        · obtain rfl : c = 2 := by omega
          assumption
        · split at hc
          · obtain rfl : c = 3 := by omega
            assumption
          · split at hc
            · obtain rfl : c = 4 := by omega
              assumption
            · omega
theorem block_out (n : Int) (h : n < 1 ∨ 1024 < n) : blockI n = 0 := by
  have hc : classI n = -1 := by
    rcases class_lt n with e | ⟨j, e, _⟩
    · exact e
    · have := (class_iff n).1 (by omega); omega
  rw [block_none n hc]
  rcases h with h | h
  · rw [pages_low n h]; rfl
  · rw [pages_high n h]; rfl
theorem used_fresh20 : usedK (freshK 20) = 0 := by decide +kernel

set_option maxRecDepth 100000 in
set_option maxHeartbeats 8000000 in
theorem refuses6_any (n : Nat) (odd : Int) (w : World) (hn : n < 256) (ho : -9223372036854775808 ≤ odd ∧ odd ≤ 9223372036854775807) :
    Calls Try.prog 3 #[.int .u8 n, .int .i64 odd] w fun e w' => e = .returned (.bool true) ∧ Keep [] w w' := by
  obtain ⟨a, ha⟩ : ∃ a : Int, (3 : Int) + n = a := ⟨_, rfl⟩
  have hab : 3 ≤ a ∧ a ≤ 258 := by omega
  obtain ⟨sa, hsa⟩ := Int.eq_ofNat_of_zero_le (block_le a).1
  have g1 := block_ge a (by omega) (by omega)
  have g2 := (block_le a).2
  rw [hsa] at g1 g2
  obtain ⟨k1, r1⟩ := fresh_alloc 20 sa a hsa (by omega) (by omega) (by omega)
  have hw0 := freshK_wf 20 (by omega) (by omega)
  obtain ⟨b', hb', _, hw1, hl1, _, _, _, hf⟩ := r1.spec hw0
  obtain rfl : sa = b' := by rw [hsa] at hb'; omega
  have HF := (show Hid (∀ x : Nat, findN k1 x = if 64 ≤ x ∧ x < 64 + sa then some (64, sa) else none) from fun x => by rw [hf x, freshK_find 20 x (by omega)])
  have HR := (show Hid (AllocR (freshK 20) a (some (64, k1))) from r1)
  have HB := (show Hid (blockI a = (sa : Nat)) from hsa)
  have HW := (show Hid (WF k1) from hw1)
  have HW0 := (show Hid (WF (freshK 20)) from hw0)
  have HU := (show Hid (usedK (freshK 20) = 0) from used_fresh20)
  have HT := (show Hid (foundV (findI (freshK 20) 64) = .tuple #[.int .i64 0, .int .i64 0, .bool false]) from by
    have : findI (freshK 20) 64 = none := by unfold findI; rw [if_neg (by omega)]; exact freshK_find 20 _ (by omega)
    show _ = _
    rw [this]; rfl)
  have HFD := (show Hid (foundV (findI k1 66) = .tuple #[.int .i64 64, .int .i64 sa, .bool true]) from by
    have : findI k1 66 = some (64, sa) := by
      unfold findI; rw [if_neg (by omega)]
      show findN k1 66 = _
      rw [HF.out, if_pos (by omega)]
    show _ = _
    rw [this]; rfl)
  have HFR := (show Hid (∀ o : Int, o ≠ 64 → ∀ s m, findI k1 o = some (s, m) → (s : Int) ≠ o) from fun o ho s m e => by
    unfold findI at e
    split at e
    · cases e
    · rw [HF.out] at e
      split at e
      · cases e; omega
      · cases e)
  clear r1 hsa hf hw0 hw1 hl1 hb'
  rcases (show (odd < 0 ∨ odd = 0 ∨ 0 < odd ∧ odd < 64 ∨ odd = 64 ∨ 64 < odd ∧ odd < 1025 ∨ odd = 1025 ∨ 1025 < odd) by omega) with o | o | o | o | o | o | o
  all_goals
    go_enter Try.func3, Try.ntmps3
    go_wp2_with fail
    refine (snew_ok 20 w (by omega) (by omega)).mono ?_
    rintro e w1 ⟨sb, F, rfl, hS, hK1, hsbF, hF⟩
    go_wp2_with fail
    refine (snew_ok 20 w1 (by omega) (by omega)).mono ?_
    rintro e w2 ⟨tb, G, rfl, hT, hK2, htbG, hG⟩
    have hS2 := hS.keep0 hK2
    obtain ⟨L, hL⟩ := id hS2
    have hc0 := hL.c0
    have hc1 := hL.c1
    have hFG : ∀ k, k ∈ G → k ∉ F := fun k e e' => by have := hG k e; have := hS.lt k e'; omega
    have hKa := hK1.trans hK2
    clear hL hS hK1 hK2 hsbF htbG
    go_wp2_with (go_at_call 6; refine (err_any _ _).mono ?_; rintro e w' ⟨rfl, rfl⟩)
    clear hc0 hc1
    refine (salloc_yes sb 64 sa a F _ _ _ w2 hS2 HW0.out HR.out HB.out).mono ?_
    rintro e w3 ⟨F', rfl, hS3, hK3, hG3⟩
    have hT3 := hT.keep hK3 hFG
    have hKb : Keep [] w w3 := ((hKa.mono (by simp)).trans hK3).drop (fun k e hlt => by have := hF k e; omega)
    clear hT hK3 hS2 hKa hG3 hFG hG
    go_wp2_with (go_at_call 6; refine (err_any _ _).mono ?_; rintro e w' ⟨rfl, rfl⟩)
    refine (salloc_arg sb _ w3 (block_out _ (by omega))).mono ?_
    rintro e w4 ⟨rfl, hK4⟩
    go_wp2_with (go_at_call 6; refine (err_any _ _).mono ?_; rintro e w' ⟨rfl, rfl⟩)
    refine (salloc_arg sb _ w4 (block_out _ (by omega))).mono ?_
    rintro e w5 ⟨rfl, hK5⟩
    have hS5 := hS3.keep0 (hK4.trans hK5)
    go_wp2_with (go_at_call 6; refine (err_any _ _).mono ?_; rintro e w' ⟨rfl, rfl⟩)
    refine (sfree_no sb F' _ _ _ w5 hS5 HW.out (HFR.out _ (by omega))).mono ?_
    rintro e w6 ⟨rfl, hK6⟩
    have hS6 := hS5.keep0 hK6
    go_wp2_with (go_at_call 6; refine (err_any _ _).mono ?_; rintro e w' ⟨rfl, rfl⟩)
    refine (sfree_no sb F' _ _ _ w6 hS6 HW.out (HFR.out _ (by omega))).mono ?_
    rintro e w7 ⟨rfl, hK7⟩
    have hS7 := hS6.keep0 hK7
    go_wp2_with (go_at_call 6; refine (err_any _ _).mono ?_; rintro e w' ⟨rfl, rfl⟩)
    refine (sfind_any sb F' 66 _ _ w7 hS7 HW.out).mono ?_
    rw [HFD.out]
    rintro e w8 ⟨rfl, hK8⟩
    have hKc := ((hK4.trans hK5).trans hK6).trans (hK7.trans hK8)
    have hT8 := hT3.keep0 hKc
    clear hS3 hS5 hS6 hS7 hT3 hK4 hK5 hK6 hK7 hK8
    go_wp2_with (go_at_call 6; refine (err_any _ _).mono ?_; rintro e w' ⟨rfl, rfl⟩)
    refine (sfind_any tb G 64 _ _ w8 hT8 HW0.out).mono ?_
    rw [HT.out]
    rintro e w10 ⟨rfl, hK10⟩
    have hT10 := hT8.keep0 hK10
    go_wp2_with (first | (go_at_call 6; refine (err_any _ _).mono ?_; rintro e w' ⟨rfl, rfl⟩) | (go_at_call 10; refine (sused_any tb G _ _ w10 hT10 HW0.out).mono ?_; rw [HU.out]; rintro e w11 ⟨rfl, hK11⟩) | (go_at_call 11; refine (awake6_any _).mono ?_; rintro e w9 ⟨rfl, hK9⟩))
    go_ret
    exact ⟨rfl, (((hKb.trans hKc).trans hK10).trans hK11).trans hK9⟩

end Go.Proofs.Ytpollfcblpaicab

namespace Go.Proofs.Ytpollfcblpaicab.spaceRefuses
open Go.RowKit
theorem walk (a0 a1 : Int) (w0 : (Lit.int .u8 a0).wf = true) (w1 : (Lit.int .i64 a1).wf = true) (w : World) :
    Calls Try.prog 3 #[.int .u8 a0, .int .i64 a1] w fun e w' => e = .returned (.bool true) ∧ Keep [] w w' := by
  have h0 := bounds_u8 w0
  have h1 := bounds_i64 w1
  obtain ⟨a, rfl⟩ := Int.eq_ofNat_of_zero_le h0.1
  exact refuses6_any a a1 w (by omega) h1
end Go.Proofs.Ytpollfcblpaicab.spaceRefuses
