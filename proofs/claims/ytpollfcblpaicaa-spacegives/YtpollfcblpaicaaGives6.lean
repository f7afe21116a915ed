/-
  SpaceGives answers true, whatever it is given.
-/
import Derived.Test.YtpollfcblpaicaaSpaceHeld
import Derived.ProofKit
import Derived.OpenShut
namespace Go.Proofs.Ytpollfcblpaicaa
open Go.RowKit

theorem gives_small (n m : Int) (h1 : classI n = 0) (h2 : classI m = 0) : ∃ k1 k2 k3, AllocR (freshK 2) n (some (64, k1)) ∧ AllocR k1 m (some (66, k2)) ∧ findN k2 64 = some (64, 2) ∧ FreeR k2 64 k3 ∧ AllocR k3 64 none ∧ findN k3 66 = some (66, 2) ∧ FreeR k3 66 (freshK 2) := by
  refine ⟨_, _, _, fresh_small 2 0 n (by omega) h1, .old 0 1 1 ((offs (roomOf 0)).set 0 true) h2 (by decide +kernel) rfl (by decide +kernel) (by decide +kernel), by decide +kernel,
    .one 0 (((offs (roomOf 0)).set 0 true).set 1 true) rfl (by decide +kernel) (by decide +kernel) (by decide +kernel), .over 1 (by decide +kernel) (by decide +kernel) (by omega) (by decide +kernel), by decide +kernel, ?_⟩
  exact .last 0 ((((offs (roomOf 0)).set 0 true).set 1 true).set 0 false) rfl (by decide +kernel) (by decide +kernel) (by decide +kernel)
theorem gives_other (n m : Int) (c : Nat) (h1 : classI n = c) (hc : 1 ≤ c) (hc5 : c < 5) (h2 : classI m = 0) : ∃ k1 s, AllocR (freshK 2) n (some (64, k1)) ∧ AllocR k1 m none ∧ AllocR k1 64 none ∧ findN k1 64 = some (64, s) ∧ FreeR k1 64 (freshK 2) := by
  rcases (show c = 1 ∨ c = 2 ∨ c = 3 ∨ c = 4 by omega) with rfl | rfl | rfl | rfl
  · exact ⟨_, 4, fresh_small 2 1 n (by omega) h1, .full 0 h2 (by decide +kernel) (by decide +kernel), .over 1 (by decide +kernel) (by decide +kernel) (by omega) (by decide +kernel), by decide +kernel, .last 1 ((offs (roomOf 1)).set 0 true) rfl (by decide +kernel) (by decide +kernel) (by decide +kernel)⟩
  · exact ⟨_, 8, fresh_small 2 2 n (by omega) h1, .full 0 h2 (by decide +kernel) (by decide +kernel), .over 1 (by decide +kernel) (by decide +kernel) (by omega) (by decide +kernel), by decide +kernel, .last 2 ((offs (roomOf 2)).set 0 true) rfl (by decide +kernel) (by decide +kernel) (by decide +kernel)⟩
  · exact ⟨_, 16, fresh_small 2 3 n (by omega) h1, .full 0 h2 (by decide +kernel) (by decide +kernel), .over 1 (by decide +kernel) (by decide +kernel) (by omega) (by decide +kernel), by decide +kernel, .last 3 ((offs (roomOf 3)).set 0 true) rfl (by decide +kernel) (by decide +kernel) (by decide +kernel)⟩
  · exact ⟨_, 32, fresh_small 2 4 n (by omega) h1, .full 0 h2 (by decide +kernel) (by decide +kernel), .over 1 (by decide +kernel) (by decide +kernel) (by omega) (by decide +kernel), by decide +kernel, .last 4 ((offs (roomOf 4)).set 0 true) rfl (by decide +kernel) (by decide +kernel) (by decide +kernel)⟩
theorem gives_large : AllocR (freshK 2) 64 (some (64, putParts (freshK 2) 1 1)) := fresh_large 2 1 64 (by omega) (by omega) (by decide +kernel) (by decide +kernel)
theorem gives_used : usedK (putParts (freshK 2) 1 1) = 64 := by decide +kernel

set_option maxRecDepth 100000 in
set_option maxHeartbeats 4000000 in
theorem gives6_any (n : Nat) (last : Bool) (w : World) (hn : n < 256) :
    Calls Try.prog 8 #[.int .u8 n, .bool last] w fun e w' => e = .returned (.bool true) ∧ Keep [] w w' := by
  obtain ⟨x, hx⟩ : ∃ x : Nat, n % 32 = x := ⟨_, rfl⟩
  have hx1 : (n : Int) % 32 = x := by omega
  have hx2 : (n : Int).tmod 32 = x := by rw [Int.tmod_eq_emod_of_nonneg (by omega)]; exact hx1
  have hxb : x < 32 := by omega
  obtain ⟨y, hy⟩ : ∃ y : Nat, x % 2 = y := ⟨_, rfl⟩
  have hy1 : (x : Int) % 2 = y := by omega
  have hy2 : (x : Int).tmod 2 = y := by rw [Int.tmod_eq_emod_of_nonneg (by omega)]; exact hy1
  have hyb : y < 2 := by omega
  obtain ⟨wd, hwd⟩ : ∃ wd : Int, (1 : Int) + x = wd := ⟨_, rfl⟩
  have hw1 : wd - 1 = x := by omega
  have hwb : 1 ≤ wd ∧ wd ≤ 32 := by omega
  obtain ⟨m, hm⟩ : ∃ m : Int, (1 : Int) + y = m := ⟨_, rfl⟩
  have hmb : 1 ≤ m ∧ m ≤ 2 := by omega
  have hm0 : classI m = 0 := by unfold classI; rw [if_neg (by omega), if_pos (by omega)]
  have HM := (show Hid (blockI m = 2) from by show _ = _; rw [block_class m 0 hm0]; rfl)
  have HL := (show Hid (AllocR (freshK 2) 64 (some (64, putParts (freshK 2) 1 1))) from gives_large)
  have HU := (show Hid (usedK (putParts (freshK 2) 1 1) = 64) from gives_used)
  have HM0 := (show Hid (blockI m ≠ 0) from by show _ ≠ _; rw [HM.out]; omega)
  have HB64 := (show Hid (blockI 64 = (64 : Nat)) from rfl)
  have HB65 := (show Hid (blockI 64 ≠ 0) from by show _ ≠ _; rw [HB64.out]; omega)
  clear hx hy
  by_cases h2 : wd ≤ 2
  · have hc0 : classI wd = 0 := by unfold classI; rw [if_neg (by omega), if_pos h2]
    obtain ⟨k1, k2, k3, r1, r2, f1, r3, r4, f2, r5⟩ := gives_small wd m hc0 hm0
    have HF := (show Hid (AllocR (freshK 2) wd (some (64, k1)) ∧ AllocR k1 m (some (66, k2)) ∧ findN k2 64 = some (64, 2) ∧ FreeR k2 64 k3 ∧ AllocR k3 64 none ∧ findN k3 66 = some (66, 2) ∧ FreeR k3 66 (freshK 2)) from ⟨r1, r2, f1, r3, r4, f2, r5⟩)
    have HW := (show Hid (blockI wd = (2 : Nat)) from by show _ = _; rw [block_class wd 0 hc0]; rfl)
    clear r1 r2 f1 r3 r4 f2 r5 hc0 hm0
    go_enter Try.func8, Try.ntmps8
    go_wp2_with fail
    refine (hnew 2 w w (Keep.refl _ _) (by omega) (by omega)).mono ?_
    rintro e w1 ⟨sb, rfl, hH⟩
    obtain ⟨ab, hc0⟩ := hH.c0
    obtain ⟨pb, hc1⟩ := hH.c1
    cases last
    · go_wp2_with (first | (go_at_call 10; refine (err_any _ _).mono ?_; rintro e w' ⟨rfl, rfl⟩))
      refine (halloc_yes sb 64 2 wd _ _ _ w1 hH HF.out.1 HW.out).mono ?_
      rintro e w2 ⟨rfl, hH2⟩
      clear hc0 hc1 hH
      go_wp2_with (first | (go_at_call 10; refine (err_any _ _).mono ?_; rintro e w' ⟨rfl, rfl⟩))
      refine (halloc_yes sb 66 2 m _ _ _ w2 hH2 HF.out.2.1 HM.out).mono ?_
      rintro e w3 ⟨rfl, hH3⟩
      go_wp2_with (first | (go_at_call 10; refine (err_any _ _).mono ?_; rintro e w' ⟨rfl, rfl⟩))
      refine (hfree_yes sb 64 2 _ _ _ w3 hH3 HF.out.2.2.1 HF.out.2.2.2.1).mono ?_
      rintro e w4 ⟨rfl, hH4⟩
      go_wp2_with (first | (go_at_call 10; refine (err_any _ _).mono ?_; rintro e w' ⟨rfl, rfl⟩))
      refine (halloc_no sb 64 _ _ w4 hH4 HF.out.2.2.2.2.1 HB65.out).mono ?_
      rintro e w5 ⟨rfl, hH5⟩
      go_wp2_with (first | (go_at_call 10; refine (err_any _ _).mono ?_; rintro e w' ⟨rfl, rfl⟩))
      refine (halloc_no sb 64 _ _ w5 hH5 HF.out.2.2.2.2.1 HB65.out).mono ?_
      rintro e w7 ⟨rfl, hH7⟩
      go_wp2_with (first | (go_at_call 10; refine (err_any _ _).mono ?_; rintro e w' ⟨rfl, rfl⟩) | (go_at_call 11; refine (awake6_any _).mono ?_; rintro e w9 ⟨rfl, hK9⟩))
      go_ret
      exact ⟨rfl, hH7.K.trans hK9⟩
    · go_wp2_with (first | (go_at_call 10; refine (err_any _ _).mono ?_; rintro e w' ⟨rfl, rfl⟩))
      refine (halloc_yes sb 64 2 wd _ _ _ w1 hH HF.out.1 HW.out).mono ?_
      rintro e w2 ⟨rfl, hH2⟩
      clear hc0 hc1 hH
      go_wp2_with (first | (go_at_call 10; refine (err_any _ _).mono ?_; rintro e w' ⟨rfl, rfl⟩))
      refine (halloc_yes sb 66 2 m _ _ _ w2 hH2 HF.out.2.1 HM.out).mono ?_
      rintro e w3 ⟨rfl, hH3⟩
      go_wp2_with (first | (go_at_call 10; refine (err_any _ _).mono ?_; rintro e w' ⟨rfl, rfl⟩))
      refine (hfree_yes sb 64 2 _ _ _ w3 hH3 HF.out.2.2.1 HF.out.2.2.2.1).mono ?_
      rintro e w4 ⟨rfl, hH4⟩
      go_wp2_with (first | (go_at_call 10; refine (err_any _ _).mono ?_; rintro e w' ⟨rfl, rfl⟩))
      refine (halloc_no sb 64 _ _ w4 hH4 HF.out.2.2.2.2.1 HB65.out).mono ?_
      rintro e w5 ⟨rfl, hH5⟩
      go_wp2_with (first | (go_at_call 10; refine (err_any _ _).mono ?_; rintro e w' ⟨rfl, rfl⟩))
      refine (hfree_yes sb 66 2 _ _ _ w5 hH5 HF.out.2.2.2.2.2.1 HF.out.2.2.2.2.2.2).mono ?_
      rintro e w6 ⟨rfl, hH6⟩
      go_wp2_with (first | (go_at_call 10; refine (err_any _ _).mono ?_; rintro e w' ⟨rfl, rfl⟩))
      refine (halloc_yes sb 64 64 64 _ _ _ w6 hH6 HL.out HB64.out).mono ?_
      rintro e w7 ⟨rfl, hH7⟩
      go_wp2_with (first | (go_at_call 10; refine (err_any _ _).mono ?_; rintro e w' ⟨rfl, rfl⟩) | (go_at_call 11; refine (awake6_any _).mono ?_; rintro e w9 ⟨rfl, hK9⟩))
      go_ret
      exact ⟨rfl, hH7.K.trans hK9⟩
  · obtain ⟨c, hc, hc5⟩ : ∃ j : Nat, classI wd = j ∧ j < 5 := by
      rcases class_lt wd with e | e
      · have := (class_iff wd).2 hwb; omega
      · exact e
    have hc1 : 1 ≤ c := by
      rcases Nat.eq_zero_or_pos c with rfl | h
      · unfold classI at hc; rw [if_neg (by omega), if_neg h2] at hc
        split at hc
        · omega
        · split at hc
          · omega
          · split at hc
            · omega
            · split at hc <;> omega
      · exact h
    obtain ⟨k1, s, r1, r2, r3, f1, r4⟩ := gives_other wd m c hc hc1 hc5 hm0
    have HF := (show Hid (AllocR (freshK 2) wd (some (64, k1)) ∧ AllocR k1 m none ∧ AllocR k1 64 none ∧ findN k1 64 = some (64, s) ∧ FreeR k1 64 (freshK 2)) from ⟨r1, r2, r3, f1, r4⟩)
    obtain ⟨b, hb⟩ := Int.eq_ofNat_of_zero_le (block_le wd).1
    have HW := (show Hid (blockI wd = (b : Nat)) from hb)
    clear r1 r2 r3 f1 r4 hm0 hc hb
    go_enter Try.func8, Try.ntmps8
    go_wp2_with fail
    refine (hnew 2 w w (Keep.refl _ _) (by omega) (by omega)).mono ?_
    rintro e w1 ⟨sb, rfl, hH⟩
    obtain ⟨ab, hc0⟩ := hH.c0
    obtain ⟨pb, hc1⟩ := hH.c1
    go_wp2_with (first | (go_at_call 10; refine (err_any _ _).mono ?_; rintro e w' ⟨rfl, rfl⟩))
    refine (halloc_yes sb 64 b wd _ _ _ w1 hH HF.out.1 HW.out).mono ?_
    rintro e w2 ⟨rfl, hH2⟩
    clear hc0 hc1 hH
    go_wp2_with (first | (go_at_call 10; refine (err_any _ _).mono ?_; rintro e w' ⟨rfl, rfl⟩))
    refine (halloc_no sb m _ _ w2 hH2 HF.out.2.1 HM0.out).mono ?_
    rintro e w3 ⟨rfl, hH3⟩
    go_wp2_with (first | (go_at_call 10; refine (err_any _ _).mono ?_; rintro e w' ⟨rfl, rfl⟩))
    refine (halloc_no sb 64 _ _ w3 hH3 HF.out.2.2.1 HB65.out).mono ?_
    rintro e w4 ⟨rfl, hH4⟩
    go_wp2_with (first | (go_at_call 10; refine (err_any _ _).mono ?_; rintro e w' ⟨rfl, rfl⟩))
    refine (hfree_yes sb 64 s _ _ _ w4 hH4 HF.out.2.2.2.1 HF.out.2.2.2.2).mono ?_
    rintro e w5 ⟨rfl, hH5⟩
    go_wp2_with (first | (go_at_call 10; refine (err_any _ _).mono ?_; rintro e w' ⟨rfl, rfl⟩))
    refine (halloc_yes sb 64 64 64 _ _ _ w5 hH5 HL.out HB64.out).mono ?_
    rintro e w6 ⟨rfl, hH6⟩
    go_wp2_with (first | (go_at_call 10; refine (err_any _ _).mono ?_; rintro e w' ⟨rfl, rfl⟩))
    refine (hused sb _ _ w6 hH6).mono ?_
    rw [HU.out]
    rintro e w7 ⟨rfl, hH7⟩
    go_wp2_with (first | (go_at_call 10; refine (err_any _ _).mono ?_; rintro e w' ⟨rfl, rfl⟩) | (go_at_call 11; refine (awake6_any _).mono ?_; rintro e w9 ⟨rfl, hK9⟩))
    go_ret
    exact ⟨rfl, hH7.K.trans hK9⟩

end Go.Proofs.Ytpollfcblpaicaa

namespace Go.Proofs.Ytpollfcblpaicaa.spaceGives
open Go.RowKit
theorem walk (a0 : Int) (a1 : Bool) (w0 : (Lit.int .u8 a0).wf = true) (w : World) :
    Calls Try.prog 8 #[.int .u8 a0, .bool a1] w fun e w' => e = .returned (.bool true) ∧ Keep [] w w' := by
  have h := bounds_u8 w0
  obtain ⟨n, rfl⟩ := Int.eq_ofNat_of_zero_le h.1
  exact gives6_any n a1 w (by omega)
end Go.Proofs.Ytpollfcblpaicaa.spaceGives
