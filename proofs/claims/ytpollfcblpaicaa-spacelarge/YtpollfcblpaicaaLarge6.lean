/-
  SpaceLarge answers true, whatever it is given.
-/
import Derived.Test.YtpollfcblpaicaaSpaceHeld
import Derived.ProofKit
import Derived.OpenShut
namespace Go.Proofs.Ytpollfcblpaicaa
open Go.RowKit

/-- The first pages that are not taken, side by side. -/
theorem run_at {kd : List PK} {s k : Nat} (hk : 1 ≤ k) (h1 : s + k ≤ kd.length) (h2 : ∀ t, s ≤ t → t < s + k → kat kd t = .free) (h3 : ∀ t, t < s → ∃ u, t ≤ u ∧ u < t + k ∧ (kat kd u).taken = true) : runR (takenL kd) 0 k = s := by
  refine runR_is _ 0 k s hk (by omega) ⟨by rw [takenL_length]; exact h1, fun t a b => by rw [takenL_get, h2 t a b]; rfl⟩ (fun t _ ht hc => ?_)
  obtain ⟨u, a, b, c⟩ := h3 t ht
  have := hc.2 u a b
  rw [takenL_get, c] at this; cases this
theorem pages_at (n : Int) (k : Nat) (h1 : 33 ≤ n) (h2 : n ≤ 1024) (h3 : (n + 63) / 64 = k) : classI n = -1 ∧ pagesI n = k ∧ blockI n = ((64 * k : Nat) : Int) := by
  have hc : classI n = -1 := by
    rcases class_lt n with e | ⟨j, e, _⟩
    · exact e
    · have := (class_iff n).1 (by omega); omega
  have hp : pagesI n = k := by rw [pages_mid n h1 h2]; exact h3
  exact ⟨hc, hp, by rw [block_none n hc, hp]; omega⟩

theorem large_facts (p q r : Nat) (hp : 1 ≤ p ∧ p ≤ 16) (hq : 1 ≤ q ∧ q ≤ 16) (hr : 1 ≤ r ∧ r ≤ 16) : ∃ k1 k2 k3 k4 k5, AllocR (freshK 80) (64 * (p : Int) - 30) (some (64, k1)) ∧ AllocR k1 (64 * (q : Int) - 20) (some (64 * (1 + p), k2)) ∧
    AllocR k2 (64 * (r : Int)) (some (64 * (1 + p + q), k3)) ∧ findN k3 64 = some (64, 64 * p) ∧ FreeR k3 64 k4 ∧ AllocR k4 (64 * (r : Int)) (some (if r ≤ p then 64 else 64 * (1 + p + q + r), k5)) := by
  obtain ⟨a1, a2, a3⟩ := pages_at (64 * (p : Int) - 30) p (by omega) (by omega) (by omega)
  obtain ⟨b1, b2, b3⟩ := pages_at (64 * (q : Int) - 20) q (by omega) (by omega) (by omega)
  obtain ⟨c1, c2, c3⟩ := pages_at (64 * (r : Int)) r (by omega) (by omega) (by omega)
  have f0 : ∀ t, kat (freshK 80) t = if t = 0 then .zero else .free := fun t => freshK_at 80 t (by omega)
  have l0 := freshK_length 80
  have r1 := fresh_large 80 p _ hp.1 (by omega) a1 a2
  have f1 : ∀ t, kat (putParts (freshK 80) 1 p) t = if 1 ≤ t ∧ t < 1 + p then .part (t - 1) p else if t = 0 then .zero else .free := fun t => by rw [putParts_at _ _ _ _ (by omega), f0]
  have l1 : (putParts (freshK 80) 1 p).length = 80 := by rw [putParts_length, l0]
  generalize putParts (freshK 80) 1 p = k1 at *
  have r2 := AllocR.large (kd := k1) q (1 + p) b1 b2 hq.1 (run_at hq.1 (by omega) (fun t a b => by rw [f1, if_neg (by omega), if_neg (by omega)]) (fun t ht => ⟨t, by omega, by omega, by
    rw [f1]; split
    · rfl
    · rw [if_pos (by omega)]; rfl⟩))
  have f2 : ∀ t, kat (putParts k1 (1 + p) q) t = if 1 + p ≤ t ∧ t < 1 + p + q then .part (t - (1 + p)) q else kat k1 t := fun t => putParts_at _ _ _ _ (by omega)
  have l2 : (putParts k1 (1 + p) q).length = 80 := by rw [putParts_length, l1]
  generalize putParts k1 (1 + p) q = k2 at *
  have r3 := AllocR.large (kd := k2) r (1 + p + q) c1 c2 hr.1 (run_at hr.1 (by omega) (fun t a b => by rw [f2, if_neg (by omega), f1, if_neg (by omega), if_neg (by omega)]) (fun t ht => ⟨t, by omega, by omega, by
    rw [f2]; split
    · rfl
    · rw [f1]; split
      · rfl
      · rw [if_pos (by omega)]; rfl⟩))
  have f3 : ∀ t, kat (putParts k2 (1 + p + q) r) t = if 1 + p + q ≤ t ∧ t < 1 + p + q + r then .part (t - (1 + p + q)) r else kat k2 t := fun t => putParts_at _ _ _ _ (by omega)
  have l3 : (putParts k2 (1 + p + q) r).length = 80 := by rw [putParts_length, l2]
  generalize putParts k2 (1 + p + q) r = k3 at *
  have e1 : kat k3 1 = .part 0 p := by rw [f3, if_neg (by omega), f2, if_neg (by omega), f1, if_pos (by omega)]
  have g1 : findN k3 64 = some (64, 64 * p) := by rw [find_part k3 64 0 p e1]
  have r4 := FreeR.large (kd := k3) (a := 64) p e1 (by omega)
  have f4 : ∀ t, kat (freeParts k3 (64 / 64) p) t = if 1 ≤ t ∧ t < 1 + p then .free else kat k3 t := fun t => freeParts_at k3 1 p t
  have l4 : (freeParts k3 (64 / 64) p).length = 80 := by rw [freeParts_length, l3]
  generalize freeParts k3 (64 / 64) p = k4 at *
  have zero : (kat k4 0).taken = true := by rw [f4, if_neg (by omega), f3, if_neg (by omega), f2, if_neg (by omega), f1, if_neg (by omega), if_pos rfl]; rfl
  have full : ∀ t, 1 + p ≤ t → t < 1 + p + q + r → (kat k4 t).taken = true := by
    intro t a b
    rw [f4, if_neg (by omega), f3]
    split
    · rfl
    · rw [f2, if_pos (by omega)]; rfl
  by_cases hrp : r ≤ p
  · refine ⟨k1, k2, k3, k4, putParts k4 1 r, r1, r2, r3, g1, r4, ?_⟩
    rw [if_pos hrp]
    have := AllocR.large (kd := k4) r 1 c1 c2 hr.1 (run_at hr.1 (by omega) (fun t a b => by rw [f4, if_pos (by omega)]) (fun t ht => ⟨0, by omega, by omega, zero⟩))
    exact this
  · refine ⟨k1, k2, k3, k4, putParts k4 (1 + p + q + r) r, r1, r2, r3, g1, r4, ?_⟩
    · rw [if_neg hrp]
      refine AllocR.large (kd := k4) r (1 + p + q + r) c1 c2 hr.1 (run_at hr.1 (by omega) (fun t a b => by rw [f4, if_neg (by omega), f3, if_neg (by omega), f2, if_neg (by omega), f1, if_neg (by omega), if_neg (by omega)]) (fun t ht => ?_))
      rcases (show t = 0 ∨ 1 + p ≤ t ∨ 1 ≤ t ∧ t < 1 + p by omega) with e | e | e
      · exact ⟨t, by omega, by omega, by rw [e]; exact zero⟩
      · exact ⟨t, by omega, by omega, full t e ht⟩
      · exact ⟨1 + p, by omega, by omega, full _ (by omega) (by omega)⟩

theorem mod_facts (a m : Nat) (h : 1 ≤ m) : ∃ x : Nat, (a : Int) % m = x ∧ (a : Int).tmod m = x ∧ x < m :=
  ⟨a % m, rfl, by rw [Int.tmod_eq_emod_of_nonneg (by omega)]; rfl, Nat.mod_lt _ (by omega)⟩

set_option maxRecDepth 100000 in
set_option maxHeartbeats 4000000 in
theorem large6_any (a b c : Nat) (w : World) (ha : a < 256) (hb : b < 256) (hc : c < 256) :
    Calls Try.prog 7 #[.int .u8 a, .int .u8 b, .int .u8 c] w fun e w' => e = .returned (.bool true) ∧ Keep [] w w' := by
  obtain ⟨x1, x11, x12, x13⟩ := mod_facts a 16 (by omega)
  obtain ⟨x2, x21, x22, x23⟩ := mod_facts b 16 (by omega)
  obtain ⟨x3, x31, x32, x33⟩ := mod_facts c 16 (by omega)
  obtain ⟨p, hp⟩ : ∃ p : Nat, 1 + x1 = p := ⟨_, rfl⟩
  obtain ⟨q, hq⟩ : ∃ q : Nat, 1 + x2 = q := ⟨_, rfl⟩
  obtain ⟨r, hr⟩ : ∃ r : Nat, 1 + x3 = r := ⟨_, rfl⟩
  have hp1 : (1 : Int) + x1 = p := by omega
  have hq1 : (1 : Int) + x2 = q := by omega
  have hr1 : (1 : Int) + x3 = r := by omega
  have x11' : (a : Int) % 16 = x1 := x11
  have x12' : (a : Int).tmod 16 = x1 := x12
  have x21' : (b : Int) % 16 = x2 := x21
  have x22' : (b : Int).tmod 16 = x2 := x22
  have x31' : (c : Int) % 16 = x3 := x31
  have x32' : (c : Int).tmod 16 = x3 := x32
  have pb1 : 1 ≤ p ∧ p ≤ 16 := by omega
  have qb1 : 1 ≤ q ∧ q ≤ 16 := by omega
  have rb1 : 1 ≤ r ∧ r ≤ 16 := by omega
  obtain ⟨n1, hn1⟩ : ∃ n1 : Int, 64 * (p : Int) - 30 = n1 := ⟨_, rfl⟩
  obtain ⟨n2, hn2⟩ : ∃ n2 : Int, 64 * (q : Int) - 20 = n2 := ⟨_, rfl⟩
  obtain ⟨n3, hn3⟩ : ∃ n3 : Int, 64 * (r : Int) = n3 := ⟨_, rfl⟩
  obtain ⟨k1, k2, k3, k4, k5, r1, r2, r3, g1, r4, r5⟩ := large_facts p q r pb1 qb1 rb1
  rw [hn1] at r1
  rw [hn2] at r2
  rw [hn3] at r3 r5
  obtain ⟨b1, hb1⟩ := Int.eq_ofNat_of_zero_le (block_le n1).1
  obtain ⟨b2, hb2⟩ := Int.eq_ofNat_of_zero_le (block_le n2).1
  obtain ⟨b3, hb3⟩ := Int.eq_ofNat_of_zero_le (block_le n3).1
  have HB := (show Hid (blockI n1 = (b1 : Nat) ∧ blockI n2 = (b2 : Nat) ∧ blockI n3 = (b3 : Nat)) from ⟨hb1, hb2, hb3⟩)
  obtain ⟨y, hy⟩ : ∃ y : Nat, 64 * (1 + p) = y := ⟨_, rfl⟩
  obtain ⟨z, hz⟩ : ∃ z : Nat, 64 * (1 + p + q) = z := ⟨_, rfl⟩
  obtain ⟨v, hv⟩ : ∃ v : Nat, (if r ≤ p then 64 else 64 * (1 + p + q + r)) = v := ⟨_, rfl⟩
  rw [hy] at r2
  rw [hz] at r3
  rw [hv] at r5
  have HF := (show Hid (AllocR (freshK 80) n1 (some (64, k1)) ∧ AllocR k1 n2 (some (y, k2)) ∧ AllocR k2 n3 (some (z, k3)) ∧ findN k3 64 = some (64, 64 * p) ∧ FreeR k3 64 k4 ∧ AllocR k4 n3 (some (v, k5))) from ⟨r1, r2, r3, g1, r4, r5⟩)
  have nb : 34 ≤ n1 ∧ n1 ≤ 994 ∧ 44 ≤ n2 ∧ n2 ≤ 1004 ∧ 64 ≤ n3 ∧ n3 ≤ 1024 := by omega
  have hy' : (64 : Int) * (1 + p) = y := by omega
  have hz' : (64 : Int) * (1 + p + q) = z := by omega
  have hyb : y ≤ 2000 := by omega
  have hzb : z ≤ 3000 := by omega
  clear hy hz
  clear r1 r2 r3 g1 r4 r5 hb1 hb2 hb3 hp hq hr x11 x12 x21 x22 x31 x32
  by_cases hrp : r ≤ p
  · rw [if_pos hrp] at hv
    subst hv
    have hd : decide ((r : Int) ≤ (p : Int)) = true := by rw [decide_eq_true_iff]; omega
    go_enter Try.func7, Try.ntmps7
    go_wp2_with (first | (go_at_call 10; refine (err_any _ _).mono ?_; rintro e w' ⟨rfl, rfl⟩))
    refine (hnew 80 w w (Keep.refl _ _) (by omega) (by omega)).mono ?_
    rintro e w1 ⟨sb, rfl, hH⟩
    obtain ⟨ab, hc0⟩ := hH.c0
    obtain ⟨pb, hc1⟩ := hH.c1
    go_wp2_with (first | (go_at_call 10; refine (err_any _ _).mono ?_; rintro e w' ⟨rfl, rfl⟩))
    refine (halloc_yes sb 64 b1 n1 _ _ _ w1 hH HF.out.1 HB.out.1).mono ?_
    rintro e w2 ⟨rfl, hH2⟩
    clear hc0 hc1 hH
    go_wp2_with (first | (go_at_call 10; refine (err_any _ _).mono ?_; rintro e w' ⟨rfl, rfl⟩))
    refine (halloc_yes sb y b2 n2 _ _ _ w2 hH2 HF.out.2.1 HB.out.2.1).mono ?_
    rintro e w3 ⟨rfl, hH3⟩
    go_wp2_with (first | (go_at_call 10; refine (err_any _ _).mono ?_; rintro e w' ⟨rfl, rfl⟩))
    refine (halloc_yes sb z b3 n3 _ _ _ w3 hH3 HF.out.2.2.1 HB.out.2.2).mono ?_
    rintro e w4 ⟨rfl, hH4⟩
    go_wp2_with (first | (go_at_call 10; refine (err_any _ _).mono ?_; rintro e w' ⟨rfl, rfl⟩))
    refine (hfree_yes sb 64 _ _ _ _ w4 hH4 HF.out.2.2.2.1 HF.out.2.2.2.2.1).mono ?_
    rintro e w5 ⟨rfl, hH5⟩
    go_wp2_with (first | (go_at_call 10; refine (err_any _ _).mono ?_; rintro e w' ⟨rfl, rfl⟩))
    refine (halloc_yes sb 64 b3 n3 _ _ _ w5 hH5 HF.out.2.2.2.2.2 HB.out.2.2).mono ?_
    rintro e w6 ⟨rfl, hH6⟩
    go_wp2_with (first | (go_at_call 10; refine (err_any _ _).mono ?_; rintro e w' ⟨rfl, rfl⟩) | (go_at_call 11; refine (awake6_any _).mono ?_; rintro e w9 ⟨rfl, hK9⟩))
    go_ret
    exact ⟨rfl, hH6.K.trans hK9⟩
  · rw [if_neg hrp] at hv
    have hv' : (64 : Int) * (1 + p + q + r) = v := by omega
    have hvb : v ≤ 5000 := by omega
    clear hv
    have hd : decide ((r : Int) ≤ (p : Int)) = false := by rw [decide_eq_false_iff_not]; omega
    go_enter Try.func7, Try.ntmps7
    go_wp2_with (first | (go_at_call 10; refine (err_any _ _).mono ?_; rintro e w' ⟨rfl, rfl⟩))
    refine (hnew 80 w w (Keep.refl _ _) (by omega) (by omega)).mono ?_
    rintro e w1 ⟨sb, rfl, hH⟩
    obtain ⟨ab, hc0⟩ := hH.c0
    obtain ⟨pb, hc1⟩ := hH.c1
    go_wp2_with (first | (go_at_call 10; refine (err_any _ _).mono ?_; rintro e w' ⟨rfl, rfl⟩))
    refine (halloc_yes sb 64 b1 n1 _ _ _ w1 hH HF.out.1 HB.out.1).mono ?_
    rintro e w2 ⟨rfl, hH2⟩
    clear hc0 hc1 hH
    go_wp2_with (first | (go_at_call 10; refine (err_any _ _).mono ?_; rintro e w' ⟨rfl, rfl⟩))
    refine (halloc_yes sb y b2 n2 _ _ _ w2 hH2 HF.out.2.1 HB.out.2.1).mono ?_
    rintro e w3 ⟨rfl, hH3⟩
    go_wp2_with (first | (go_at_call 10; refine (err_any _ _).mono ?_; rintro e w' ⟨rfl, rfl⟩))
    refine (halloc_yes sb z b3 n3 _ _ _ w3 hH3 HF.out.2.2.1 HB.out.2.2).mono ?_
    rintro e w4 ⟨rfl, hH4⟩
    go_wp2_with (first | (go_at_call 10; refine (err_any _ _).mono ?_; rintro e w' ⟨rfl, rfl⟩))
    refine (hfree_yes sb 64 _ _ _ _ w4 hH4 HF.out.2.2.2.1 HF.out.2.2.2.2.1).mono ?_
    rintro e w5 ⟨rfl, hH5⟩
    go_wp2_with (first | (go_at_call 10; refine (err_any _ _).mono ?_; rintro e w' ⟨rfl, rfl⟩))
    refine (halloc_yes sb v b3 n3 _ _ _ w5 hH5 HF.out.2.2.2.2.2 HB.out.2.2).mono ?_
    rintro e w6 ⟨rfl, hH6⟩
    go_wp2_with (first | (go_at_call 10; refine (err_any _ _).mono ?_; rintro e w' ⟨rfl, rfl⟩) | (go_at_call 11; refine (awake6_any _).mono ?_; rintro e w9 ⟨rfl, hK9⟩))
    go_ret
    exact ⟨rfl, hH6.K.trans hK9⟩

end Go.Proofs.Ytpollfcblpaicaa

namespace Go.Proofs.Ytpollfcblpaicaa.spaceLarge
open Go.RowKit
theorem walk (a0 a1 a2 : Int) (w0 : (Lit.int .u8 a0).wf = true) (w1 : (Lit.int .u8 a1).wf = true) (w2 : (Lit.int .u8 a2).wf = true) (w : World) :
    Calls Try.prog 7 #[.int .u8 a0, .int .u8 a1, .int .u8 a2] w fun e w' => e = .returned (.bool true) ∧ Keep [] w w' := by
  have h0 := bounds_u8 w0
  have h1 := bounds_u8 w1
  have h2 := bounds_u8 w2
  obtain ⟨a, rfl⟩ := Int.eq_ofNat_of_zero_le h0.1
  obtain ⟨b, rfl⟩ := Int.eq_ofNat_of_zero_le h1.1
  obtain ⟨c, rfl⟩ := Int.eq_ofNat_of_zero_le h2.1
  exact large6_any a b c w (by omega) (by omega) (by omega)
end Go.Proofs.Ytpollfcblpaicaa.spaceLarge
