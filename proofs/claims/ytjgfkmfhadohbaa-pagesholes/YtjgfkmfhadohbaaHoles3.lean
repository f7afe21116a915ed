/-
  PagesHoles answers true, whatever it is given.
-/
import Derived.Test.YtjgfkmfhadohbaaAwake3
import Derived.ProofKit
import Derived.OpenShut
namespace Go.Proofs.Ytjgfkmfhadohbaa
open Go.RowKit

/-- Once i holes of s places are given. -/
def holes (s i : Nat) : List Bool := (List.range i).foldl (fun ys q => putR ys (1 + q * (s + 1)) s false) (putR (fresh (9 + 8 * s)) 1 (8 * s + 8) true)
theorem holes_succ (s i : Nat) : holes s (i + 1) = putR (holes s i) (1 + i * (s + 1)) s false := by
  unfold holes; rw [List.range_succ, List.foldl_append]; rfl
theorem holes_length (s i : Nat) : (holes s i).length = 9 + 8 * s := by
  induction i with
  | zero => show (putR _ _ _ _).length = _; rw [putR_length, fresh_length]
  | succ i ih => rw [holes_succ, putR_length, ih]
theorem holes_full : ∀ s, s < 7 → 1 ≤ s → ∀ i, i < 8 → fullB (holes s i) (1 + i * (s + 1)) s = true := by decide +kernel
theorem holes_left : ∀ s, s < 7 → 1 ≤ s → cntA (holes s 8) = 9 := by decide +kernel
theorem holes_none : ∀ s, s < 7 → 1 ≤ s → runR (holes s 8) 0 (s + 1) = -1 := by decide +kernel
theorem holes_wall : ∀ s, s < 7 → 1 ≤ s → ∀ j, j < 7 → fullB (holes s 8) (1 + j * (s + 1) + s) 1 = true := by decide +kernel
theorem holes_big : ∀ s, s < 7 → 1 ≤ s → ∀ j, j < 7 → runR (putR (holes s 8) (1 + j * (s + 1) + s) 1 false) 0 (2 * s + 1) = ((1 + j * (s + 1) : Nat) : Int) := by decide +kernel

theorem mul_le {i s : Nat} (hi : i ≤ 7) (hs : s < 7) : i * (s + 1) ≤ 49 := Nat.le_trans (Nat.mul_le_mul hi (show s + 1 ≤ 7 by omega)) (by omega)

set_option maxRecDepth 100000 in
set_option maxHeartbeats 4000000 in
theorem holes_any (k n : Nat) (w : World) (hk : k < 256) (hn : n < 256) :
    Calls Try.prog 7 #[.int .u8 k, .int .u8 n] w fun e w' => e = .returned (.bool true) ∧ Keep [] w w' := by
  obtain ⟨s, hs1, hs2, hs3⟩ : ∃ s : Nat, 1 + (k : Int) % 6 = s ∧ 1 ≤ s ∧ s < 7 := ⟨1 + k % 6, by omega, by omega, by omega⟩
  obtain ⟨j, hj1, hj2⟩ : ∃ j : Nat, (n : Int) % 7 = j ∧ j < 7 := ⟨n % 7, by omega, by omega⟩
  obtain ⟨jq, hjq⟩ : ∃ jq : Nat, j * (s + 1) = jq := ⟨_, rfl⟩
  have hjl : jq ≤ 49 := by rw [← hjq]; exact mul_le (by omega) hs3
  have hj6 : jq ≤ 6 * (s + 1) := by rw [← hjq]; exact Nat.mul_le_mul (by omega) (Nat.le_refl _)
  have F2 := (show Hid (∀ i, i < 8 → fullB (holes s i) (1 + i * (s + 1)) s = true) from holes_full s hs3 hs2)
  have F3 := (show Hid (cntA (holes s 8) = 9) from holes_left s hs3 hs2)
  have f4 := holes_none s hs3 hs2
  have f5 := holes_wall s hs3 hs2 j hj2
  have f6 := holes_big s hs3 hs2 j hj2
  obtain ⟨S1, hS1⟩ : ∃ S1 : Nat, S1 = s + 1 := ⟨_, rfl⟩
  obtain ⟨E, hE⟩ : ∃ E : Nat, E = 8 * s + 8 := ⟨_, rfl⟩
  obtain ⟨N, hN⟩ : ∃ N : Nat, N = 9 + 8 * s := ⟨_, rfl⟩
  obtain ⟨A, hA⟩ : ∃ A : Nat, A = 1 + jq := ⟨_, rfl⟩
  obtain ⟨W, hW⟩ : ∃ W : Nat, W = 1 + jq + s := ⟨_, rfl⟩
  obtain ⟨D, hD⟩ : ∃ D : Nat, D = 2 * s := ⟨_, rfl⟩
  obtain ⟨T, hT⟩ : ∃ T : Nat, T = 2 * s + 1 := ⟨_, rfl⟩
  rw [← hS1] at f4
  rw [hjq, ← hW] at f5
  rw [hjq, ← hW, ← hT, ← hA] at f6
  have F1 := (show Hid (runR (fresh N) 0 E = (1 : Nat)) from fresh_run _ _ (by omega) (by omega))
  have F0 := (show Hid (putR (fresh N) 1 E true = holes s 0) from by rw [hN, hE]; rfl)
  have F4 := (show Hid (runR (holes s 8) 0 S1 = -1) from f4)
  have F5 := (show Hid (fullB (holes s 8) W 1 = true) from f5)
  have F6 := (show Hid (runR (putR (holes s 8) W 1 false) 0 T = (A : Int)) from f6)
  have FL := (show Hid (∀ i, (holes s i).length = N) from fun i => (holes_length s i).trans hN.symm)
  have hjI : (j : Int) * (S1 : Int) = jq := by rw [← hjq, hS1]; simp
  clear hjq f4 f5 f6
  have e0 : (s : Int) + 1 = S1 := by omega
  have e2 : 8 * (S1 : Int) = E := by omega
  have e1 : 1 + (E : Int) = N := by omega
  have e3 : 1 + (jq : Int) = A := by omega
  have e4 : (A : Int) + s = W := by omega
  have e5 : 2 * (s : Int) = D := by omega
  have e6 : (D : Int) + 1 = T := by omega
  have hS2 : S1 ≤ 7 := by omega
  have HS := (show Hid (S1 = s + 1) from hS1)
  have HN := (show Hid (N = 9 + 8 * s) from hN)
  have hb1 : N ≤ 57 ∧ 17 ≤ N := by omega
  have hb2 : 1 + E = N := by omega
  have hb3 : W + 1 ≤ N := by omega
  have hb4 : 1 ≤ T ∧ A + T ≤ N := by omega
  have hb5 : 1 ≤ A ∧ 1 ≤ W ∧ A ≤ 60 ∧ T ≤ 60 ∧ D ≤ 60 ∧ 1 ≤ S1 := by omega
  clear hS1 hE hN hA hW hD hT hj6
  go_enter Try.func7, Try.ntmps7
  go_wp2_with fail
  refine (pnew_ok N w (by omega) (by omega)).mono ?_
  rintro e w1 ⟨pb, b, g, rfl, hA, hK, hp, hb, hg⟩
  have hc := hA.cell
  go_wp2_with (first | (go_at_call 9; refine (err_any _ _).mono ?_; rintro e w' ⟨rfl, rfl⟩))
  refine (ptake_yes pb b g E 1 _ w1 hA (by omega) F1.out (by rw [fresh_length]; omega)).mono ?_
  rw [F0.out]
  rintro e w2 ⟨rfl, hA2, hK2⟩
  clear hA hc
  have hK3 := (hK.mono (T := [g]) (by simp)).trans hK2
  clear hK hK2
  go_wp2_with (first | (go_at_call 9; refine (err_any _ _).mono ?_; rintro e w' ⟨rfl, rfl⟩))
  go_loopw [10] (fun i wr => ∃ q : Nat, i = .int .i64 q ∧ q ≤ 8 ∧ IsPages wr pb b g (holes s q) ∧ Keep [g] w wr) (fun i _ => 8 - (intOf i).toNat)
  case atStart => exact ⟨0, rfl, by omega, hA2, hK3⟩
  case round =>
    obtain ⟨q, rfl, hq, hA4, hK4⟩ := hrel
    clear hA2 hK3
    by_cases hlt : q < 8
    · obtain ⟨qs, hqs⟩ : ∃ qs : Nat, q * (s + 1) = qs := ⟨_, rfl⟩
      have hql : qs ≤ 49 := by rw [← hqs]; exact mul_le (by omega) hs3
      have hqI : (q : Int) * (S1 : Int) = qs := by rw [← hqs, HS.out]; simp
      obtain ⟨a, ha⟩ : ∃ a : Nat, a = 1 + qs := ⟨_, rfl⟩
      have haI : 1 + (qs : Int) = a := by omega
      have G1 := (show Hid (fullB (holes s q) a s = true) from by rw [ha, ← hqs]; exact F2.out q hlt)
      have G2 := (show Hid (putR (holes s q) a s false = holes s (q + 1)) from by rw [ha, ← hqs]; exact (holes_succ s q).symm)
      have ha1 : 1 ≤ a ∧ a ≤ 50 := by omega
      clear ha hqs
      go_wp2_with (first | (go_at_call 12; refine (pgive_yes pb b g a s _ _ hA4 ha1.1 hs2 G1.out).mono ?_; rw [G2.out]; rintro e w5 ⟨rfl, hA5, hK5⟩) | (go_at_call 9; refine (err_any _ _).mono ?_; rintro e w' ⟨rfl, rfl⟩))
      go_roundw
      case rel => exact ⟨q + 1, by go_num, by omega, hA5, hK4.trans hK5⟩
      case measure => simp [intOf]; omega
    · obtain rfl : q = 8 := by omega
      go_wp2_with fail
      refine (pleft_any pb b g _ _ hA4).mono ?_
      rw [FL.out, F3.out]
      rintro e w5 ⟨rfl, hK5⟩
      have hA5 := hA4.keep hK5 (by simp) (by simp) (by simp)
      go_wp2_with fail
      refine (ptake_no pb b g S1 _ _ hA5 (by omega) (by omega) F4.out).mono ?_
      rintro e w' ⟨rfl, rfl⟩
      go_wp2_with fail
      refine (pgive_yes pb b g W 1 _ _ hA5 (by omega) (by omega) F5.out).mono ?_
      rintro e w6 ⟨rfl, hA6, hK6⟩
      go_wp2_with fail
      refine (ptake_yes pb b g T A _ _ hA6 (by omega) F6.out (by rw [putR_length, FL.out]; omega)).mono ?_
      rintro e w7 ⟨rfl, hA7, hK7⟩
      have hK8 := ((((hK4.trans (hK5.mono (by simp))).trans hK6)).trans hK7).drop (T := []) (by simp; omega)
      have e9 : (N : Int) - 9 = 8 * (s : Int) := by have := HN.out; omega
      clear hA4 hA5 hA6 hA7 hK4 hK5 hK6 hK7
      go_wp2_with (first | (go_at_call 9; refine (err_any _ _).mono ?_; rintro e w' ⟨rfl, rfl⟩) | (go_at_call 10; refine (awake3_any _).mono ?_; rintro e w9 ⟨rfl, hK9⟩))
      go_ret
      exact ⟨rfl, hK8.trans hK9⟩

end Go.Proofs.Ytjgfkmfhadohbaa

namespace Go.Proofs.Ytjgfkmfhadohbaa.pagesHoles
open Go.RowKit
theorem walk (a0 a1 : Int) (w0 : (Lit.int .u8 a0).wf = true) (w1 : (Lit.int .u8 a1).wf = true) (w : World) :
    Calls Try.prog 7 #[.int .u8 a0, .int .u8 a1] w fun e w' => e = .returned (.bool true) ∧ Keep [] w w' := by
  have h0 := bounds_u8 w0
  have h1 := bounds_u8 w1
  obtain ⟨k, rfl⟩ := Int.eq_ofNat_of_zero_le h0.1
  obtain ⟨n, rfl⟩ := Int.eq_ofNat_of_zero_le h1.1
  exact holes_any k n w (by omega) (by omega)
end Go.Proofs.Ytjgfkmfhadohbaa.pagesHoles
