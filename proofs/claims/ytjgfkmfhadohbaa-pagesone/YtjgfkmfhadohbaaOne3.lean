/-
  PagesOne answers true, whatever it is given.
-/
import Derived.Test.YtjgfkmfhadohbaaAwake3
import Derived.ProofKit
import Derived.OpenShut
namespace Go.Proofs.Ytjgfkmfhadohbaa
open Go.RowKit

/-- The first i of m are so. -/
def firsts (m i : Nat) : List Bool := (List.range m).map (fun t => decide (t < i))
theorem firsts_length (m i : Nat) : (firsts m i).length = m := by simp [firsts]
theorem firsts_get (m i t : Nat) (h : t < m) : (firsts m i)[t]?.getD false = decide (t < i) := by simp [firsts, h]
theorem firsts_one (m : Nat) (h : 1 ≤ m) : fresh m = firsts m 1 := by
  refine beq_of_getD (by rw [fresh_length, firsts_length]) (fun t => ?_)
  by_cases ht : t < m
  · rw [fresh_get m t h, firsts_get m 1 t ht]
    by_cases e : t = 0
    · subst e; rfl
    · simp [e]
  · rw [List.getElem?_eq_none (by rw [fresh_length]; omega), List.getElem?_eq_none (by rw [firsts_length]; omega)]
theorem firsts_put (m i : Nat) (h : i < m) : putR (firsts m i) i 1 true = firsts m (i + 1) := by
  refine beq_of_getD (by rw [putR_length, firsts_length, firsts_length]) (fun t => ?_)
  rw [putR_get _ _ _ _ (by rw [firsts_length]; omega)]
  by_cases ht : t < m
  · rw [firsts_get m i t ht, firsts_get m (i + 1) t ht]
    by_cases e : t = i
    · subst e; simp
    · rw [if_neg (by omega)]; simp only [decide_eq_decide]; omega
  · rw [if_neg (by omega), List.getElem?_eq_none (by rw [firsts_length]; omega), List.getElem?_eq_none (by rw [firsts_length]; omega)]
theorem firsts_clear (m i : Nat) (h : i < m) : Clear (firsts m i) i 1 := by
  refine ⟨by rw [firsts_length]; omega, fun t a b => ?_⟩
  obtain rfl : t = i := by omega
  rw [firsts_get m t t h]; simp
theorem firsts_run (m i : Nat) (h : i < m) : runR (firsts m i) 0 1 = i := by
  refine runR_is _ 0 1 i (by omega) (by omega) (firsts_clear m i h) (fun s a b c => ?_)
  have := c.2 s (by omega) (by omega)
  rw [firsts_get m i s (by omega)] at this; simp at this; omega
theorem firsts_none (m : Nat) : runR (firsts m m) 0 1 = -1 := by
  refine runR_none _ 0 1 (by omega) (fun s a c => ?_)
  have h1 := c.1
  rw [firsts_length] at h1
  have := c.2 s (by omega) (by omega)
  rw [firsts_get m m s (by omega)] at this; simp at this; omega
theorem firsts_cnt (m i : Nat) (h : 1 ≤ i) (hi : i ≤ m) : cntA (firsts m i) = i := by
  induction i with
  | zero => omega
  | succ i ih =>
    rcases Nat.eq_zero_or_pos i with rfl | h0
    · rw [← firsts_one m hi]
      unfold fresh
      rw [cntA_set _ _ (by rw [offs_length]; omega), cntA_offs, offs_get]; rfl
    · rw [← firsts_put m i (by omega), cntA_put _ _ _ (firsts_clear m i (by omega)), ih (by omega) (by omega)]
theorem firsts_full (m j : Nat) (h : j < m) : fullB (firsts m m) j 1 = true := by
  refine (fullB_iff _ _ _ (by omega)).2 (fun t a b => ?_)
  obtain rfl : t = j := by omega
  exact ⟨by rw [firsts_length]; exact h, by rw [firsts_get m m t h]; simp; exact h⟩
theorem firsts_back (m j : Nat) (h : j < m) : runR (putR (firsts m m) j 1 false) 0 1 = j := by
  have hl : j + 1 ≤ (firsts m m).length := by rw [firsts_length]; omega
  refine runR_is _ 0 1 j (by omega) (by omega) ⟨by rw [putR_length]; exact hl, fun t a b => putR_in _ _ _ _ hl t a b⟩ (fun s a b c => ?_)
  have := c.2 s (by omega) (by omega)
  rw [putR_out _ _ _ _ hl s (by omega), firsts_get m m s (by omega)] at this; simp at this; omega

set_option maxRecDepth 100000 in
set_option maxHeartbeats 4000000 in
theorem one_any (n v : Nat) (w : World) (hn : n < 256) (hv : v < 256) :
    Calls Try.prog 5 #[.int .u8 n, .int .u8 v] w fun e w' => e = .returned (.bool true) ∧ Keep [] w w' := by
  obtain ⟨m, hm1, hm2, hm3⟩ : ∃ m : Nat, 2 + (n : Int) % 200 = m ∧ 2 ≤ m ∧ m ≤ 201 := ⟨2 + n % 200, by omega, by omega, by omega⟩
  obtain ⟨m1, hm4, hm5⟩ : ∃ m1 : Nat, (m : Int) - 1 = m1 ∧ m1 < m := ⟨m - 1, by omega, by omega⟩
  have hv1 := Nat.mod_lt v (show m1 > 0 by omega)
  obtain ⟨r, hr1, hr2⟩ : ∃ r : Nat, (v : Int) % (m1 : Int) = r ∧ r < m1 := ⟨v % m1, by omega, hv1⟩
  obtain ⟨j, hj1, hj2, hj3⟩ : ∃ j : Nat, 1 + (r : Int) = j ∧ 1 ≤ j ∧ j < m := ⟨1 + r, by omega, by omega, by omega⟩
  clear hv1
  have F1 := (show Hid (cntA (firsts m 1) = 1) from firsts_cnt m 1 (by omega) (by omega))
  have F2 := (show Hid (hasR (firsts m 1) 0 = true) from (has_nat (firsts m 1) 0 (by rw [firsts_length]; omega)).trans ((firsts_get m 1 0 (by omega)).trans rfl))
  have F3 := (show Hid (∀ i, (firsts m i).length = m) from firsts_length m)
  have F4 := (show Hid (runR (firsts m m) 0 1 = -1) from firsts_none m)
  have F5 := (show Hid (fullB (firsts m m) j 1 = true) from firsts_full m j hj3)
  have F6 := (show Hid (runR (putR (firsts m m) j 1 false) 0 1 = j) from firsts_back m j hj3)
  go_enter Try.func5, Try.ntmps5
  go_wp2_with fail
  refine (pnew_ok m w (by omega) (by omega)).mono ?_
  rw [firsts_one m (by omega)]
  rintro e w1 ⟨pb, b, g, rfl, hA, hK, hp, hb, hg⟩
  have hc := hA.cell
  go_wp2_with (first | (go_at_call 9; refine (err_any _ _).mono ?_; rintro e w' ⟨rfl, rfl⟩) | (go_at_call 21; refine (bsize_any b g _ _ hA.bits).mono ?_; rw [F3.out]; rintro e w' ⟨rfl, rfl⟩) | (go_at_call 22; refine (bcount_any b g _ _ hA.bits).mono ?_; rw [F1.out]; rintro e w' ⟨rfl, rfl⟩) | (go_at_call 18; refine (bhas_any b g 0 _ _ hA.bits).mono ?_; rw [F2.out]; rintro e w' ⟨rfl, rfl⟩))
  clear hc
  go_loopw [8] (fun i wr => ∃ q : Nat, i = .int .i64 q ∧ 1 ≤ q ∧ q ≤ m ∧ IsPages wr pb b g (firsts m q) ∧ Keep [g] w wr) (fun i _ => m - (intOf i).toNat)
  case atStart => exact ⟨1, rfl, by omega, by omega, hA, hK.mono (by simp)⟩
  case round =>
    obtain ⟨q, rfl, hq1, hq2, hA4, hK4⟩ := hrel
    clear hA hK
    by_cases hlt : q < m
    · have G1 := (show Hid (runR (firsts m q) 0 1 = q) from firsts_run m q hlt)
      have G2 := (show Hid (putR (firsts m q) q 1 true = firsts m (q + 1)) from firsts_put m q hlt)
      have G3 := (show Hid (hasR (firsts m (q + 1)) q = true) from (has_nat _ q (by rw [firsts_length]; exact hlt)).trans (by rw [firsts_get m (q + 1) q hlt]; simp))
      have G4 := (show Hid (cntA (firsts m (q + 1)) = q + 1) from firsts_cnt m (q + 1) (by omega) (by omega))
      obtain ⟨L, hL1, hL2⟩ : ∃ L : Nat, (m : Int) - ((q + 1 : Nat) : Int) = L ∧ (m1 : Int) - q = L := ⟨m - (q + 1), by omega, by omega⟩
      go_wp2_with (first | (go_at_call 14; refine (ptake_yes pb b g 1 q _ _ hA4 (by omega) G1.out (by rw [F3.out]; omega)).mono ?_; rw [G2.out]; rintro e w5 ⟨rfl, hA5, hK5⟩; have hc5 := hA5.cell) | (go_at_call 9; refine (err_any _ _).mono ?_; rintro e w' ⟨rfl, rfl⟩) | (go_at_call 22; refine (bcount_any b g _ _ hA5.bits).mono ?_; rw [G4.out]; rintro e w' ⟨rfl, rfl⟩) | (go_at_call 18; refine (bhas_any b g q _ _ hA5.bits).mono ?_; rw [G3.out]; rintro e w' ⟨rfl, rfl⟩) | (go_at_call 16; refine (pleft_any pb b g _ _ hA5).mono ?_; rw [F3.out, G4.out, hL1]; rintro e w6 ⟨rfl, hK6⟩))
      have hA6 := hA5.keep hK6 (by simp) (by simp) (by simp)
      have hK7 := (hK4.trans hK5).trans (hK6.mono (by simp))
      go_roundw
      case rel => exact ⟨q + 1, by go_num, by omega, by omega, hA6, hK7⟩
      case measure => simp [intOf]; omega
    · obtain rfl : q = m := by omega
      go_wp2_with fail
      refine (ptake_no pb b g 1 _ _ hA4 (by omega) (by omega) F4.out).mono ?_
      rintro e w' ⟨rfl, rfl⟩
      go_wp2_with fail
      refine (pgive_yes pb b g j 1 _ _ hA4 (by omega) (by omega) F5.out).mono ?_
      rintro e w6 ⟨rfl, hA6, hK6⟩
      go_wp2_with fail
      refine (ptake_yes pb b g 1 j _ _ hA6 (by omega) F6.out (by rw [putR_length, F3.out]; omega)).mono ?_
      rintro e w7 ⟨rfl, hA7, hK7⟩
      have hK8 := ((hK4.trans hK6).trans hK7).drop (T := []) (by simp; omega)
      clear hA4 hA6 hA7 hK4 hK6 hK7
      go_wp2_with (first | (go_at_call 9; refine (err_any _ _).mono ?_; rintro e w' ⟨rfl, rfl⟩) | (go_at_call 10; refine (awake3_any _).mono ?_; rintro e w9 ⟨rfl, hK9⟩))
      go_ret
      exact ⟨rfl, hK8.trans hK9⟩

end Go.Proofs.Ytjgfkmfhadohbaa

namespace Go.Proofs.Ytjgfkmfhadohbaa.pagesOne
open Go.RowKit
theorem walk (a0 a1 : Int) (w0 : (Lit.int .u8 a0).wf = true) (w1 : (Lit.int .u8 a1).wf = true) (w : World) :
    Calls Try.prog 5 #[.int .u8 a0, .int .u8 a1] w fun e w' => e = .returned (.bool true) ∧ Keep [] w w' := by
  have h0 := bounds_u8 w0
  have h1 := bounds_u8 w1
  obtain ⟨k, rfl⟩ := Int.eq_ofNat_of_zero_le h0.1
  obtain ⟨n, rfl⟩ := Int.eq_ofNat_of_zero_le h1.1
  exact one_any k n w (by omega) (by omega)
end Go.Proofs.Ytjgfkmfhadohbaa.pagesOne
