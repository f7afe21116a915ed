/-
  BitsEnds answers true, whatever it is given.
-/
import Derived.Test.YtlknacpnckiklaaAwake2
import Derived.ProofKit
import Derived.OpenShut
namespace Go.Proofs.Ytlknacpnckiklaa
open Go.RowKit

theorem offs_next (m i : Nat) : nextR (offs m) i true = -1 := by
  rcases nextR_spec (offs m) true _ i rfl with ⟨h, _⟩ | ⟨j, _, _, _, h, _⟩
  · exact h
  · rw [offs_get] at h; cases h
theorem offs_first (m : Nat) (f : Int) (h : f ≤ 0) (hm : 1 ≤ m) : nextR (offs m) f.toNat false = 0 := by
  rw [show f.toNat = 0 by omega, nextR_yes _ 0 _ (by rw [offs_length]; omega) (offs_get _ _)]; rfl
theorem next_over (xs : List Bool) (f : Int) (v : Bool) (h : (xs.length : Int) ≤ f) : nextR xs f.toNat v = -1 := nextR_end _ _ _ (by omega)
theorem offs_clear (m i k : Nat) (h : i + k ≤ m) : Clear (offs m) i k := ⟨by rw [offs_length]; exact h, fun _ _ _ => offs_get _ _⟩
theorem run_first (xs : List Bool) (f : Int) (k : Nat) (hf : f ≤ 0) (hk : 1 ≤ k) (h : Clear xs 0 k) : runI xs f k = 0 := by
  unfold runI
  rw [if_neg (by omega), Int.toNat_natCast, show f.toNat = 0 by omega, runR_yes _ _ _ hk h]; rfl
theorem run_over (xs : List Bool) (f k : Int) (h : (xs.length : Int) < max f 0 + k) : runI xs f k = -1 := by
  unfold runI
  by_cases hk : k < 1
  · rw [if_pos hk]
  · rw [if_neg hk, runR_end _ _ _ (by omega)]
theorem run_none (xs : List Bool) (f k : Int) (h : k < 1) : runI xs f k = -1 := by unfold runI; rw [if_pos h]
/-- One of m is so. -/
def one (m j : Nat) : List Bool := (offs m).set j true
theorem one_length (m j : Nat) : (one m j).length = m := by unfold one; rw [List.length_set, offs_length]
theorem one_get (m j t : Nat) (h : j < m) : (one m j)[t]?.getD false = decide (t = j) := by
  unfold one
  by_cases e : t = j
  · subst e; rw [bset_same _ _ _ (by rw [offs_length]; exact h)]; simp
  · rw [bset_other _ _ _ _ (by omega), offs_get]; simp [e]
theorem one_next (m j : Nat) (f : Int) (h : j < m) (hf : f ≤ 0) : nextR (one m j) f.toNat true = j :=
  nextR_is _ _ _ _ (by omega) (by rw [one_length]; exact h) (by rw [one_get _ _ _ h]; simp) (fun t _ b => by rw [one_get _ _ _ h]; simp; omega)
theorem one_last (m j : Nat) (h : j < m) : nextR (one m j) ((j : Int) + 1).toNat true = -1 :=
  nextR_none _ _ _ (fun t a _ => by rw [one_get _ _ _ h]; simp; omega)
theorem one_gap (m j : Nat) (f : Int) (h : j < m) (hf : f ≤ 0) (hj : 0 < j) : nextR (one m j) f.toNat false = 0 :=
  nextR_is _ _ _ 0 (by omega) (by rw [one_length]; omega) (by rw [one_get _ _ _ h]; simp; omega) (fun t _ b => by omega)
theorem one_gap1 (m j : Nat) (f : Int) (h : 1 < m) (hf : f ≤ 0) (hj : j = 0) : nextR (one m j) f.toNat false = 1 := by
  subst hj
  exact nextR_is _ _ _ 1 (by omega) (by rw [one_length]; omega) (by rw [one_get _ _ _ (by omega)]; simp) (fun t _ b => by rw [one_get _ _ _ (by omega)]; simp; omega)
theorem one_gap0 (m j : Nat) (f : Int) (hm : m = 1) (hj : j = 0) : nextR (one m j) f.toNat false = -1 := by
  subst hm hj
  exact nextR_none _ _ _ (fun t _ b => by rw [one_length] at b; rw [one_get _ _ _ (by omega)]; simp; omega)
theorem one_all (m j : Nat) (h : j < m) : runI (one m j) 0 m = -1 := by
  unfold runI
  rw [if_neg (by omega), Int.toNat_natCast]
  refine runR_none _ _ _ (by omega) (fun s _ c => ?_)
  have h1 := c.1
  rw [one_length] at h1
  have := c.2 j (by omega) (by omega)
  rw [one_get _ _ _ h] at this; simp at this
theorem one_low (m j : Nat) (h : j < m) (hj : 0 < j) : runI (one m j) 0 j = 0 :=
  run_first _ _ _ (by omega) hj ⟨by rw [one_length]; omega, fun t _ b => by rw [one_get _ _ _ h]; simp; omega⟩
theorem one_high (m j : Nat) (h : 0 < (m : Int) - 1 - j) : runI (one m j) j ((m : Int) - 1 - j) = (j : Int) + 1 := by
  unfold runI
  rw [if_neg (by omega), Int.toNat_natCast]
  rw [runR_is _ _ _ (j + 1) (by omega) (by omega) ⟨by rw [one_length]; omega, fun t a _ => by rw [one_get _ _ _ (by omega)]; simp; omega⟩ (fun s a b c => ?_)]
  · omega
  · have := c.2 j (by omega) (by omega)
    rw [one_get _ _ _ (by omega)] at this; simp at this
theorem has_out (xs : List Bool) (i : Int) (h : i < 0 ∨ (xs.length : Int) ≤ i) : hasR xs i = false := by
  unfold hasR; rw [isPl_false (by omega)]; rfl

set_option maxRecDepth 100000 in
set_option maxHeartbeats 16000000 in
theorem ends_any (n a : Nat) (f k : Int) (w : World) (hn : n < 256) (ha : a < 256) (hf1 : -9223372036854775808 ≤ f) (hf2 : f ≤ 9223372036854775807) (hk2 : k ≤ 9223372036854775807) :
    Calls Try.prog 7 #[.int .u8 n, .int .i64 f, .int .i64 k, .int .u8 a] w fun e w' => e = .returned (.bool true) ∧ Keep [] w w' := by
  obtain ⟨m, hm1, hm2, hm3⟩ : ∃ m : Nat, 1 + (n : Int) % 100 = m ∧ 1 ≤ m ∧ m ≤ 100 := ⟨1 + n % 100, by omega, by omega, by omega⟩
  obtain ⟨j, hj1, hj2⟩ : ∃ j : Nat, (a : Int) % (m : Int) = j ∧ j < m := ⟨a % m, by omega, Nat.mod_lt _ (by omega)⟩
  have l0 := (show Hid ((offs m).length = m) from offs_length m)
  obtain ⟨lo, hlo, hlo1, hlo2⟩ : ∃ lo : Int, (if 0 < f then 0 else f) = lo ∧ lo ≤ 0 ∧ -9223372036854775808 ≤ lo := ⟨_, rfl, by split <;> omega, by split <;> omega⟩
  obtain ⟨hi, hhi, hhi1, hhi2⟩ : ∃ hi : Int, (if f < (m : Int) then (m : Int) else f) = hi ∧ (m : Int) ≤ hi ∧ hi ≤ 9223372036854775807 := ⟨_, rfl, by split <;> omega, by split <;> omega⟩
  obtain ⟨kh, hkh, hkh1, hkh2⟩ : ∃ kh : Int, (if k < (m : Int) + 1 then (m : Int) + 1 else k) = kh ∧ (m : Int) < kh ∧ kh ≤ 9223372036854775807 := ⟨_, rfl, by split <;> omega, by split <;> omega⟩
  obtain ⟨kl, hkl, hkl1⟩ : ∃ kl : Int, (if 0 < k then 0 else k) = kl ∧ kl ≤ 0 := ⟨_, rfl, by split <;> omega⟩
  clear hf1 hf2 hk2
  go_enter Try.func7, Try.ntmps7
  go_wp2_with fail
  refine (bnew_ok m w (by omega)).mono ?_
  rintro e w1 ⟨b, g, rfl, hA, hK, hb, hg⟩
  go_wp2_with (first | (go_at_call 9; refine (err_any _ _).mono ?_; rintro e w' ⟨rfl, rfl⟩))
  refine (bnext_any _ _ _ _ _ _ hA (by omega)).mono ?_
  rw [offs_next]; rintro e w2 ⟨rfl, rfl⟩
  go_wp2_with fail
  refine (bnext_any _ _ _ _ _ _ hA (by omega)).mono ?_
  rw [offs_first _ _ (by omega) hm2]; rintro e w2 ⟨rfl, rfl⟩
  go_wp2_with fail
  refine (bnext_any _ _ _ _ _ _ hA (by omega)).mono ?_
  rw [next_over _ _ _ (by rw [l0.out]; omega)]; rintro e w2 ⟨rfl, rfl⟩
  go_wp2_with fail
  refine (brun_any _ _ _ _ _ _ hA (by omega) (by omega)).mono ?_
  rw [run_first _ _ _ (by omega) hm2 (offs_clear _ _ _ (by omega))]; rintro e w2 ⟨rfl, rfl⟩
  go_wp2_with fail
  refine (brun_any _ _ _ _ _ _ hA (by omega) (by omega)).mono ?_
  rw [run_over _ _ _ (by rw [l0.out]; omega)]; rintro e w2 ⟨rfl, rfl⟩
  go_wp2_with fail
  refine (brun_any _ _ _ _ _ _ hA (by omega) (by omega)).mono ?_
  rw [run_over _ _ _ (by rw [l0.out]; omega)]; rintro e w2 ⟨rfl, rfl⟩
  go_wp2_with fail
  refine (brun_any _ _ _ _ _ _ hA (by omega) (by omega)).mono ?_
  rw [run_none _ _ _ (by omega)]; rintro e w2 ⟨rfl, rfl⟩
  go_wp2_with fail
  refine (bset_one b g j true _ w1 hA (by rw [l0.out]; exact hj2)).mono ?_
  rintro e w2 ⟨rfl, hA1, hK2⟩
  replace hA1 : IsBits w2 b g (one m j) := hA1
  clear hA
  rcases (show (j = 0 ∧ m = 1) ∨ (j = 0 ∧ 1 < m) ∨ (0 < j ∧ j + 1 < m) ∨ (0 < j ∧ m = j + 1) by omega) with ⟨hj3, hj4⟩ | ⟨hj3, hj4⟩ | ⟨hj3, hj4⟩ | ⟨hj3, hj4⟩
  · have c1 : ((j : Int) == 0) = true := by rw [beq_iff_eq]; omega
    have c2 : decide (1 < (m : Int)) = false := by rw [decide_eq_false_iff_not]; omega
    have c3 : ((m : Int) - 1 - j == 0) = true := by rw [beq_iff_eq]; omega
    have H3 := (show Hid (j = 0) from hj3)
    have H4 := (show Hid (m = 1) from hj4)
    clear hj3 hj4
    go_wp2_with fail
    refine (bnext_any _ _ _ _ _ _ hA1 (by omega)).mono ?_
    rw [one_next _ _ _ hj2 (by omega)]; rintro e w3 ⟨rfl, rfl⟩
    go_wp2_with fail
    refine (bnext_any _ _ _ _ _ _ hA1 (by omega)).mono ?_
    rw [one_last _ _ hj2]; rintro e w3 ⟨rfl, rfl⟩
    go_wp2_with fail
    refine (bnext_any _ _ _ _ _ _ hA1 (by omega)).mono ?_
    rw [one_gap0 _ _ _ H4.out H3.out]; rintro e w3 ⟨rfl, rfl⟩
    go_wp2_with fail
    refine (brun_any _ _ _ _ _ _ hA1 (by omega) (by omega)).mono ?_
    rw [one_all _ _ hj2]; rintro e w3 ⟨rfl, rfl⟩
    go_wp2_with fail
    refine (bhas_any _ _ _ _ _ hA1).mono ?_
    rw [has_out _ _ (by rw [one_length]; first | omega | (unfold wrap64; omega))]; rintro e w3 ⟨rfl, rfl⟩
    go_wp2_with fail
    refine (bhas_any _ _ _ _ _ hA1).mono ?_
    rw [has_out _ _ (by rw [one_length]; omega)]; rintro e w3 ⟨rfl, rfl⟩
    go_wp2_with (go_at_call 10; refine (awake2_any _).mono ?_; rintro e w8 ⟨rfl, hK8⟩)
    go_ret
    exact ⟨rfl, ((hK.mono (by simp)).trans (hK2.trans (hK8.mono (by simp)))).drop (by simp; omega)⟩
  · have c1 : ((j : Int) == 0) = true := by rw [beq_iff_eq]; omega
    have c2 : decide (1 < (m : Int)) = true := by rw [decide_eq_true_iff]; omega
    have c3 : ((m : Int) - 1 - j == 0) = false := by rw [beq_eq_false_iff_ne]; omega
    have H3 := (show Hid (j = 0) from hj3)
    clear hj3
    go_wp2_with fail
    refine (bnext_any _ _ _ _ _ _ hA1 (by omega)).mono ?_
    rw [one_next _ _ _ hj2 (by omega)]; rintro e w3 ⟨rfl, rfl⟩
    go_wp2_with fail
    refine (bnext_any _ _ _ _ _ _ hA1 (by omega)).mono ?_
    rw [one_last _ _ hj2]; rintro e w3 ⟨rfl, rfl⟩
    go_wp2_with fail
    refine (bnext_any _ _ _ _ _ _ hA1 (by omega)).mono ?_
    rw [one_gap1 _ _ _ hj4 (by omega) H3.out]; rintro e w3 ⟨rfl, rfl⟩
    go_wp2_with fail
    refine (brun_any _ _ _ _ _ _ hA1 (by omega) (by omega)).mono ?_
    rw [one_all _ _ hj2]; rintro e w3 ⟨rfl, rfl⟩
    go_wp2_with fail
    refine (brun_any _ _ _ _ _ _ hA1 (by omega) (by omega)).mono ?_
    rw [one_high _ _ (by have := H3.out; omega)]; rintro e w3 ⟨rfl, rfl⟩
    go_wp2_with fail
    refine (bhas_any _ _ _ _ _ hA1).mono ?_
    rw [has_out _ _ (by rw [one_length]; first | omega | (unfold wrap64; omega))]; rintro e w3 ⟨rfl, rfl⟩
    go_wp2_with fail
    refine (bhas_any _ _ _ _ _ hA1).mono ?_
    rw [has_out _ _ (by rw [one_length]; omega)]; rintro e w3 ⟨rfl, rfl⟩
    go_wp2_with (go_at_call 10; refine (awake2_any _).mono ?_; rintro e w8 ⟨rfl, hK8⟩)
    go_ret
    exact ⟨rfl, ((hK.mono (by simp)).trans (hK2.trans (hK8.mono (by simp)))).drop (by simp; omega)⟩
  · have c1 : ((j : Int) == 0) = false := by rw [beq_eq_false_iff_ne]; omega
    have c3 : ((m : Int) - 1 - j == 0) = false := by rw [beq_eq_false_iff_ne]; omega
    go_wp2_with fail
    refine (bnext_any _ _ _ _ _ _ hA1 (by omega)).mono ?_
    rw [one_next _ _ _ hj2 (by omega)]; rintro e w3 ⟨rfl, rfl⟩
    go_wp2_with fail
    refine (bnext_any _ _ _ _ _ _ hA1 (by omega)).mono ?_
    rw [one_last _ _ hj2]; rintro e w3 ⟨rfl, rfl⟩
    go_wp2_with fail
    refine (bnext_any _ _ _ _ _ _ hA1 (by omega)).mono ?_
    rw [one_gap _ _ _ hj2 (by omega) hj3]; rintro e w3 ⟨rfl, rfl⟩
    go_wp2_with fail
    refine (brun_any _ _ _ _ _ _ hA1 (by omega) (by omega)).mono ?_
    rw [one_all _ _ hj2]; rintro e w3 ⟨rfl, rfl⟩
    go_wp2_with fail
    refine (brun_any _ _ _ _ _ _ hA1 (by omega) (by omega)).mono ?_
    rw [one_low _ _ hj2 hj3]; rintro e w3 ⟨rfl, rfl⟩
    go_wp2_with fail
    refine (brun_any _ _ _ _ _ _ hA1 (by omega) (by omega)).mono ?_
    rw [one_high _ _ (by omega)]; rintro e w3 ⟨rfl, rfl⟩
    go_wp2_with fail
    refine (bhas_any _ _ _ _ _ hA1).mono ?_
    rw [has_out _ _ (by rw [one_length]; first | omega | (unfold wrap64; omega))]; rintro e w3 ⟨rfl, rfl⟩
    go_wp2_with fail
    refine (bhas_any _ _ _ _ _ hA1).mono ?_
    rw [has_out _ _ (by rw [one_length]; omega)]; rintro e w3 ⟨rfl, rfl⟩
    go_wp2_with (go_at_call 10; refine (awake2_any _).mono ?_; rintro e w8 ⟨rfl, hK8⟩)
    go_ret
    exact ⟨rfl, ((hK.mono (by simp)).trans (hK2.trans (hK8.mono (by simp)))).drop (by simp; omega)⟩
  · have c1 : ((j : Int) == 0) = false := by rw [beq_eq_false_iff_ne]; omega
    have c3 : ((m : Int) - 1 - j == 0) = true := by rw [beq_iff_eq]; omega
    clear hj4
    go_wp2_with fail
    refine (bnext_any _ _ _ _ _ _ hA1 (by omega)).mono ?_
    rw [one_next _ _ _ hj2 (by omega)]; rintro e w3 ⟨rfl, rfl⟩
    go_wp2_with fail
    refine (bnext_any _ _ _ _ _ _ hA1 (by omega)).mono ?_
    rw [one_last _ _ hj2]; rintro e w3 ⟨rfl, rfl⟩
    go_wp2_with fail
    refine (bnext_any _ _ _ _ _ _ hA1 (by omega)).mono ?_
    rw [one_gap _ _ _ hj2 (by omega) hj3]; rintro e w3 ⟨rfl, rfl⟩
    go_wp2_with fail
    refine (brun_any _ _ _ _ _ _ hA1 (by omega) (by omega)).mono ?_
    rw [one_all _ _ hj2]; rintro e w3 ⟨rfl, rfl⟩
    go_wp2_with fail
    refine (brun_any _ _ _ _ _ _ hA1 (by omega) (by omega)).mono ?_
    rw [one_low _ _ hj2 hj3]; rintro e w3 ⟨rfl, rfl⟩
    go_wp2_with fail
    refine (bhas_any _ _ _ _ _ hA1).mono ?_
    rw [has_out _ _ (by rw [one_length]; first | omega | (unfold wrap64; omega))]; rintro e w3 ⟨rfl, rfl⟩
    go_wp2_with fail
    refine (bhas_any _ _ _ _ _ hA1).mono ?_
    rw [has_out _ _ (by rw [one_length]; omega)]; rintro e w3 ⟨rfl, rfl⟩
    go_wp2_with (go_at_call 10; refine (awake2_any _).mono ?_; rintro e w8 ⟨rfl, hK8⟩)
    go_ret
    exact ⟨rfl, ((hK.mono (by simp)).trans (hK2.trans (hK8.mono (by simp)))).drop (by simp; omega)⟩


end Go.Proofs.Ytlknacpnckiklaa

namespace Go.Proofs.Ytlknacpnckiklaa.bitsEnds
open Go.RowKit
theorem walk (a0 a1 a2 a3 : Int) (w0 : (Lit.int .u8 a0).wf = true) (w1 : (Lit.int .i64 a1).wf = true) (w2 : (Lit.int .i64 a2).wf = true) (w3 : (Lit.int .u8 a3).wf = true) (w : World) :
    Calls Try.prog 7 #[.int .u8 a0, .int .i64 a1, .int .i64 a2, .int .u8 a3] w fun e w' => e = .returned (.bool true) ∧ Keep [] w w' := by
  have h0 := bounds_u8 w0
  have h1 := bounds_i64 w1
  have h2 := bounds_i64 w2
  have h3 := bounds_u8 w3
  obtain ⟨n, rfl⟩ := Int.eq_ofNat_of_zero_le h0.1
  obtain ⟨a, rfl⟩ := Int.eq_ofNat_of_zero_le h3.1
  exact ends_any n a a1 a2 w (by omega) (by omega) (by omega) (by omega) (by omega)
end Go.Proofs.Ytlknacpnckiklaa.bitsEnds
