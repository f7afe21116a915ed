/-
  SoftTurns answers true, whatever it is given.
-/
import Derived.Test.YtlpdaekejfhmjaaSoft
namespace Go.Proofs.Ytlpdaekejfhmjaa
open Go.RowKit

theorem limit_low (c d : Int) (h : c ≤ 0 ∨ d ≤ 0) : limitI c d = 0 := by
  have hc := upZ_of c
  have hd := upZ_of d
  unfold limitI
  rcases h with h | h
  · rw [show upZ c = 0 by omega, Int.zero_mul, capM_le _ (by omega)]
  · rw [show upZ d = 0 by omega, Int.mul_zero, capM_le _ (by omega)]
theorem limit_high (c d : Int) (hc : 0 < c) (hd : 0 < d) (h1 : c ≤ 9223372036854775807) (h2 : d ≤ 9223372036854775807) : c ≤ limitI c d ∧ d ≤ limitI c d := by
  have e1 : c * 1 ≤ c * d := Int.mul_le_mul_of_nonneg_left (by omega) (by omega)
  have e2 : 1 * d ≤ c * d := Int.mul_le_mul_of_nonneg_right (by omega) (by omega)
  unfold limitI
  rw [upZ_pos c (by omega), upZ_pos d (by omega)]
  unfold capM
  split <;> omega

set_option maxRecDepth 100000 in
set_option maxHeartbeats 16000000 in
theorem turns_any (a b c d : Int) (ha : I64 a) (hb : I64 b) (hc : I64 c) (hd : I64 d) (w : World) :
    Calls Try.prog 7 #[.int .i64 a, .int .i64 b, .int .i64 c, .int .i64 d] w fun e w' => e = .returned (.bool true) ∧ Keep [] w w' := by
  have hi := idle_le b ha
  have hl := limit_le c d
  have hlow := limit_low c d
  have hhigh : 0 < c → 0 < d → c ≤ limitI c d ∧ d ≤ limitI c d := fun h1 h2 => limit_high c d h1 h2 hc.2 hd.2
  have hxy : (a < 0 ∧ b < 0 ∧ idleI a b = 0) ∨ (a < 0 ∧ 0 ≤ b ∧ idleI a b = 0) ∨ (0 ≤ a ∧ a ≤ 0 ∧ b < 0 ∧ idleI a b = 0) ∨ (0 < a ∧ b < 0 ∧ idleI a b = a) ∨ (0 ≤ a ∧ 0 ≤ b ∧ a ≤ b ∧ idleI a b = 0) ∨ (0 ≤ a ∧ 0 ≤ b ∧ b < a ∧ idleI a b = a - b) := by
    have hx := upZ_of a
    have hy := upZ_of b
    have hz := upZ_of (upZ a - upZ b)
    unfold idleI
    omega
  obtain ⟨i, ei⟩ : ∃ i, idleI a b = i := ⟨_, rfl⟩
  obtain ⟨l, el⟩ : ∃ l, limitI c d = l := ⟨_, rfl⟩
  rw [ei] at hi hxy; rw [el] at hl hlow hhigh
  have HA := (show Hid (I64 a) from ha)
  have HB := (show Hid (I64 b) from hb)
  have HC := (show Hid (I64 c) from hc)
  have HD := (show Hid (I64 d) from hd)
  have HI := (show Hid (idleI a b = i) from ei)
  have HL := (show Hid (limitI c d = l) from el)
  obtain ⟨a1, a2⟩ := ha
  obtain ⟨b1, b2⟩ := hb
  obtain ⟨c1, c2⟩ := hc
  obtain ⟨d1, d2⟩ := hd
  clear ei el
  have hil : (i ≤ l ∧ Hid (decide (i ≤ l) = true)) ∨ (l < i ∧ Hid (decide (i ≤ l) = false)) := by
    by_cases h : i ≤ l
    · exact .inl ⟨h, decide_eq_true h⟩
    · exact .inr ⟨by omega, decide_eq_false h⟩
  have hcd : (c ≤ 0 ∧ l = 0) ∨ (0 < c ∧ d ≤ 0 ∧ l = 0) ∨ (0 < c ∧ 0 < d ∧ c ≤ l ∧ d ≤ l) := by
    by_cases h1 : c ≤ 0
    · exact .inl ⟨h1, hlow (.inl h1)⟩
    · by_cases h2 : d ≤ 0
      · exact .inr (.inl ⟨by omega, h2, hlow (.inr h2)⟩)
      · have := hhigh (by omega) (by omega)
        exact .inr (.inr ⟨by omega, by omega, this.1, this.2⟩)
  clear hlow hhigh
  rcases hxy with ⟨ha, hb, rfl⟩ | ⟨ha, hb, rfl⟩ | ⟨ha, ha', hb, rfl⟩ | ⟨ha, hb, rfl⟩ | ⟨ha, hb, hab, rfl⟩ | ⟨ha, hb, hab, rfl⟩
  all_goals
    rcases hcd with ⟨hc, rfl⟩ | ⟨hc, hd, rfl⟩ | ⟨hc, hd, hcl, hdl⟩
  all_goals
    rcases hil with ⟨hil, HK⟩ | ⟨hil, HK⟩
  all_goals first | (exfalso; omega) | skip
  all_goals
    go_enter Try.func7, Try.ntmps7
    go_wp2_with fail
    refine (idle_any _ b HA.out HB.out _).mono ?_
    rw [HI.out]
    rintro e w1 ⟨rfl, hK1⟩
    go_wp2_with fail
    refine (limit_any c d HC.out HD.out _).mono ?_
    rw [HL.out]
    rintro e w2 ⟨rfl, hK2⟩
    go_wp2_with fail
    refine (keep_any _ b c d HA.out HB.out HC.out HD.out _).mono ?_
    rw [HI.out, HL.out, HK.out]
    rintro e w3 ⟨rfl, hK3⟩
    go_wp2_with fail
    refine (awake14_any _).mono ?_
    rintro e w4 ⟨rfl, hK4⟩
    go_wp2_with fail
    go_ret
    refine ⟨?_, ((hK1.trans hK2).trans hK3).trans hK4⟩
    first | rfl | (show Ending.returned (.bool (!decide (_ ≤ _))) = _; rw [HK.out]; rfl)

end Go.Proofs.Ytlpdaekejfhmjaa

namespace Go.Proofs.Ytlpdaekejfhmjaa.softTurns
theorem walk (a0 a1 a2 a3 : Int) (w0 : (Lit.int .i64 a0).wf = true) (w1 : (Lit.int .i64 a1).wf = true) (w2 : (Lit.int .i64 a2).wf = true) (w3 : (Lit.int .i64 a3).wf = true) (w : World) :
    Calls Try.prog 7 #[.int .i64 a0, .int .i64 a1, .int .i64 a2, .int .i64 a3] w fun e w' => e = .returned (.bool true) ∧ Keep [] w w' :=
  turns_any a0 a1 a2 a3 (i64_wf w0) (i64_wf w1) (i64_wf w2) (i64_wf w3) w
end Go.Proofs.Ytlpdaekejfhmjaa.softTurns
