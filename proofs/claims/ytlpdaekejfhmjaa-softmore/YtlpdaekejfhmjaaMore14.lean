/-
  SoftMore answers true, whatever it is given.
-/
import Derived.Test.YtlpdaekejfhmjaaSoft
import Derived.Test.YtlpdaekejfhmjaaLists
import Derived.Deep.CutRange
namespace Go.Proofs.Ytlpdaekejfhmjaa
open Go.RowKit

/-- A number and one from 0 on, at most the greatest one. -/
def upBy (x k : Int) : Int := if 9223372036854775807 - k < x then 9223372036854775807 else x + k
theorem upBy_i64 {x k : Int} (h : I64 x) (h0 : 0 ≤ k) : I64 (upBy x k) := by
  unfold I64 at *; unfold upBy; split <;> omega
theorem upBy_le {x k : Int} (h : I64 x) (h0 : 0 ≤ k) : x ≤ upBy x k := by
  unfold I64 at h; unfold upBy; split <;> omega

set_option maxHeartbeats 400000 in
theorem up_any (x k : Int) (hx : I64 x) (h0 : 0 ≤ k) (h1 : k ≤ 9223372036854775807) (w : World) :
    Calls Try.prog 17 #[.int .i64 x, .int .i64 k] w fun e w' => e = .returned (.int .i64 (upBy x k)) ∧ Keep [] w w' := by
  obtain ⟨x1, x2⟩ := hx
  by_cases h : 9223372036854775807 - k < x
  · have HU := (show Hid (upBy x k = 9223372036854775807) from by show _ = _; unfold upBy; rw [if_pos h])
    go_enter Try.func17, Try.ntmps17
    go_wp2_with fail
    go_ret
    exact ⟨by rw [HU.out]; rfl, Keep.refl _ _⟩
  · have HU := (show Hid (upBy x k = x + k) from by show _ = _; unfold upBy; rw [if_neg h])
    go_enter Try.func17, Try.ntmps17
    go_wp2_with fail
    go_ret
    exact ⟨by rw [HU.out]; rfl, Keep.refl _ _⟩

theorem upZ_mono {a b : Int} (h : a ≤ b) : upZ a ≤ upZ b := by
  have := upZ_of a; have := upZ_of b; omega
theorem capM_mono {a b : Int} (h : a ≤ b) : capM a ≤ capM b := by
  unfold capM
  repeat' split
  all_goals omega
theorem limit_mono {c c' d d' : Int} (h : c ≤ c') (h' : d ≤ d') : limitI c d ≤ limitI c' d' := by
  unfold limitI
  exact capM_mono (Int.mul_le_mul (upZ_mono h) (upZ_mono h') (upZ_of d).1 (upZ_of c').1)
theorem idle_mono {a a' b b' : Int} (h : a ≤ a') (h' : b' ≤ b) : idleI a b ≤ idleI a' b' := by
  unfold idleI
  have := upZ_mono h; have := upZ_mono h'
  exact upZ_mono (by omega)
theorem later_one (a k : Int) (h : I64 a) (h0 : 0 ≤ k) (h1 : k ≤ 9223372036854775807) : upZ a ≤ laterI a [k] ∧ k ≤ laterI a [k] := by
  have := upZ_i64 h
  have := upZ_of a
  unfold laterI
  rw [sumU_cons, sumU_nil, upZ_pos k h0]
  unfold capM
  split <;> omega

/-- What the statement's calls answer, of any numbers. -/
structure MoreF (a b c d k : Int) (kp : Bool) (i l t : Int) : Prop where
  keep : decide (idleI a b ≤ limitI c d) = kp
  idle : idleI a b = i
  limit : limitI c d = l
  later : laterI a [k] = t
  free : kp = true → decide (idleI a b ≤ limitI (upBy c k) d) = true
  rate : kp = true → decide (idleI a b ≤ limitI c (upBy d k)) = true
  stamp : kp = true → decide (idleI a (upBy b k) ≤ limitI c d) = true
  clock : kp = false → decide (idleI (upBy a k) b ≤ limitI c d) = false
theorem more_f (a b c d k : Int) (ha : I64 a) (hb : I64 b) (hc : I64 c) (hd : I64 d) (h0 : 0 ≤ k) :
    MoreF a b c d k (decide (idleI a b ≤ limitI c d)) (idleI a b) (limitI c d) (laterI a [k]) := by
  refine ⟨rfl, rfl, rfl, rfl, fun h => ?_, fun h => ?_, fun h => ?_, fun h => ?_⟩
  · rw [decide_eq_true_iff] at h ⊢; have := limit_mono (upBy_le hc h0) (Int.le_refl d); omega
  · rw [decide_eq_true_iff] at h ⊢; have := limit_mono (Int.le_refl c) (upBy_le hd h0); omega
  · rw [decide_eq_true_iff] at h ⊢; have := idle_mono (Int.le_refl a) (upBy_le hb h0); omega
  · rw [decide_eq_false_iff_not] at h ⊢; have := idle_mono (upBy_le ha h0) (Int.le_refl b); omega

set_option maxRecDepth 100000 in
set_option maxHeartbeats 8000000 in
theorem more_any (a b c d m : Int) (ha : I64 a) (hb : I64 b) (hc : I64 c) (hd : I64 d) (hm : I64 m) (w : World) :
    Calls Try.prog 4 #[.int .i64 a, .int .i64 b, .int .i64 c, .int .i64 d, .int .i64 m] w fun e w' => e = .returned (.bool true) ∧ Keep [] w w' := by
  have hk : ∃ k : Int, (m < 0 ∧ k = 0) ∨ (0 ≤ m ∧ k = m) := ⟨upZ m, by unfold upZ; split <;> omega⟩
  obtain ⟨k, hk⟩ := hk
  have h0 : 0 ≤ k ∧ k ≤ 9223372036854775807 := by unfold I64 at hm; omega
  have hl := limit_le c d
  have hi := idle_le b ha
  have ht := later_one a k ha h0.1 h0.2
  have ht2 := later_le a [k]
  have hF := more_f a b c d k ha hb hc hd h0.1
  have HUA := (show Hid (I64 (upBy a k)) from upBy_i64 ha h0.1)
  have HUB := (show Hid (I64 (upBy b k)) from upBy_i64 hb h0.1)
  have HUC := (show Hid (I64 (upBy c k)) from upBy_i64 hc h0.1)
  have HUD := (show Hid (I64 (upBy d k)) from upBy_i64 hd h0.1)
  have hax : (a < 0 ∧ upZ a = 0) ∨ (0 ≤ a ∧ upZ a = a) := by unfold upZ; split <;> omega
  generalize decide (idleI a b ≤ limitI c d) = kp at hF
  generalize idleI a b = i at hF hi
  generalize limitI c d = l at hF hl
  generalize laterI a [k] = t at hF ht ht2
  generalize upZ a = za at hax ht
  have HF := (show Hid (MoreF a b c d k kp i l t) from hF)
  have HA := (show Hid (I64 a) from ha)
  have HB := (show Hid (I64 b) from hb)
  have HC := (show Hid (I64 c) from hc)
  have HD := (show Hid (I64 d) from hd)
  have HK := (show Hid (I64 k) from ⟨by omega, h0.2⟩)
  obtain ⟨a1, a2⟩ := ha
  obtain ⟨m1, m2⟩ := hm
  have ht0 : 0 ≤ t := ht2.1
  have hta : a ≤ t := by omega
  have htk : k ≤ t := ht.2
  have hi0 : 0 ≤ i := hi.1
  have hl0 : 0 ≤ l := hl.1
  obtain ⟨k1, k2⟩ := h0
  clear hF hb hc hd hi hl ht ht2 hax
  have K1 : 0 ≤ k ∧ k ≤ 9223372036854775807 := ⟨k1, k2⟩
  cases kp
  · rcases hk with ⟨hm, rfl⟩ | ⟨hm, rfl⟩
    all_goals
      go_enter Try.func4, Try.ntmps4
      go_wp2_with fail
      refine (keep_any a b c d HA.out HB.out HC.out HD.out _).mono ?_
      rw [HF.out.keep]
      rintro e w1 ⟨rfl, hK1⟩
      go_wp2_with fail
      refine (limit_any c d HC.out HD.out _).mono ?_
      rw [HF.out.limit]
      rintro e w2 ⟨rfl, hK2⟩
      go_wp2_with fail
      refine (later_any a _ 1 1 [_] _ HA.out (IntsAt.single w2 3 _ HK.out.1 HK.out.2) rfl (by omega)).mono ?_
      rw [HF.out.later]
      rintro e w3 ⟨rfl, hK3⟩
      have hKK := (hK1.trans hK2).trans ((Keep.alloc [] w2 _).trans hK3)
      clear hK1 hK2 hK3
      go_upto_region 5 with fail
      simp only [List.append_eq, List.cons_append, List.nil_append]
      go_wp2_with fail
      refine (up_any a _ HA.out k1 k2 _).mono ?_
      rintro e w4 ⟨rfl, hK4⟩
      have hKK := hKK.trans hK4
      clear hK4
      go_wp2_with fail
      refine (keep_any _ b c d HUA.out HB.out HC.out HD.out _).mono ?_
      rw [HF.out.clock rfl]
      rintro e w4 ⟨rfl, hK4⟩
      have hKK := hKK.trans hK4
      clear hK4
      go_wp2_with fail
      refine (idle_any a b HA.out HB.out _).mono ?_
      rw [HF.out.idle]
      rintro e w4 ⟨rfl, hK4⟩
      have hKK := hKK.trans hK4
      clear hK4
      go_wp2_with fail
      all_goals
        refine (awake14_any _).mono ?_
        rintro e w4 ⟨rfl, hK4⟩
        go_wp2_with fail
        go_ret
        exact ⟨rfl, hKK.trans hK4⟩
  · rcases hk with ⟨hm, rfl⟩ | ⟨hm, rfl⟩
    all_goals
      go_enter Try.func4, Try.ntmps4
      go_wp2_with fail
      refine (keep_any a b c d HA.out HB.out HC.out HD.out _).mono ?_
      rw [HF.out.keep]
      rintro e w1 ⟨rfl, hK1⟩
      go_wp2_with fail
      refine (limit_any c d HC.out HD.out _).mono ?_
      rw [HF.out.limit]
      rintro e w2 ⟨rfl, hK2⟩
      go_wp2_with fail
      refine (later_any a _ 1 1 [_] _ HA.out (IntsAt.single w2 3 _ HK.out.1 HK.out.2) rfl (by omega)).mono ?_
      rw [HF.out.later]
      rintro e w3 ⟨rfl, hK3⟩
      have hKK := (hK1.trans hK2).trans ((Keep.alloc [] w2 _).trans hK3)
      clear hK1 hK2 hK3
      go_upto_region 5 with fail
      simp only [List.append_eq, List.cons_append, List.nil_append]
      go_wp2_with fail
      refine (up_any c _ HC.out k1 k2 _).mono ?_
      rintro e w4 ⟨rfl, hK4⟩
      have hKK := hKK.trans hK4
      clear hK4
      go_wp2_with fail
      refine (keep_any a b _ d HA.out HB.out HUC.out HD.out _).mono ?_
      rw [HF.out.free rfl]
      rintro e w4 ⟨rfl, hK4⟩
      have hKK := hKK.trans hK4
      clear hK4
      go_wp2_with fail
      refine (up_any d _ HD.out k1 k2 _).mono ?_
      rintro e w4 ⟨rfl, hK4⟩
      have hKK := hKK.trans hK4
      clear hK4
      go_wp2_with fail
      refine (keep_any a b c _ HA.out HB.out HC.out HUD.out _).mono ?_
      rw [HF.out.rate rfl]
      rintro e w4 ⟨rfl, hK4⟩
      have hKK := hKK.trans hK4
      clear hK4
      go_wp2_with fail
      refine (up_any b _ HB.out k1 k2 _).mono ?_
      rintro e w4 ⟨rfl, hK4⟩
      have hKK := hKK.trans hK4
      clear hK4
      go_wp2_with fail
      refine (keep_any a _ c d HA.out HUB.out HC.out HD.out _).mono ?_
      rw [HF.out.stamp rfl]
      rintro e w4 ⟨rfl, hK4⟩
      have hKK := hKK.trans hK4
      clear hK4
      go_wp2_with fail
      refine (idle_any a b HA.out HB.out _).mono ?_
      rw [HF.out.idle]
      rintro e w4 ⟨rfl, hK4⟩
      have hKK := hKK.trans hK4
      clear hK4
      go_wp2_with fail
      all_goals
        refine (awake14_any _).mono ?_
        rintro e w4 ⟨rfl, hK4⟩
        go_wp2_with fail
        go_ret
        exact ⟨rfl, hKK.trans hK4⟩

end Go.Proofs.Ytlpdaekejfhmjaa

namespace Go.Proofs.Ytlpdaekejfhmjaa.softMore
theorem walk (a0 a1 a2 a3 a4 : Int) (w0 : (Lit.int .i64 a0).wf = true) (w1 : (Lit.int .i64 a1).wf = true) (w2 : (Lit.int .i64 a2).wf = true) (w3 : (Lit.int .i64 a3).wf = true) (w4 : (Lit.int .i64 a4).wf = true) (w : World) :
    Calls Try.prog 4 #[.int .i64 a0, .int .i64 a1, .int .i64 a2, .int .i64 a3, .int .i64 a4] w fun e w' => e = .returned (.bool true) ∧ Keep [] w w' :=
  more_any a0 a1 a2 a3 a4 (i64_wf w0) (i64_wf w1) (i64_wf w2) (i64_wf w3) (i64_wf w4) w
end Go.Proofs.Ytlpdaekejfhmjaa.softMore
