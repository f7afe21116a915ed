/-
  SoftEdges answers true, whatever it is given.
-/
import Derived.Test.YtlpdaekejfhmjaaSoft
import Derived.Test.YtlpdaekejfhmjaaLists
import Derived.Deep.CutRange
namespace Go.Proofs.Ytlpdaekejfhmjaa
open Go.RowKit

theorem idle_up (s p : Int) (hs : 0 ≤ s) (hp : 0 ≤ p) : idleI (s + p) s = p := by
  unfold idleI
  rw [upZ_pos s hs, upZ_pos (s + p) (by omega), upZ_pos _ (by omega)]; omega
theorem idle_same (s : Int) : idleI s s = 0 := by
  unfold idleI
  rw [Int.sub_self]; rfl
theorem idle_back (s k : Int) (hs : 0 ≤ s) (hk : 0 ≤ k) : idleI s (s + k) = 0 := by
  have h := upZ_of (upZ s - upZ (s + k))
  unfold idleI
  rw [upZ_pos s hs, upZ_pos (s + k) (by omega)] at *
  omega
theorem limit_zero (d : Int) : limitI 0 d = 0 := by
  unfold limitI
  rw [show upZ 0 = 0 from rfl, Int.zero_mul]; rfl
theorem limit_null (c : Int) : limitI c 0 = 0 := by
  unfold limitI
  rw [show upZ 0 = 0 from rfl, Int.mul_zero]; rfl
theorem limit_least (m d : Int) (hm : m ≤ 0) : limitI m d = 0 := by
  have h := upZ_of m
  unfold limitI
  rw [show upZ m = 0 by omega, Int.zero_mul]; rfl
theorem later_least (s m : Int) (hs : 0 ≤ s) (h2 : s ≤ 65535) (hm : m ≤ 0) : laterI s [m] = s := by
  have h := upZ_of m
  unfold laterI
  rw [sumU_cons, sumU_nil, show upZ m = 0 by omega, upZ_pos s hs]
  exact capM_le _ (by omega) |>.trans (by omega)
theorem least_later (s m : Int) (hs : 0 ≤ s) (h2 : s ≤ 65535) (hm : m ≤ 0) : laterI m [s] = s := by
  have h := upZ_of m
  unfold laterI
  rw [sumU_cons, sumU_nil, show upZ m = 0 by omega, upZ_pos s hs]
  exact capM_le _ (by omega) |>.trans (by omega)
theorem far1 : laterI 9223372036854775807 [1] = 9223372036854775807 := by decide
theorem far2 : laterI 9223372036854775802 [3] = 9223372036854775805 := by decide

/-- What the statement's calls answer. -/
structure EdgeF (s f r p m : Int) : Prop where
  lim : limitI f r = p
  at' : decide (idleI (s + p) s ≤ limitI f r) = true
  late : decide (idleI (s + p + 1) s ≤ limitI f r) = false
  now : decide (idleI s s ≤ limitI 0 r) = true
  room : decide (idleI (s + 1) s ≤ limitI 0 r) = false
  rate : decide (idleI (s + 1) s ≤ limitI f 0) = false
  back : decide (idleI s (s + 9) ≤ limitI 0 0) = true
  least : laterI s [m] = s
  least2 : laterI m [s] = s
  least3 : limitI m r = 0
theorem edge_f (s f r p m : Int) (hs : 0 ≤ s) (h2 : s ≤ 65535) (hf : 0 ≤ f) (hr : 0 ≤ r) (hp : 0 ≤ p) (hp2 : p ≤ 9223372036854775807) (ep : f * r = p) (hm : m ≤ 0) : EdgeF s f r p m := by
  have hl : limitI f r = p := by
    unfold limitI
    rw [upZ_pos f hf, upZ_pos r hr, ep, capM_le _ hp2]
  refine ⟨hl, ?_, ?_, ?_, ?_, ?_, ?_, later_least s m hs h2 hm, least_later s m hs h2 hm, limit_least m r hm⟩
  · rw [idle_up s p hs hp, hl]; simp
  · rw [Int.add_assoc, idle_up s (p + 1) hs (by omega), hl]; simp; omega
  · rw [idle_same, limit_zero]; rfl
  · rw [idle_up s 1 hs (by omega), limit_zero]; rfl
  · rw [idle_up s 1 hs (by omega), limit_null]; rfl
  · rw [idle_back s 9 hs (by omega), limit_zero]; rfl

set_option maxRecDepth 100000 in
set_option maxHeartbeats 8000000 in
theorem edges_any (s f r n : Int) (hs : 0 ≤ s) (s2 : s ≤ 65535) (hf : 0 ≤ f) (f2 : f ≤ 65535) (hr : 0 ≤ r) (r2 : r ≤ 65535) (hn : I64 n) (w : World) :
    Calls Try.prog 5 #[.int .u16 s, .int .u16 f, .int .u16 r, .int .i64 n] w fun e w' => e = .returned (.bool true) ∧ Keep [] w w' := by
  have hm : ∃ m : Int, m ≤ 0 ∧ ((0 < n ∧ m = 0) ∨ (n ≤ 0 ∧ m = n)) := by
    by_cases h : 0 < n
    · exact ⟨0, by omega, .inl ⟨h, rfl⟩⟩
    · exact ⟨n, by omega, .inr ⟨by omega, rfl⟩⟩
  obtain ⟨m, hm0, hm⟩ := hm
  obtain ⟨p, ep⟩ : ∃ p, f * r = p := ⟨_, rfl⟩
  have hp : 0 ≤ p := ep ▸ Int.mul_nonneg hf hr
  have hp2 : p ≤ 4294836225 := by
    have := Int.mul_le_mul f2 r2 hr (by omega)
    omega
  have HF := (show Hid (EdgeF s f r p m) from edge_f s f r p m hs s2 hf hr hp (by omega) ep hm0)
  have HM := (show Hid (I64 m) from by
    obtain ⟨n1, n2⟩ := hn
    show _ ∧ _
    omega)
  obtain ⟨n1, n2⟩ := hn
  have hp3 : p ≤ 9223372036854775807 := by omega
  rcases hm with ⟨hm, rfl⟩ | ⟨hm, rfl⟩
  all_goals
    go_enter Try.func5, Try.ntmps5
    go_wp2_with fail
    refine (limit_any f r ⟨by omega, by omega⟩ ⟨by omega, by omega⟩ _).mono ?_
    rw [HF.out.lim]
    rintro e w1 ⟨rfl, hK1⟩
    go_upto_region 4 with fail
    simp only [List.append_eq, List.cons_append, List.nil_append]
    go_wp2_with fail
    refine (keep_any _ s f r ⟨by omega, by omega⟩ ⟨by omega, by omega⟩ ⟨by omega, by omega⟩ ⟨by omega, by omega⟩ _).mono ?_
    rw [HF.out.at']
    rintro e w2 ⟨rfl, hK2⟩
    go_wp2_with fail
    refine (keep_any _ s f r ⟨by omega, by omega⟩ ⟨by omega, by omega⟩ ⟨by omega, by omega⟩ ⟨by omega, by omega⟩ _).mono ?_
    rw [HF.out.late]
    rintro e w3 ⟨rfl, hK3⟩
    go_wp2_with fail
    refine (keep_any s s 0 r ⟨by omega, by omega⟩ ⟨by omega, by omega⟩ ⟨by omega, by omega⟩ ⟨by omega, by omega⟩ _).mono ?_
    rw [HF.out.now]
    rintro e w4 ⟨rfl, hK4⟩
    go_wp2_with fail
    refine (keep_any _ s 0 r ⟨by omega, by omega⟩ ⟨by omega, by omega⟩ ⟨by omega, by omega⟩ ⟨by omega, by omega⟩ _).mono ?_
    rw [HF.out.room]
    rintro e w5 ⟨rfl, hK5⟩
    go_wp2_with fail
    refine (keep_any _ s f 0 ⟨by omega, by omega⟩ ⟨by omega, by omega⟩ ⟨by omega, by omega⟩ ⟨by omega, by omega⟩ _).mono ?_
    rw [HF.out.rate]
    rintro e w6 ⟨rfl, hK6⟩
    go_wp2_with fail
    refine (keep_any s _ 0 0 ⟨by omega, by omega⟩ ⟨by omega, by omega⟩ ⟨by omega, by omega⟩ ⟨by omega, by omega⟩ _).mono ?_
    rw [HF.out.back]
    rintro e w7 ⟨rfl, hK7⟩
    go_wp2_with fail
    refine (later_any _ _ 1 1 [1] _ ⟨by omega, by omega⟩ (IntsAt.single w7 3 _ (by omega) (by omega)) rfl (by omega)).mono ?_
    rw [far1]
    rintro e w8 ⟨rfl, hx8⟩
    have hK8 := (Keep.alloc [] w7 _).trans hx8
    clear hx8
    go_wp2_with fail
    refine (later_any _ _ 1 1 [3] _ ⟨by omega, by omega⟩ (IntsAt.single w8 3 _ (by omega) (by omega)) rfl (by omega)).mono ?_
    rw [far2]
    rintro e w9 ⟨rfl, hx9⟩
    have hK9 := (Keep.alloc [] w8 _).trans hx9
    clear hx9
    go_wp2_with fail
    refine (later_any s _ 1 1 [_] _ ⟨by omega, by omega⟩ (IntsAt.single w9 3 _ HM.out.1 HM.out.2) rfl (by omega)).mono ?_
    rw [HF.out.least]
    rintro e w10 ⟨rfl, hx10⟩
    have hK10 := (Keep.alloc [] w9 _).trans hx10
    clear hx10
    go_wp2_with fail
    refine (later_any _ _ 1 1 [s] _ HM.out (IntsAt.single w10 3 _ (by omega) (by omega)) rfl (by omega)).mono ?_
    rw [HF.out.least2]
    rintro e w11 ⟨rfl, hx11⟩
    have hK11 := (Keep.alloc [] w10 _).trans hx11
    clear hx11
    go_wp2_with fail
    refine (limit_any _ r HM.out ⟨by omega, by omega⟩ _).mono ?_
    rw [HF.out.least3]
    rintro e w12 ⟨rfl, hK12⟩
    go_wp2_with fail
    refine (awake14_any _).mono ?_
    rintro e w13 ⟨rfl, hK13⟩
    go_wp2_with fail
    go_ret
    exact ⟨rfl, ((((((((((((hK1.trans hK2).trans hK3).trans hK4).trans hK5).trans hK6).trans hK7).trans hK8).trans hK9).trans hK10).trans hK11).trans hK12).trans hK13)⟩

end Go.Proofs.Ytlpdaekejfhmjaa

namespace Go.Proofs.Ytlpdaekejfhmjaa.softEdges
theorem walk (a0 a1 a2 a3 : Int) (w0 : (Lit.int .u16 a0).wf = true) (w1 : (Lit.int .u16 a1).wf = true) (w2 : (Lit.int .u16 a2).wf = true) (w3 : (Lit.int .i64 a3).wf = true) (w : World) :
    Calls Try.prog 5 #[.int .u16 a0, .int .u16 a1, .int .u16 a2, .int .i64 a3] w fun e w' => e = .returned (.bool true) ∧ Keep [] w w' := by
  have b0 := bounds_u16 w0
  have b1 := bounds_u16 w1
  have b2 := bounds_u16 w2
  exact edges_any a0 a1 a2 a3 (by omega) (by omega) (by omega) (by omega) (by omega) (by omega) (i64_wf w3) w
end Go.Proofs.Ytlpdaekejfhmjaa.softEdges
