/-
  SoftAll answers true, whatever it is given.
-/
import Derived.Test.YtlpdaekejfhmjaaSoft
import Derived.Test.YtlpdaekejfhmjaaLists
namespace Go.Proofs.Ytlpdaekejfhmjaa
open Go.RowKit

set_option maxRecDepth 100000 in
set_option maxHeartbeats 3200000 in
theorem all_any (a b c d : Int) (ao : Option Addr) (n ca : Nat) (L : List Int) (ha : I64 a) (hb : I64 b) (hc : I64 c) (hd : I64 d) (w : World) (hn : n ≤ 9223372036854775807) (hL : ListAt w ao .i64 n L) :
    Calls Try.prog 3 #[.int .i64 a, .int .i64 b, .int .i64 c, .int .i64 d, .slice ao n ca] w fun e w' => e = .returned (.bool true) ∧ Keep [] w w' := by
  by_cases h60 : 60 < n
  · have hd : decide (60 < (n : Int)) = true := by rw [decide_eq_true_iff]; omega
    go_enter Try.func3, Try.ntmps3
    go_wp2_with fail
    refine (awake14_any _).mono ?_
    rintro e w8 ⟨rfl, hK8⟩
    go_wp2_with fail
    go_ret
    exact ⟨rfl, hK8⟩
  · have hd0 : decide (60 < (n : Int)) = false := by rw [decide_eq_false_iff_not]; omega
    have HN := (show Hid (L.length = n ∧ n ≤ 9223372036854775807 ∧ n ≤ 1000000) from ⟨hL.len, hn, by omega⟩)
    have HI := (show Hid (IntsAt w ao L) from hL.ints)
    have HA := (show Hid (I64 a) from ha)
    have HB := (show Hid (I64 b) from hb)
    have HC := (show Hid (I64 c) from hc)
    have HD := (show Hid (I64 d) from hd)
    obtain ⟨i, ei⟩ : ∃ i, idleI a b = i := ⟨_, rfl⟩
    obtain ⟨l, el⟩ : ∃ l, limitI c d = l := ⟨_, rfl⟩
    obtain ⟨t, et⟩ : ∃ t, laterI a L = t := ⟨_, rfl⟩
    obtain ⟨kp, ek⟩ : ∃ kp, decide (idleI a b ≤ limitI c d) = kp := ⟨_, rfl⟩
    have HI1 := (show Hid (idleI a b = i) from ei)
    have HL1 := (show Hid (limitI c d = l) from el)
    have HT1 := (show Hid (laterI a L = t) from et)
    have HK1 := (show Hid (decide (idleI a b ≤ limitI c d) = kp) from ek)
    clear hL ha hb hc hd ei el et ek hn
    cases kp
    all_goals
      go_enter Try.func3, Try.ntmps3
      go_wp2_with fail
      refine (idle_any a b HA.out HB.out _).mono ?_
      rw [HI1.out]
      rintro e w1 ⟨rfl, hK1⟩
      go_wp2_with fail
      refine (ridle_any a b HA.out HB.out _).mono ?_
      rw [HI1.out]
      rintro e w2 ⟨rfl, hK2⟩
      go_wp2_with fail
      refine (limit_any c d HC.out HD.out _).mono ?_
      rw [HL1.out]
      rintro e w3 ⟨rfl, hK3⟩
      go_wp2_with fail
      refine (rlimit_any c d HC.out HD.out _).mono ?_
      rw [HL1.out]
      rintro e w4 ⟨rfl, hK4⟩
      go_wp2_with fail
      refine (keep_any a b c d HA.out HB.out HC.out HD.out _).mono ?_
      rw [HK1.out]
      rintro e w5 ⟨rfl, hK5⟩
      go_wp2_with fail
      refine (rkeep_any a b c d HA.out HB.out HC.out HD.out _).mono ?_
      rw [HK1.out]
      rintro e w6 ⟨rfl, hK6⟩
      have hKK := (((hK1.trans hK2).trans hK3).trans hK4).trans (hK5.trans hK6)
      have hI6 := HI.out.keep hKK (fun _ => by intro a _; simp)
      clear hK1 hK2 hK3 hK4 hK5 hK6
      go_wp2_with fail
      refine (later_any a ao n ca L _ HA.out hI6 HN.out.1 HN.out.2.1).mono ?_
      rw [HT1.out]
      rintro e w7 ⟨rfl, hK7⟩
      have hI7 := hI6.keep hK7 (fun _ => by intro a _; simp)
      go_wp2_with fail
      refine (rlater_any a ao n ca L _ HA.out hI7 HN.out.1 HN.out.2.2).mono ?_
      rw [HT1.out]
      rintro e w8 ⟨rfl, hK8⟩
      go_wp2_with fail
      refine (awake14_any _).mono ?_
      rintro e w9 ⟨rfl, hK9⟩
      go_wp2_with fail
      go_ret
      exact ⟨rfl, hKK.trans ((hK7.trans hK8).trans hK9)⟩

end Go.Proofs.Ytlpdaekejfhmjaa

namespace Go.Proofs.Ytlpdaekejfhmjaa.softAll
theorem walk (a0 a1 a2 a3 : Int) (o4 : Option Addr) (len4 cap4 : Nat) (A4 : List Int) (w0 : (Lit.int .i64 a0).wf = true) (w1 : (Lit.int .i64 a1).wf = true) (w2 : (Lit.int .i64 a2).wf = true) (w3 : (Lit.int .i64 a3).wf = true) (w4 : len4 ≤ 9223372036854775807) (w : World) (u4 : ListAt w o4 .i64 len4 A4) :
    Calls Try.prog 3 #[.int .i64 a0, .int .i64 a1, .int .i64 a2, .int .i64 a3, .slice o4 len4 cap4] w fun e w' => e = .returned (.bool true) ∧ Keep [] w w' :=
  all_any a0 a1 a2 a3 o4 len4 cap4 A4 (i64_wf w0) (i64_wf w1) (i64_wf w2) (i64_wf w3) w w4 u4
end Go.Proofs.Ytlpdaekejfhmjaa.softAll
