/-
  BlockFills answers true, whatever it is given.
-/
import Derived.Test.YtmnmgibhjjdkaaaAwake5
import Derived.ProofKit
import Derived.OpenShut
namespace Go.Proofs.Ytmnmgibhjjdkaaa
open Go.RowKit

/-- The first i of m places are so. -/
def upTo (m i : Nat) : List Bool := putR (offs m) 0 i true
theorem upTo_length (m i : Nat) : (upTo m i).length = m := by unfold upTo; rw [putR_length, offs_length]
theorem upTo_get (m i t : Nat) (h : i ≤ m) : (upTo m i)[t]?.getD false = decide (t < i) := by
  unfold upTo
  rw [putR_get _ _ _ _ (by rw [offs_length]; omega), offs_get]
  by_cases e : t < i
  · rw [if_pos (by omega)]; simp [e]
  · rw [if_neg (by omega)]; simp [e]
theorem upTo_zero (m : Nat) : upTo m 0 = offs m := rfl
theorem upTo_succ (m i : Nat) : (upTo m i).set i true = upTo m (i + 1) := by
  unfold upTo; rw [putR_succ, Nat.zero_add]
theorem upTo_next (m i : Nat) (h : i < m) : nextR (upTo m i) 0 false = i :=
  nextR_is _ _ _ _ (by omega) (by rw [upTo_length]; exact h) (by rw [upTo_get _ _ _ (by omega)]; simp) (fun t _ b => by rw [upTo_get _ _ _ (by omega)]; simp [b])
theorem upTo_none (m : Nat) : nextR (upTo m m) 0 false = -1 :=
  nextR_none _ _ _ (fun t _ b => by rw [upTo_length] at b; rw [upTo_get _ _ _ (by omega)]; simp [b])
theorem upTo_all (m : Nat) : allB (upTo m m) = true := by unfold allB; rw [upTo_none]; rfl
theorem upTo_has (m x : Nat) (h : x < m) : hasR (upTo m m) x = true := by
  rw [has_nat _ _ (by rw [upTo_length]; exact h), upTo_get _ _ _ (by omega)]; simp [h]

/-- Once two of them were given, the first of the two is found. -/
theorem two_next (m x y : Nat) (hx : x < m) (hy : y < m) : nextR (gvR ((upTo m m).set x false) y) 0 false = ((min x y : Nat) : Int) := by
  have hl : ((upTo m m).set x false).length = m := by rw [List.length_set, upTo_length]
  have hs : ∀ t, t < m → ((upTo m m).set x false)[t]?.getD false = decide (t ≠ x) := fun t ht => by
    by_cases e : t = x
    · subst e; rw [bset_same _ _ _ (by rw [upTo_length]; exact ht)]; simp
    · rw [bset_other _ _ _ _ (fun q => e q.symm), upTo_get _ _ _ (by omega)]; simp [e, ht]
  have hg : ∀ t, t < m → (gvR ((upTo m m).set x false) y)[t]?.getD false = decide (t ≠ x ∧ t ≠ y) := fun t ht => by
    cases hh : hasR ((upTo m m).set x false) y
    · rw [(gv_no _ _ hh).2, hs t ht]
      rw [has_nat _ _ (by omega), hs y hy] at hh
      have : y = x := by simpa using hh
      subst this; simp
    · rw [(gv_yes _ _ hh).2]
      by_cases e : t = y
      · subst e; rw [bset_same _ _ _ (by omega)]; simp
      · rw [bset_other _ _ _ _ (fun q => e q.symm), hs t ht]; simp [e]
  refine nextR_is _ _ _ _ (by omega) (by rw [gvR_length, hl]; omega) ?_ (fun t _ b => ?_)
  · rw [hg _ (by omega)]; simp; omega
  · rw [hg _ (by omega)]; simp; omega

theorem room_facts (c : Nat) (h : c < 5) : ∃ s m : Nat, wordsOf c = s ∧ roomOf c = m ∧ (64 : Int) / s = m ∧ (64 : Int).tdiv s = m ∧ (s : Int) * m = 64 ∧ 2 ≤ s ∧ 2 ≤ m ∧ m ≤ 32 ∧ s ≤ 32 := by
  rcases (show c = 0 ∨ c = 1 ∨ c = 2 ∨ c = 3 ∨ c = 4 by omega) with rfl | rfl | rfl | rfl | rfl
  · exact ⟨2, 32, rfl, rfl, rfl, rfl, rfl, by omega, by omega, by omega, by omega⟩
  · exact ⟨4, 16, rfl, rfl, rfl, rfl, rfl, by omega, by omega, by omega, by omega⟩
  · exact ⟨8, 8, rfl, rfl, rfl, rfl, rfl, by omega, by omega, by omega, by omega⟩
  · exact ⟨16, 4, rfl, rfl, rfl, rfl, rfl, by omega, by omega, by omega, by omega⟩
  · exact ⟨32, 2, rfl, rfl, rfl, rfl, rfl, by omega, by omega, by omega, by omega⟩
theorem rem_facts (a m : Nat) (h : 1 ≤ m) : ∃ x : Nat, (a : Int) % m = x ∧ (a : Int).tmod m = x ∧ x < m :=
  ⟨a % m, rfl, rfl, Nat.mod_lt _ h⟩

set_option maxRecDepth 100000 in
set_option maxHeartbeats 4000000 in
theorem fills5_any (k a d : Nat) (w : World) (hk : k < 256) (ha : a < 256) (hd : d < 256) :
    Calls Try.prog 4 #[.int .u8 k, .int .u8 a, .int .u8 d] w fun e w' => e = .returned (.bool true) ∧ Keep [] w w' := by
  obtain ⟨c, hc1, hc2⟩ : ∃ c : Nat, (k : Int) % 5 = c ∧ c < 5 := ⟨k % 5, by omega, by omega⟩
  obtain ⟨s, m, hs, hm, hq1, hq2, -, hs1, hm1, hm2, hs2⟩ := room_facts c hc2
  obtain ⟨x, hx1, hx2, hx3⟩ := rem_facts a m (by omega)
  obtain ⟨y, hy1, hy2, hy3⟩ := rem_facts d m (by omega)
  have HN := (show Hid (∀ i, i < m → nextR (upTo m i) 0 false = i) from upTo_next m)
  have HE := (show Hid (nextR (upTo m m) 0 false = -1) from upTo_none m)
  have HA := (show Hid (allB (upTo m m) = true) from upTo_all m)
  have HX := (show Hid (hasR (upTo m m) x = true) from upTo_has m x hx3)
  have HT := (show Hid (nextR (gvR ((upTo m m).set x false) y) 0 false = ((min x y : Nat) : Int)) from two_next m x y hx3 hy3)
  have HG := (show Hid ((gvR ((upTo m m).set x false) y).length = m) from by show _ = _; rw [gvR_length, List.length_set, upTo_length])
  obtain ⟨z, hz1, hz2⟩ : ∃ z : Nat, min x y = z ∧ z < m := ⟨_, rfl, by omega⟩
  have hz3 : min (x : Int) y = z := by omega
  rw [hz1] at HT
  have hm0 : (m : Int) ≠ 0 := by omega
  clear hz1
  go_enter Try.func4, Try.ntmps4
  go_wp2_with fail
  refine (knew_ok c w hc2).mono ?_
  rw [hs, hm]
  rintro e w1 ⟨pb, b, g, rfl, hA, hK, hp, hb, hg⟩
  have hc := hA.cell
  go_wp2_with (first | (go_at_call 8; refine (err_any _ _).mono ?_; rintro e w' ⟨rfl, rfl⟩) | (go_at_call 19; refine (kwords_any _ _ _ _ _ _ hA).mono ?_; rintro e w' ⟨rfl, rfl⟩))
  go_loopw [10] (fun i wr => ∃ q : Nat, i = .int .i64 q ∧ q ≤ m ∧ IsPage wr pb b g s (upTo m q) ∧ Keep [g] w wr) (fun i _ => m - (intOf i).toNat)
  case atStart => exact ⟨0, rfl, by omega, hA, hK.mono (by simp)⟩
  case round =>
    obtain ⟨q, rfl, hq, hA4, hK4⟩ := hrel
    clear hA hK hc
    by_cases hlt : q < m
    · have HU := (show Hid ((upTo m q).set q true = upTo m (q + 1)) from upTo_succ m q)
      go_wp2_with fail
      refine (ktake_yes pb b g q s _ _ hA4 (HN.out q hlt) (by rw [upTo_length]; exact hlt)).mono ?_
      rw [HU.out]
      rintro e w5 ⟨rfl, hA5, hK5⟩
      have hK6 := hK4.trans hK5
      clear hA4 hK4 hK5
      go_wp2_with (first | (go_at_call 8; refine (err_any _ _).mono ?_; rintro e w' ⟨rfl, rfl⟩))
      go_roundw
      case rel => exact ⟨q + 1, by go_num, by omega, hA5, hK6⟩
      case measure => simp [intOf]; omega
    · obtain rfl : q = m := by omega
      go_wp2_with fail
      refine (ktake_no pb b g s _ _ hA4 HE.out).mono ?_
      rintro e w' ⟨rfl, rfl⟩
      go_wp2_with fail
      refine (kfull_any pb b g s _ _ hA4).mono ?_
      rw [HA.out]
      rintro e w' ⟨rfl, rfl⟩
      go_wp2_with fail
      go_quiet (fail)
      go_wp2_with fail
      refine (kgive_yes pb b g x s _ _ (hA4.keep (Keep.drewN [] _ _) (by simp) (by simp) (by simp)) HX.out).mono ?_
      rintro e w6 ⟨rfl, hA6, hK6⟩
      go_wp2_with fail
      refine (kgive_any pb b g y s _ _ hA6).mono ?_
      rintro e w7 ⟨rfl, hA7, hK7⟩
      go_wp2_with fail
      refine (ktake_yes pb b g z s _ _ hA7 HT.out (by rw [HG.out]; exact hz2)).mono ?_
      rintro e w8 ⟨rfl, hA8, hK8⟩
      have hK9 := ((((hK4.trans (Keep.drewN _ _ _)).trans hK6).trans hK7).trans hK8).drop (T := []) (by simp; omega)
      clear hA4 hA6 hA7 hA8 hK4 hK6 hK7 hK8 HG HT HX HA HE HN
      go_wp2_with (first | (go_at_call 8; refine (err_any _ _).mono ?_; rintro e w' ⟨rfl, rfl⟩) | (go_at_call 11; refine (ktake_nil _).mono ?_; rintro e w' ⟨rfl, rfl⟩) | (go_at_call 13; refine (kgive_nil _ _).mono ?_; rintro e w' ⟨rfl, rfl⟩) | (go_at_call 15; refine (kempty_nil _).mono ?_; rintro e w' ⟨rfl, rfl⟩) | (go_at_call 17; refine (kfull_nil _).mono ?_; rintro e w' ⟨rfl, rfl⟩) | (go_at_call 19; refine (kwords_nil _).mono ?_; rintro e w' ⟨rfl, rfl⟩) | (go_at_call 9; refine (awake5_any _).mono ?_; rintro e wq ⟨rfl, hKq⟩))
      all_goals
        go_ret
        exact ⟨rfl, hK9.trans hKq⟩

end Go.Proofs.Ytmnmgibhjjdkaaa

namespace Go.Proofs.Ytmnmgibhjjdkaaa.blockFills
open Go.RowKit
theorem walk (a0 a1 a2 : Int) (w0 : (Lit.int .u8 a0).wf = true) (w1 : (Lit.int .u8 a1).wf = true) (w2 : (Lit.int .u8 a2).wf = true) (w : World) :
    Calls Try.prog 4 #[.int .u8 a0, .int .u8 a1, .int .u8 a2] w fun e w' => e = .returned (.bool true) ∧ Keep [] w w' := by
  have h0 := bounds_u8 w0
  have h1 := bounds_u8 w1
  have h2 := bounds_u8 w2
  obtain ⟨k, rfl⟩ := Int.eq_ofNat_of_zero_le h0.1
  obtain ⟨n, rfl⟩ := Int.eq_ofNat_of_zero_le h1.1
  obtain ⟨d, rfl⟩ := Int.eq_ofNat_of_zero_le h2.1
  exact fills5_any k n d w (by omega) (by omega) (by omega)
end Go.Proofs.Ytmnmgibhjjdkaaa.blockFills
