/-
  SpaceZeros answers true, whatever it is given.
-/
import Derived.Test.YtpollfcblpaicaaSpaceHeld
import Derived.ProofKit
import Derived.OpenShut
namespace Go.Proofs.Ytpollfcblpaicaa
open Go.RowKit

theorem block_pos (n : Int) (h1 : 1 ≤ n) (h2 : n ≤ 1024) : 1 ≤ blockI n := by
  rcases class_lt n with hc | ⟨c, hc, hc5⟩
  · have hn : 33 ≤ n := by
      have := class_iff n
      omega
    rw [block_none n hc, pages_mid n hn h2]; omega
  · rw [block_class n c hc]
    have := (sz_facts c hc5).1
    have h3 := (sz_facts c hc5).2.2.1
    unfold wordsOf at this
    omega
/-- A block of a new space, freed: all is as new. -/
theorem fresh_back (N b : Nat) (n : Int) (hb : blockI n = b) (hb1 : 1 ≤ b) (hN : b ≤ 64 * (N - 1)) (hN2 : 2 ≤ N) (hN3 : N ≤ 256) : ∃ k1, AllocR (freshK N) n (some (64, k1)) ∧ findN k1 64 = some (64, b) ∧ FreeR k1 64 (freshK N) ∧ WF k1 ∧ k1.length = N ∧ ∀ x, findN k1 x = if 64 ≤ x ∧ x < 64 + b then some (64, b) else none := by
  have hw := freshK_wf N (by omega) hN3
  obtain ⟨k1, hr⟩ := fresh_alloc N b n hb hb1 hN hN2
  obtain ⟨b', hb', _, hw1, hl1, _, _, _, hf⟩ := hr.spec hw
  obtain rfl : b = b' := by rw [hb] at hb'; omega
  rw [freshK_length] at hl1
  have hf2 : ∀ x, findN k1 x = if 64 ≤ x ∧ x < 64 + b then some (64, b) else none := fun x => by rw [hf x, freshK_find N x (by omega)]
  have h64 : findN k1 64 = some (64, b) := by rw [hf2, if_pos (by omega)]
  obtain ⟨k2, hr2⟩ := FreeR.ex hw1 h64
  obtain ⟨hw2, hl2, hf3⟩ := hr2.spec hw1 h64
  have : k2 = freshK N := by
    have := hw2.is_fresh (fun x => by
      rw [hf3 x, hf2 x]
      split
      · rfl
      · rfl)
    rw [hl2, hl1] at this; exact this
  subst this
  exact ⟨k1, hr, h64, hr2, hw1, hl1, hf2⟩

theorem mod_facts2 (a m : Nat) (h : 1 ≤ m) : ∃ x : Nat, (a : Int) % m = x ∧ (a : Int).tmod m = x ∧ x < m :=
  ⟨a % m, rfl, by rw [Int.tmod_eq_emod_of_nonneg (by omega)]; rfl, Nat.mod_lt _ (by omega)⟩

set_option maxRecDepth 100000 in
set_option maxHeartbeats 4000000 in
theorem zeros6_any (n m : Nat) (x : Int) (w : World) (hn : n < 65536) (hm : m < 65536) :
    Calls Try.prog 5 #[.int .u16 n, .int .u16 m, .int .i64 x] w fun e w' => e = .returned (.bool true) ∧ Keep [] w w' := by
  obtain ⟨x1, x11, x12, x13⟩ := mod_facts2 n 200 (by omega)
  obtain ⟨x2, x21, x22, x23⟩ := mod_facts2 m 200 (by omega)
  have x11' : (n : Int) % 200 = x1 := x11
  have x12' : (n : Int).tmod 200 = x1 := x12
  have x21' : (m : Int) % 200 = x2 := x21
  have x22' : (m : Int).tmod 200 = x2 := x22
  obtain ⟨a, ha⟩ : ∃ a : Int, (1 : Int) + x1 = a := ⟨_, rfl⟩
  obtain ⟨b, hb⟩ : ∃ b : Int, (1 : Int) + x2 = b := ⟨_, rfl⟩
  have ab1 : 1 ≤ a ∧ a ≤ 200 ∧ 1 ≤ b ∧ b ≤ 200 := by omega
  obtain ⟨sa, hsa⟩ := Int.eq_ofNat_of_zero_le (block_le a).1
  obtain ⟨sc, hsc⟩ := Int.eq_ofNat_of_zero_le (block_le b).1
  have pa := block_pos a (by omega) (by omega)
  have pb1 := block_pos b (by omega) (by omega)
  have qa := (block_le a).2
  have qb := (block_le b).2
  rw [hsa] at pa qa
  rw [hsc] at pb1 qb
  obtain ⟨k1, r1, f1, r2, _, hl1, _⟩ := fresh_back 24 sa a hsa (by omega) (by omega) (by omega) (by omega)
  obtain ⟨k2, r3, _, _, _, hl2, _⟩ := fresh_back 24 sc b hsc (by omega) (by omega) (by omega) (by omega)
  have HF := (show Hid (AllocR (freshK 24) a (some (64, k1)) ∧ findN k1 64 = some (64, sa) ∧ FreeR k1 64 (freshK 24) ∧ AllocR (freshK 24) b (some (64, k2)) ∧ k1.length = 24 ∧ k2.length = 24) from ⟨r1, f1, r2, r3, hl1, hl2⟩)
  have HBA := (show Hid (blockI a = (sa : Nat)) from hsa)
  have HBB := (show Hid (blockI b = (sc : Nat)) from hsc)
  clear r1 f1 r2 r3 hsa hsc x11 x12 x21 x22 hl1 hl2
  go_enter Try.func5, Try.ntmps5
  go_wp2_with fail
  refine (hnew 24 w w (Keep.refl _ _) (by omega) (by omega)).mono ?_
  rintro e w1 ⟨sb, rfl, hH⟩
  obtain ⟨ab, hc0⟩ := hH.c0
  obtain ⟨pb, hc1⟩ := hH.c1
  go_wp2_with (go_at_call 10; refine (err_any _ _).mono ?_; rintro e w' ⟨rfl, rfl⟩)
  refine (halloc_yes sb 64 sa a _ _ _ w1 hH HF.out.1 HBA.out).mono ?_
  rintro e w2 ⟨rfl, hH2⟩
  clear hc0 hc1 hH
  go_wp2_with (go_at_call 27; refine (rblock_any _ _).mono ?_; rw [HBA.out]; rintro e w3 ⟨rfl, hK3⟩)
  have hH3 := hH2.keep0 hK3
  clear hH2 hK3
  go_loopw [14] (fun i wr => ∃ (j : Nat) (ws : List Int), i = .int .i64 j ∧ j ≤ sa ∧ Held w wr sb ws k1 ∧ Hid (ws.length = 1536) ∧ Hid (1 ≤ j → ws[64]?.getD 0 = x)) (fun i _ => sa - (intOf i).toNat)
  case atStart => exact ⟨0, _, rfl, by omega, hH3, (by show _ = _; rw [fill0_length _ _ _ (by rw [zeros_length]; omega), zeros_length]), fun h => by omega⟩
  case round =>
    obtain ⟨j, ws, rfl, hj, hH4, HL4, HX4⟩ := hrel
    obtain ⟨w4, rfl⟩ : ∃ w4, w4 = wr := ⟨_, rfl⟩
    clear hH3
    by_cases hlt : j < sa
    · obtain ⟨ab, hc0⟩ := hH4.c0
      have hadd : (64 : Int) + j = ((64 + j : Nat) : Int) := by omega
      obtain ⟨y, hy⟩ : ∃ y, 64 + j = y := ⟨_, rfl⟩
      rw [hy] at hadd
      have hyb : y < 1536 := by omega
      go_wp2_with (go_at_call 20; refine (hstore sb ab y x ws k1 w4 hH4 hc0 (by rw [HL4.out]; exact hyb)).mono ?_; rintro e w5 ⟨rfl, hH5⟩)
      have HL5 := (show Hid ((ws.set y x).length = 1536) from by show _ = _; rw [List.length_set]; exact HL4.out)
      have HX5 := (show Hid (1 ≤ j + 1 → (ws.set y x)[64]?.getD 0 = x) from fun _ => by
        by_cases e : y = 64
        · rw [e]; exact set_get_same _ _ _ (by rw [HL4.out]; omega)
        · rw [set_get_other _ _ _ _ e]; exact HX4.out (by omega))
      clear hH4
      go_roundw
      case rel => exact ⟨j + 1, _, by go_num, by omega, hH5, HL5, HX5⟩
      case measure => simp [intOf]; omega
    · obtain rfl : j = sa := by omega
      have HX := (show Hid (ws[64]?.getD 0 = x) from HX4.out (by omega))
      go_wp2_with fail
      refine (hfree_yes sb 64 j ws k1 _ w4 hH4 HF.out.2.1 HF.out.2.2.1).mono ?_
      rintro e w5 ⟨rfl, hH5⟩
      obtain ⟨ab, hc0⟩ := hH5.c0
      clear hH4
      go_wp2_with (go_at_call 26; refine (hload sb ab 64 ws _ w5 hH5 hc0 (by rw [HL4.out]; omega)).mono ?_; rw [HX.out]; rintro e w' ⟨rfl, rfl⟩)
      refine (halloc_yes sb 64 sc b ws _ _ w5 hH5 HF.out.2.2.2.1 HBB.out).mono ?_
      rintro e w6 ⟨rfl, hH6⟩
      clear hH5 hc0
      have HL6 := (show Hid ((fill0 ws 64 sc).length = 1536) from by show _ = _; rw [fill0_length _ _ _ (by rw [HL4.out]; omega)]; exact HL4.out)
      have HZ6 := (show Hid (∀ t, t < sc → (fill0 ws 64 sc)[64 + t]?.getD 0 = 0) from fun t ht => by rw [fill0_get _ _ _ _ (by rw [HL4.out]; omega), if_pos (by omega)])
      generalize fill0 ws 64 sc = ws6 at *
      go_wp2_with (go_at_call 10; refine (err_any _ _).mono ?_; rintro e w' ⟨rfl, rfl⟩)
      go_loopw [20] (fun i wr => ∃ q : Nat, i = .int .i64 q ∧ q ≤ sc ∧ Held w wr sb ws6 k2) (fun i _ => sc - (intOf i).toNat)
      case atStart => exact ⟨0, rfl, by omega, hH6⟩
      case round =>
        obtain ⟨q, rfl, hq, hH7⟩ := hrel
        obtain ⟨w7, rfl⟩ : ∃ w7, w7 = wr := ⟨_, rfl⟩
        clear hH6
        by_cases hlt2 : q < sc
        · have hadd : (64 : Int) + q = ((64 + q : Nat) : Int) := by omega
          have HV := (show Hid (ws6[64 + q]?.getD 0 = 0) from HZ6.out q hlt2)
          obtain ⟨y, hy⟩ : ∃ y, 64 + q = y := ⟨_, rfl⟩
          rw [hy] at hadd HV
          have hyb : y < 1536 := by omega
          go_wp2_with (first | (go_at_call 27; refine (rblock_any _ _).mono ?_; rw [HBB.out]; rintro e w8 ⟨rfl, hK8⟩; have hH8 := hH7.keep0 hK8; obtain ⟨ab, hc0⟩ := hH8.c0) | (go_at_call 26; refine (hload sb ab y ws6 k2 w8 hH8 hc0 (by rw [HL6.out]; exact hyb)).mono ?_; rw [HV.out]; rintro e w' ⟨rfl, rfl⟩) | (go_at_call 10; refine (err_any _ _).mono ?_; rintro e w' ⟨rfl, rfl⟩))
          go_roundw
          case rel => exact ⟨q + 1, by go_num, by omega, hH8⟩
          case measure => simp [intOf]; omega
        · obtain rfl : q = sc := by omega
          go_wp2_with (first | (go_at_call 27; refine (rblock_any _ _).mono ?_; rw [HBB.out]; rintro e w8 ⟨rfl, hK8⟩; have hH8 := hH7.keep0 hK8) | (go_at_call 11; refine (awake6_any _).mono ?_; rintro e w9 ⟨rfl, hK9⟩))
          go_ret
          exact ⟨rfl, hH8.K.trans hK9⟩

end Go.Proofs.Ytpollfcblpaicaa

namespace Go.Proofs.Ytpollfcblpaicaa.spaceZeros
open Go.RowKit
theorem walk (a0 a1 a2 : Int) (w0 : (Lit.int .u16 a0).wf = true) (w1 : (Lit.int .u16 a1).wf = true) (_w2 : (Lit.int .i64 a2).wf = true) (w : World) :
    Calls Try.prog 5 #[.int .u16 a0, .int .u16 a1, .int .i64 a2] w fun e w' => e = .returned (.bool true) ∧ Keep [] w w' := by
  have h0 := bounds_u16 w0
  have h1 := bounds_u16 w1
  skip
  obtain ⟨a, rfl⟩ := Int.eq_ofNat_of_zero_le h0.1
  obtain ⟨b, rfl⟩ := Int.eq_ofNat_of_zero_le h1.1
  exact zeros6_any a b a2 w (by omega) (by omega)
end Go.Proofs.Ytpollfcblpaicaa.spaceZeros
