/-
  HeadBack: a head that may be is told again by its word.
-/
import Derived.Test.YtmnjheodligohaaHeadRef
import Derived.Deep.RegionHeld3
import Derived.ProofKit
import Derived.OpenShut
namespace Go.Proofs.Ytmnjheodligohaa.headBack
open Go.RowKit
set_option linter.unusedVariables false

theorem bor (a b : Bool) : a = b ∨ a = !b := by cases a <;> cases b <;> simp
theorem pow_not : ∀ m : Fin 63, wrap64 ((2 : Int) ^ m.val) = (2 : Int) ^ m.val ∧ BitVec.ofInt 64 ((2 : Int) ^ m.val) ≠ 0#64 := by decide +kernel
theorem wrap_mod (z : Int) : IntKind.i64.wrap z % 18446744073709551616 = z % 18446744073709551616 := by
  unfold IntKind.wrap
  simp [IntKind.bits, IntKind.signed]
  split <;> omega
theorem turn_ne (x : Int) (m : Nat) (hm : m < 63) : bits .xor .i64 x (wrap64 ((2 : Int) ^ m)) ≠ x := by
  intro h
  obtain ⟨h1, h2⟩ := pow_not ⟨m, hm⟩
  simp only at h1 h2
  rw [h1] at h
  have h3 : bits .xor .i64 x ((2 : Int) ^ m) % 18446744073709551616 = x % 18446744073709551616 := by rw [h]
  simp only [bits, wrap_mod, IntKind.bits] at h3
  apply h2
  replace h3 : ((BitVec.ofInt 64 x ^^^ BitVec.ofInt 64 ((2 : Int) ^ m)).toNat : Int) % 18446744073709551616 = x % 18446744073709551616 := h3
  have e1 : ((BitVec.ofInt 64 x).toNat : Int) = x % 18446744073709551616 := by
    rw [BitVec.toNat_ofInt]; omega
  have e2 : (BitVec.ofInt 64 x ^^^ BitVec.ofInt 64 ((2 : Int) ^ m)).toNat = (BitVec.ofInt 64 x).toNat := by
    generalize BitVec.ofInt 64 x ^^^ BitVec.ofInt 64 ((2 : Int) ^ m) = z at h3 ⊢
    have hz := z.isLt
    rw [← e1] at h3
    have h4 : ((z.toNat : Int)) % 18446744073709551616 = z.toNat := by omega
    have h5 : ((BitVec.ofInt 64 x).toNat : Int) = z.toNat := by rw [← h3]; exact h4
    omega
  have e3 : BitVec.ofInt 64 x ^^^ BitVec.ofInt 64 ((2 : Int) ^ m) = BitVec.ofInt 64 x := BitVec.eq_of_toNat_eq e2
  generalize BitVec.ofInt 64 ((2 : Int) ^ m) = b at e3
  generalize BitVec.ofInt 64 x = a at e3
  have e4 : a ^^^ (a ^^^ b) = a ^^^ a := by rw [e3]
  rw [← BitVec.xor_assoc] at e4
  simpa using e4

set_option maxRecDepth 100000 in
set_option maxHeartbeats 6400000 in
theorem plain (a0 a1 a2 : Int) (a3 : Bool) (a4 : Int) (b0 : 0 ≤ a0 ∧ a0 ≤ 255) (b1 : 0 ≤ a1 ∧ a1 ≤ 255) (b2 : 0 ≤ a2 ∧ a2 ≤ 65535) (b4 : 0 ≤ a4 ∧ a4 ≤ 255) (w : World) (hk : 1 + a0 % 4 = 1) :
    Calls Try.prog 4 #[.int .u8 a0, .int .u8 a1, .int .u16 a2, .bool a3, .int .u8 a4] w fun e w' => e = .returned (.bool true) ∧ Keep [] w w' := by
  obtain ⟨l0, hl⟩ : ∃ l : Int, a2 % 1024 = l := ⟨_, rfl⟩
  have hlb : 0 ≤ l0 ∧ l0 ≤ 1023 := by omega
  go_enter Try.func4, Try.ntmps4
  go_upto_region 3 with fail
  have hx1 := heap_alloc_new w (.cells #[.int .i64 1, .int .i64 0, .int .i64 l0, .bool a3] 23)
  have hKK := Keep.alloc [w.heap.size] w (.cells #[.int .i64 1, .int .i64 0, .int .i64 l0, .bool a3] 23)
  generalize w.alloc (.cells #[.int .i64 1, .int .i64 0, .int .i64 l0, .bool a3] 23) = wa at *
  have HG := (show Hid (∀ k, k ∈ [w.heap.size] → k < w.heap.size → k ∈ ([] : List Nat)) from by intro k h1 h2; simp at h1; omega)
  obtain ⟨g1, hg⟩ : ∃ g, w.heap.size = g := ⟨_, rfl⟩
  rw [hg] at hx1 hKK ⊢
  replace HG := (show Hid (∀ k, k ∈ [g1] → k < w.heap.size → k ∈ ([] : List Nat)) from by rw [← hg]; exact HG.out)
  clear hg
  obtain ⟨m0, m1, m2, m3⟩ := four_cells hx1
  obtain ⟨f0, f1, f2, f3⟩ := four_free hx1
  go_upto_region 7 with fail
  have hz := heap_setCell_same wa g1 1 _ _ (.int .i64 (1 + a1)) hx1
  replace hx1 : (wa.setCell ⟨g1, 1, none⟩ (.int .i64 (1 + a1))).heap[g1]? = some (.cells #[.int .i64 1, .int .i64 (1 + a1), .int .i64 l0, .bool a3] 23 (0, 0)) := by simpa using hz
  replace hKK := hKK.trans (Keep.setCell wa (a := ⟨g1, 1, none⟩) (.int .i64 (1 + a1)) (by simp))
  clear hz
  generalize wa.setCell ⟨g1, 1, none⟩ (.int .i64 (1 + a1)) = wv at *
  obtain ⟨cc, hcc⟩ : ∃ cc, 1 + a1 = cc := ⟨_, rfl⟩
  have hccb : 1 ≤ cc ∧ cc ≤ 256 := by omega
  rw [hcc] at hx1 ⊢
  clear hcc
  have hW : Word (putH 1 cc l0 a3) 1 cc l0 a3 := ⟨by unfold mayH; simp; omega, rfl⟩
  generalize putH 1 cc l0 a3 = x at hW
  clear hl hlb m0 m1 m2 m3 f0 f1 f2 f3
  clear b0 b1 b2
  have HW := (show Hid (Word x 1 cc l0 a3) from hW)
  have HM := (show Hid (mayH 1 cc l0 a3 = true) from hW.1)
  have HP := (show Hid (putN 1 cc l0 a3 = x) from by show _ = _; unfold putN; rw [hW.1]; exact hW.2)
  have hx0 : 0 < x := hW.parts.1
  obtain ⟨y, hy⟩ : ∃ y, bits .xor .i64 x (wrap64 (2 ^ (a4 % 63).toNat)) = y := ⟨_, rfl⟩
  have HY := (show Hid ((-9223372036854775808 ≤ y ∧ y ≤ 9223372036854775807) ∧ y ≠ x) from by
    rw [← hy]
    exact ⟨bounds_i64 (wf_bits _ _ _ _), turn_ne x _ (by omega)⟩)
  clear hW
  obtain ⟨c0, c1, c2', c3⟩ := four_cells hx1
  go_upto_region 8 with (first | (go_at_call 8; refine (hput_any 1 cc l0 a3 _).mono ?_; rw [HP.out, HM.out]; rintro e wb ⟨rfl, hK⟩; have hKK := hKK.trans (hK.mono (by simp)); have hx1 := hK.blk hx1 (by simp)))
  go_upto_region 9 with (first | (go_at_call 11; refine (hget_yes x 1 cc l0 a3 _ HW.out).mono ?_; rintro e wc ⟨rfl, hK⟩; have hKK := (hKK.trans (hK.mono (by simp))).trans (Keep.alloc _ wc (.cells #[.int .i64 1, .int .i64 cc, .int .i64 l0, .bool a3] 23)); have hx1 := (Keep.alloc [] wc (.cells #[.int .i64 1, .int .i64 cc, .int .i64 l0, .bool a3] 23)).blk (hK.blk hx1 (by simp)) (by simp); have hx2 := heap_alloc_new wc (.cells #[.int .i64 1, .int .i64 cc, .int .i64 l0, .bool a3] 23)))
  generalize wc.alloc (.cells #[.int .i64 1, .int .i64 cc, .int .i64 l0, .bool a3] 23) = wd at *
  generalize wc.heap.size = g2 at *
  go_upto_region 10 with fail
  rcases word_or y with ⟨k2, c2, l2, f2, hW2⟩ | hW2
  · have HW2 := (show Hid (Word y k2 c2 l2 f2) from hW2)
    have HM2 := (show Hid (mayH k2 c2 l2 f2 = true) from hW2.1)
    have HP2 := (show Hid (putN k2 c2 l2 f2 = y) from by show _ = _; unfold putN; rw [hW2.1]; exact hW2.2)
    clear hW2
    go_upto_region 11 with (first | (go_at_call 11; refine (hget_yes y k2 c2 l2 f2 _ HW2.out).mono ?_; rintro e we ⟨rfl, hK⟩; have hKK := (hKK.trans (hK.mono (by simp))).trans (Keep.alloc _ we (.cells #[.int .i64 k2, .int .i64 c2, .int .i64 l2, .bool f2] 23)); have hx1 := (Keep.alloc [] we (.cells #[.int .i64 k2, .int .i64 c2, .int .i64 l2, .bool f2] 23)).blk (hK.blk hx1 (by simp)) (by simp); have hx2 := (Keep.alloc [] we (.cells #[.int .i64 k2, .int .i64 c2, .int .i64 l2, .bool f2] 23)).blk (hK.blk hx2 (by simp)) (by simp); have hx3 := heap_alloc_new we (.cells #[.int .i64 k2, .int .i64 c2, .int .i64 l2, .bool f2] 23)))
    generalize we.alloc (.cells #[.int .i64 k2, .int .i64 c2, .int .i64 l2, .bool f2] 23) = wf at *
    generalize we.heap.size = g3 at *
    obtain ⟨d0, d1, d2, d3⟩ := four_cells hx3
    go_upto_region 12 with (first | (go_at_call 8; refine (hput_any k2 c2 l2 f2 _).mono ?_; rw [HP2.out, HM2.out]; rintro e wg ⟨rfl, hK⟩; have hKK := hKK.trans (hK.mono (by simp)); have hx1 := hK.blk hx1 (by simp); have hx2 := hK.blk hx2 (by simp); have hx3 := hK.blk hx3 (by simp)))
    obtain ⟨p0, p1, p2, p3⟩ := four_cells hx1
    obtain ⟨q0, q1, q2, q3⟩ := four_cells hx2
    obtain ⟨r0, r1, r2, r3⟩ := four_cells hx3
    clear hy
    have hdf : (k2 == 1) = false ∨ ((k2 = 1 ∧ (c2 == cc) = false) ∨ ((k2 = 1 ∧ c2 = cc ∧ (l2 == l0) = false) ∨ (k2 = 1 ∧ c2 = cc ∧ l2 = l0 ∧ f2 = !a3))) := by
      by_cases h1 : k2 = 1
      · by_cases h2 : c2 = cc
        · by_cases h3 : l2 = l0
          · refine .inr (.inr (.inr ⟨h1, h2, h3, ?_⟩))
            rcases bor f2 a3 with h4 | h4
            · exfalso
              apply HY.out.2
              rw [← HP2.out, ← HP.out, h1, h2, h3, h4]
            · exact h4
          · exact .inr (.inr (.inl ⟨h1, h2, by simpa using h3⟩))
        · exact .inr (.inl ⟨h1, by simpa using h2⟩)
      · exact .inl (by simpa using h1)
    rcases hdf with h1 | ⟨h1, h2⟩ | ⟨h1, h2, h3⟩ | ⟨h1, h2, h3, h4⟩
    all_goals (try subst h1)
    all_goals (try subst h2)
    all_goals (try subst h3)
    all_goals (try subst h4)
    case inr.inr.inr =>
      cases a3
      all_goals
        simp only [Bool.not_false, Bool.not_true] at *
        go_wp2_with (first | (go_at_call 14; refine (awake8_any _).mono ?_; rintro e wz ⟨rfl, hK⟩; have hKK := hKK.trans (hK.mono (by simp))))
        go_ret
        exact ⟨rfl, hKK.drop HG.out⟩
    all_goals
      go_wp2_with (first | (go_at_call 14; refine (awake8_any _).mono ?_; rintro e wz ⟨rfl, hK⟩; have hKK := hKK.trans (hK.mono (by simp))))
      go_ret
      exact ⟨rfl, hKK.drop HG.out⟩
  · have HW2 := (show Hid (∀ k c l f, ¬ Word y k c l f) from hW2)
    clear hW2
    go_upto_region 11 with (first | (go_at_call 11; refine (hget_no y _ HY.out.1 HW2.out).mono ?_; rintro e we ⟨rfl, hK⟩; have hKK := (hKK.trans (hK.mono (by simp))).trans (Keep.alloc _ we (.cells #[.int .i64 0, .int .i64 0, .int .i64 0, .bool false] 23)); have hx1 := (Keep.alloc [] we (.cells #[.int .i64 0, .int .i64 0, .int .i64 0, .bool false] 23)).blk (hK.blk hx1 (by simp)) (by simp); have hx2 := (Keep.alloc [] we (.cells #[.int .i64 0, .int .i64 0, .int .i64 0, .bool false] 23)).blk (hK.blk hx2 (by simp)) (by simp); have hx3 := heap_alloc_new we (.cells #[.int .i64 0, .int .i64 0, .int .i64 0, .bool false] 23)))
    generalize we.alloc (.cells #[.int .i64 0, .int .i64 0, .int .i64 0, .bool false] 23) = wf at *
    generalize we.heap.size = g3 at *
    obtain ⟨d0, d1, d2, d3⟩ := four_cells hx3
    go_upto_region 12 with (first | (go_at_call 8; refine (hput_any 0 0 0 false _).mono ?_; rintro e wg ⟨rfl, hK⟩; have hKK := hKK.trans (hK.mono (by simp)); have hx1 := hK.blk hx1 (by simp); have hx2 := hK.blk hx2 (by simp); have hx3 := hK.blk hx3 (by simp)))
    obtain ⟨p0, p1, p2, p3⟩ := four_cells hx1
    obtain ⟨q0, q1, q2, q3⟩ := four_cells hx2
    clear hy
    go_wp2_with (first | (go_at_call 14; refine (awake8_any _).mono ?_; rintro e wz ⟨rfl, hK⟩; have hKK := hKK.trans (hK.mono (by simp))))
    go_ret
    exact ⟨rfl, hKK.drop HG.out⟩
set_option maxRecDepth 100000 in
set_option maxHeartbeats 6400000 in
theorem rows2 (a0 a1 a2 : Int) (a3 : Bool) (a4 : Int) (b0 : 0 ≤ a0 ∧ a0 ≤ 255) (b1 : 0 ≤ a1 ∧ a1 ≤ 255) (b2 : 0 ≤ a2 ∧ a2 ≤ 65535) (b4 : 0 ≤ a4 ∧ a4 ≤ 255) (w : World) (hk : 1 + a0 % 4 = 2) :
    Calls Try.prog 4 #[.int .u8 a0, .int .u8 a1, .int .u16 a2, .bool a3, .int .u8 a4] w fun e w' => e = .returned (.bool true) ∧ Keep [] w w' := by
  obtain ⟨l0, hl⟩ : ∃ l : Int, a2 % 1024 = l := ⟨_, rfl⟩
  have hlb : 0 ≤ l0 ∧ l0 ≤ 1023 := by omega
  go_enter Try.func4, Try.ntmps4
  go_upto_region 3 with fail
  have hx1 := heap_alloc_new w (.cells #[.int .i64 2, .int .i64 0, .int .i64 l0, .bool a3] 23)
  have hKK := Keep.alloc [w.heap.size] w (.cells #[.int .i64 2, .int .i64 0, .int .i64 l0, .bool a3] 23)
  generalize w.alloc (.cells #[.int .i64 2, .int .i64 0, .int .i64 l0, .bool a3] 23) = wa at *
  have HG := (show Hid (∀ k, k ∈ [w.heap.size] → k < w.heap.size → k ∈ ([] : List Nat)) from by intro k h1 h2; simp at h1; omega)
  obtain ⟨g1, hg⟩ : ∃ g, w.heap.size = g := ⟨_, rfl⟩
  rw [hg] at hx1 hKK ⊢
  replace HG := (show Hid (∀ k, k ∈ [g1] → k < w.heap.size → k ∈ ([] : List Nat)) from by rw [← hg]; exact HG.out)
  clear hg
  obtain ⟨m0, m1, m2, m3⟩ := four_cells hx1
  obtain ⟨f0, f1, f2, f3⟩ := four_free hx1
  go_upto_region 7 with fail
  have hW : Word (putH 2 0 l0 a3) 2 0 l0 a3 := ⟨by unfold mayH; simp; omega, rfl⟩
  generalize putH 2 0 l0 a3 = x at hW
  clear hl hlb m0 m1 m2 m3 f0 f1 f2 f3
  clear b0 b1 b2
  have HW := (show Hid (Word x 2 0 l0 a3) from hW)
  have HM := (show Hid (mayH 2 0 l0 a3 = true) from hW.1)
  have HP := (show Hid (putN 2 0 l0 a3 = x) from by show _ = _; unfold putN; rw [hW.1]; exact hW.2)
  have hx0 : 0 < x := hW.parts.1
  obtain ⟨y, hy⟩ : ∃ y, bits .xor .i64 x (wrap64 (2 ^ (a4 % 63).toNat)) = y := ⟨_, rfl⟩
  have HY := (show Hid ((-9223372036854775808 ≤ y ∧ y ≤ 9223372036854775807) ∧ y ≠ x) from by
    rw [← hy]
    exact ⟨bounds_i64 (wf_bits _ _ _ _), turn_ne x _ (by omega)⟩)
  clear hW
  obtain ⟨c0, c1, c2', c3⟩ := four_cells hx1
  go_upto_region 8 with (first | (go_at_call 8; refine (hput_any 2 0 l0 a3 _).mono ?_; rw [HP.out, HM.out]; rintro e wb ⟨rfl, hK⟩; have hKK := hKK.trans (hK.mono (by simp)); have hx1 := hK.blk hx1 (by simp)))
  go_upto_region 9 with (first | (go_at_call 11; refine (hget_yes x 2 0 l0 a3 _ HW.out).mono ?_; rintro e wc ⟨rfl, hK⟩; have hKK := (hKK.trans (hK.mono (by simp))).trans (Keep.alloc _ wc (.cells #[.int .i64 2, .int .i64 0, .int .i64 l0, .bool a3] 23)); have hx1 := (Keep.alloc [] wc (.cells #[.int .i64 2, .int .i64 0, .int .i64 l0, .bool a3] 23)).blk (hK.blk hx1 (by simp)) (by simp); have hx2 := heap_alloc_new wc (.cells #[.int .i64 2, .int .i64 0, .int .i64 l0, .bool a3] 23)))
  generalize wc.alloc (.cells #[.int .i64 2, .int .i64 0, .int .i64 l0, .bool a3] 23) = wd at *
  generalize wc.heap.size = g2 at *
  go_upto_region 10 with fail
  rcases word_or y with ⟨k2, c2, l2, f2, hW2⟩ | hW2
  · have HW2 := (show Hid (Word y k2 c2 l2 f2) from hW2)
    have HM2 := (show Hid (mayH k2 c2 l2 f2 = true) from hW2.1)
    have HP2 := (show Hid (putN k2 c2 l2 f2 = y) from by show _ = _; unfold putN; rw [hW2.1]; exact hW2.2)
    clear hW2
    go_upto_region 11 with (first | (go_at_call 11; refine (hget_yes y k2 c2 l2 f2 _ HW2.out).mono ?_; rintro e we ⟨rfl, hK⟩; have hKK := (hKK.trans (hK.mono (by simp))).trans (Keep.alloc _ we (.cells #[.int .i64 k2, .int .i64 c2, .int .i64 l2, .bool f2] 23)); have hx1 := (Keep.alloc [] we (.cells #[.int .i64 k2, .int .i64 c2, .int .i64 l2, .bool f2] 23)).blk (hK.blk hx1 (by simp)) (by simp); have hx2 := (Keep.alloc [] we (.cells #[.int .i64 k2, .int .i64 c2, .int .i64 l2, .bool f2] 23)).blk (hK.blk hx2 (by simp)) (by simp); have hx3 := heap_alloc_new we (.cells #[.int .i64 k2, .int .i64 c2, .int .i64 l2, .bool f2] 23)))
    generalize we.alloc (.cells #[.int .i64 k2, .int .i64 c2, .int .i64 l2, .bool f2] 23) = wf at *
    generalize we.heap.size = g3 at *
    obtain ⟨d0, d1, d2, d3⟩ := four_cells hx3
    go_upto_region 12 with (first | (go_at_call 8; refine (hput_any k2 c2 l2 f2 _).mono ?_; rw [HP2.out, HM2.out]; rintro e wg ⟨rfl, hK⟩; have hKK := hKK.trans (hK.mono (by simp)); have hx1 := hK.blk hx1 (by simp); have hx2 := hK.blk hx2 (by simp); have hx3 := hK.blk hx3 (by simp)))
    obtain ⟨p0, p1, p2, p3⟩ := four_cells hx1
    obtain ⟨q0, q1, q2, q3⟩ := four_cells hx2
    obtain ⟨r0, r1, r2, r3⟩ := four_cells hx3
    clear hy
    have hdf : (k2 == 2) = false ∨ ((k2 = 2 ∧ (c2 == 0) = false) ∨ ((k2 = 2 ∧ c2 = 0 ∧ (l2 == l0) = false) ∨ (k2 = 2 ∧ c2 = 0 ∧ l2 = l0 ∧ f2 = !a3))) := by
      by_cases h1 : k2 = 2
      · by_cases h2 : c2 = 0
        · by_cases h3 : l2 = l0
          · refine .inr (.inr (.inr ⟨h1, h2, h3, ?_⟩))
            rcases bor f2 a3 with h4 | h4
            · exfalso
              apply HY.out.2
              rw [← HP2.out, ← HP.out, h1, h2, h3, h4]
            · exact h4
          · exact .inr (.inr (.inl ⟨h1, h2, by simpa using h3⟩))
        · exact .inr (.inl ⟨h1, by simpa using h2⟩)
      · exact .inl (by simpa using h1)
    rcases hdf with h1 | ⟨h1, h2⟩ | ⟨h1, h2, h3⟩ | ⟨h1, h2, h3, h4⟩
    all_goals (try subst h1)
    all_goals (try subst h2)
    all_goals (try subst h3)
    all_goals (try subst h4)
    case inr.inr.inr =>
      cases a3
      all_goals
        simp only [Bool.not_false, Bool.not_true] at *
        go_wp2_with (first | (go_at_call 14; refine (awake8_any _).mono ?_; rintro e wz ⟨rfl, hK⟩; have hKK := hKK.trans (hK.mono (by simp))))
        go_ret
        exact ⟨rfl, hKK.drop HG.out⟩
    all_goals
      go_wp2_with (first | (go_at_call 14; refine (awake8_any _).mono ?_; rintro e wz ⟨rfl, hK⟩; have hKK := hKK.trans (hK.mono (by simp))))
      go_ret
      exact ⟨rfl, hKK.drop HG.out⟩
  · have HW2 := (show Hid (∀ k c l f, ¬ Word y k c l f) from hW2)
    clear hW2
    go_upto_region 11 with (first | (go_at_call 11; refine (hget_no y _ HY.out.1 HW2.out).mono ?_; rintro e we ⟨rfl, hK⟩; have hKK := (hKK.trans (hK.mono (by simp))).trans (Keep.alloc _ we (.cells #[.int .i64 0, .int .i64 0, .int .i64 0, .bool false] 23)); have hx1 := (Keep.alloc [] we (.cells #[.int .i64 0, .int .i64 0, .int .i64 0, .bool false] 23)).blk (hK.blk hx1 (by simp)) (by simp); have hx2 := (Keep.alloc [] we (.cells #[.int .i64 0, .int .i64 0, .int .i64 0, .bool false] 23)).blk (hK.blk hx2 (by simp)) (by simp); have hx3 := heap_alloc_new we (.cells #[.int .i64 0, .int .i64 0, .int .i64 0, .bool false] 23)))
    generalize we.alloc (.cells #[.int .i64 0, .int .i64 0, .int .i64 0, .bool false] 23) = wf at *
    generalize we.heap.size = g3 at *
    obtain ⟨d0, d1, d2, d3⟩ := four_cells hx3
    go_upto_region 12 with (first | (go_at_call 8; refine (hput_any 0 0 0 false _).mono ?_; rintro e wg ⟨rfl, hK⟩; have hKK := hKK.trans (hK.mono (by simp)); have hx1 := hK.blk hx1 (by simp); have hx2 := hK.blk hx2 (by simp); have hx3 := hK.blk hx3 (by simp)))
    obtain ⟨p0, p1, p2, p3⟩ := four_cells hx1
    obtain ⟨q0, q1, q2, q3⟩ := four_cells hx2
    clear hy
    go_wp2_with (first | (go_at_call 14; refine (awake8_any _).mono ?_; rintro e wz ⟨rfl, hK⟩; have hKK := hKK.trans (hK.mono (by simp))))
    go_ret
    exact ⟨rfl, hKK.drop HG.out⟩
set_option maxRecDepth 100000 in
set_option maxHeartbeats 6400000 in
theorem rows3 (a0 a1 a2 : Int) (a3 : Bool) (a4 : Int) (b0 : 0 ≤ a0 ∧ a0 ≤ 255) (b1 : 0 ≤ a1 ∧ a1 ≤ 255) (b2 : 0 ≤ a2 ∧ a2 ≤ 65535) (b4 : 0 ≤ a4 ∧ a4 ≤ 255) (w : World) (hk : 1 + a0 % 4 = 3) :
    Calls Try.prog 4 #[.int .u8 a0, .int .u8 a1, .int .u16 a2, .bool a3, .int .u8 a4] w fun e w' => e = .returned (.bool true) ∧ Keep [] w w' := by
  obtain ⟨l0, hl⟩ : ∃ l : Int, a2 % 1024 = l := ⟨_, rfl⟩
  have hlb : 0 ≤ l0 ∧ l0 ≤ 1023 := by omega
  go_enter Try.func4, Try.ntmps4
  go_upto_region 3 with fail
  have hx1 := heap_alloc_new w (.cells #[.int .i64 3, .int .i64 0, .int .i64 l0, .bool a3] 23)
  have hKK := Keep.alloc [w.heap.size] w (.cells #[.int .i64 3, .int .i64 0, .int .i64 l0, .bool a3] 23)
  generalize w.alloc (.cells #[.int .i64 3, .int .i64 0, .int .i64 l0, .bool a3] 23) = wa at *
  have HG := (show Hid (∀ k, k ∈ [w.heap.size] → k < w.heap.size → k ∈ ([] : List Nat)) from by intro k h1 h2; simp at h1; omega)
  obtain ⟨g1, hg⟩ : ∃ g, w.heap.size = g := ⟨_, rfl⟩
  rw [hg] at hx1 hKK ⊢
  replace HG := (show Hid (∀ k, k ∈ [g1] → k < w.heap.size → k ∈ ([] : List Nat)) from by rw [← hg]; exact HG.out)
  clear hg
  obtain ⟨m0, m1, m2, m3⟩ := four_cells hx1
  obtain ⟨f0, f1, f2, f3⟩ := four_free hx1
  go_upto_region 7 with fail
  have hW : Word (putH 3 0 l0 a3) 3 0 l0 a3 := ⟨by unfold mayH; simp; omega, rfl⟩
  generalize putH 3 0 l0 a3 = x at hW
  clear hl hlb m0 m1 m2 m3 f0 f1 f2 f3
  clear b0 b1 b2
  have HW := (show Hid (Word x 3 0 l0 a3) from hW)
  have HM := (show Hid (mayH 3 0 l0 a3 = true) from hW.1)
  have HP := (show Hid (putN 3 0 l0 a3 = x) from by show _ = _; unfold putN; rw [hW.1]; exact hW.2)
  have hx0 : 0 < x := hW.parts.1
  obtain ⟨y, hy⟩ : ∃ y, bits .xor .i64 x (wrap64 (2 ^ (a4 % 63).toNat)) = y := ⟨_, rfl⟩
  have HY := (show Hid ((-9223372036854775808 ≤ y ∧ y ≤ 9223372036854775807) ∧ y ≠ x) from by
    rw [← hy]
    exact ⟨bounds_i64 (wf_bits _ _ _ _), turn_ne x _ (by omega)⟩)
  clear hW
  obtain ⟨c0, c1, c2', c3⟩ := four_cells hx1
  go_upto_region 8 with (first | (go_at_call 8; refine (hput_any 3 0 l0 a3 _).mono ?_; rw [HP.out, HM.out]; rintro e wb ⟨rfl, hK⟩; have hKK := hKK.trans (hK.mono (by simp)); have hx1 := hK.blk hx1 (by simp)))
  go_upto_region 9 with (first | (go_at_call 11; refine (hget_yes x 3 0 l0 a3 _ HW.out).mono ?_; rintro e wc ⟨rfl, hK⟩; have hKK := (hKK.trans (hK.mono (by simp))).trans (Keep.alloc _ wc (.cells #[.int .i64 3, .int .i64 0, .int .i64 l0, .bool a3] 23)); have hx1 := (Keep.alloc [] wc (.cells #[.int .i64 3, .int .i64 0, .int .i64 l0, .bool a3] 23)).blk (hK.blk hx1 (by simp)) (by simp); have hx2 := heap_alloc_new wc (.cells #[.int .i64 3, .int .i64 0, .int .i64 l0, .bool a3] 23)))
  generalize wc.alloc (.cells #[.int .i64 3, .int .i64 0, .int .i64 l0, .bool a3] 23) = wd at *
  generalize wc.heap.size = g2 at *
  go_upto_region 10 with fail
  rcases word_or y with ⟨k2, c2, l2, f2, hW2⟩ | hW2
  · have HW2 := (show Hid (Word y k2 c2 l2 f2) from hW2)
    have HM2 := (show Hid (mayH k2 c2 l2 f2 = true) from hW2.1)
    have HP2 := (show Hid (putN k2 c2 l2 f2 = y) from by show _ = _; unfold putN; rw [hW2.1]; exact hW2.2)
    clear hW2
    go_upto_region 11 with (first | (go_at_call 11; refine (hget_yes y k2 c2 l2 f2 _ HW2.out).mono ?_; rintro e we ⟨rfl, hK⟩; have hKK := (hKK.trans (hK.mono (by simp))).trans (Keep.alloc _ we (.cells #[.int .i64 k2, .int .i64 c2, .int .i64 l2, .bool f2] 23)); have hx1 := (Keep.alloc [] we (.cells #[.int .i64 k2, .int .i64 c2, .int .i64 l2, .bool f2] 23)).blk (hK.blk hx1 (by simp)) (by simp); have hx2 := (Keep.alloc [] we (.cells #[.int .i64 k2, .int .i64 c2, .int .i64 l2, .bool f2] 23)).blk (hK.blk hx2 (by simp)) (by simp); have hx3 := heap_alloc_new we (.cells #[.int .i64 k2, .int .i64 c2, .int .i64 l2, .bool f2] 23)))
    generalize we.alloc (.cells #[.int .i64 k2, .int .i64 c2, .int .i64 l2, .bool f2] 23) = wf at *
    generalize we.heap.size = g3 at *
    obtain ⟨d0, d1, d2, d3⟩ := four_cells hx3
    go_upto_region 12 with (first | (go_at_call 8; refine (hput_any k2 c2 l2 f2 _).mono ?_; rw [HP2.out, HM2.out]; rintro e wg ⟨rfl, hK⟩; have hKK := hKK.trans (hK.mono (by simp)); have hx1 := hK.blk hx1 (by simp); have hx2 := hK.blk hx2 (by simp); have hx3 := hK.blk hx3 (by simp)))
    obtain ⟨p0, p1, p2, p3⟩ := four_cells hx1
    obtain ⟨q0, q1, q2, q3⟩ := four_cells hx2
    obtain ⟨r0, r1, r2, r3⟩ := four_cells hx3
    clear hy
    have hdf : (k2 == 3) = false ∨ ((k2 = 3 ∧ (c2 == 0) = false) ∨ ((k2 = 3 ∧ c2 = 0 ∧ (l2 == l0) = false) ∨ (k2 = 3 ∧ c2 = 0 ∧ l2 = l0 ∧ f2 = !a3))) := by
      by_cases h1 : k2 = 3
      · by_cases h2 : c2 = 0
        · by_cases h3 : l2 = l0
          · refine .inr (.inr (.inr ⟨h1, h2, h3, ?_⟩))
            rcases bor f2 a3 with h4 | h4
            · exfalso
              apply HY.out.2
              rw [← HP2.out, ← HP.out, h1, h2, h3, h4]
            · exact h4
          · exact .inr (.inr (.inl ⟨h1, h2, by simpa using h3⟩))
        · exact .inr (.inl ⟨h1, by simpa using h2⟩)
      · exact .inl (by simpa using h1)
    rcases hdf with h1 | ⟨h1, h2⟩ | ⟨h1, h2, h3⟩ | ⟨h1, h2, h3, h4⟩
    all_goals (try subst h1)
    all_goals (try subst h2)
    all_goals (try subst h3)
    all_goals (try subst h4)
    case inr.inr.inr =>
      cases a3
      all_goals
        simp only [Bool.not_false, Bool.not_true] at *
        go_wp2_with (first | (go_at_call 14; refine (awake8_any _).mono ?_; rintro e wz ⟨rfl, hK⟩; have hKK := hKK.trans (hK.mono (by simp))))
        go_ret
        exact ⟨rfl, hKK.drop HG.out⟩
    all_goals
      go_wp2_with (first | (go_at_call 14; refine (awake8_any _).mono ?_; rintro e wz ⟨rfl, hK⟩; have hKK := hKK.trans (hK.mono (by simp))))
      go_ret
      exact ⟨rfl, hKK.drop HG.out⟩
  · have HW2 := (show Hid (∀ k c l f, ¬ Word y k c l f) from hW2)
    clear hW2
    go_upto_region 11 with (first | (go_at_call 11; refine (hget_no y _ HY.out.1 HW2.out).mono ?_; rintro e we ⟨rfl, hK⟩; have hKK := (hKK.trans (hK.mono (by simp))).trans (Keep.alloc _ we (.cells #[.int .i64 0, .int .i64 0, .int .i64 0, .bool false] 23)); have hx1 := (Keep.alloc [] we (.cells #[.int .i64 0, .int .i64 0, .int .i64 0, .bool false] 23)).blk (hK.blk hx1 (by simp)) (by simp); have hx2 := (Keep.alloc [] we (.cells #[.int .i64 0, .int .i64 0, .int .i64 0, .bool false] 23)).blk (hK.blk hx2 (by simp)) (by simp); have hx3 := heap_alloc_new we (.cells #[.int .i64 0, .int .i64 0, .int .i64 0, .bool false] 23)))
    generalize we.alloc (.cells #[.int .i64 0, .int .i64 0, .int .i64 0, .bool false] 23) = wf at *
    generalize we.heap.size = g3 at *
    obtain ⟨d0, d1, d2, d3⟩ := four_cells hx3
    go_upto_region 12 with (first | (go_at_call 8; refine (hput_any 0 0 0 false _).mono ?_; rintro e wg ⟨rfl, hK⟩; have hKK := hKK.trans (hK.mono (by simp)); have hx1 := hK.blk hx1 (by simp); have hx2 := hK.blk hx2 (by simp); have hx3 := hK.blk hx3 (by simp)))
    obtain ⟨p0, p1, p2, p3⟩ := four_cells hx1
    obtain ⟨q0, q1, q2, q3⟩ := four_cells hx2
    clear hy
    go_wp2_with (first | (go_at_call 14; refine (awake8_any _).mono ?_; rintro e wz ⟨rfl, hK⟩; have hKK := hKK.trans (hK.mono (by simp))))
    go_ret
    exact ⟨rfl, hKK.drop HG.out⟩
set_option maxRecDepth 100000 in
set_option maxHeartbeats 6400000 in
theorem ref (a0 a1 a2 : Int) (a3 : Bool) (a4 : Int) (b0 : 0 ≤ a0 ∧ a0 ≤ 255) (b1 : 0 ≤ a1 ∧ a1 ≤ 255) (b2 : 0 ≤ a2 ∧ a2 ≤ 65535) (b4 : 0 ≤ a4 ∧ a4 ≤ 255) (w : World) (hk : 1 + a0 % 4 = 4) :
    Calls Try.prog 4 #[.int .u8 a0, .int .u8 a1, .int .u16 a2, .bool a3, .int .u8 a4] w fun e w' => e = .returned (.bool true) ∧ Keep [] w w' := by
  obtain ⟨l0, hl⟩ : ∃ l : Int, a2 % 1024 = l := ⟨_, rfl⟩
  have hlb : 0 ≤ l0 ∧ l0 ≤ 1023 := by omega
  go_enter Try.func4, Try.ntmps4
  go_upto_region 3 with fail
  have hx1 := heap_alloc_new w (.cells #[.int .i64 4, .int .i64 0, .int .i64 l0, .bool a3] 23)
  have hKK := Keep.alloc [w.heap.size] w (.cells #[.int .i64 4, .int .i64 0, .int .i64 l0, .bool a3] 23)
  generalize w.alloc (.cells #[.int .i64 4, .int .i64 0, .int .i64 l0, .bool a3] 23) = wa at *
  have HG := (show Hid (∀ k, k ∈ [w.heap.size] → k < w.heap.size → k ∈ ([] : List Nat)) from by intro k h1 h2; simp at h1; omega)
  obtain ⟨g1, hg⟩ : ∃ g, w.heap.size = g := ⟨_, rfl⟩
  rw [hg] at hx1 hKK ⊢
  replace HG := (show Hid (∀ k, k ∈ [g1] → k < w.heap.size → k ∈ ([] : List Nat)) from by rw [← hg]; exact HG.out)
  clear hg
  obtain ⟨m0, m1, m2, m3⟩ := four_cells hx1
  obtain ⟨f0, f1, f2, f3⟩ := four_free hx1
  go_upto_region 7 with fail
  obtain ⟨hz, hk4⟩ := four_put hx1 (.int .i64 4) (.int .i64 (1 + a1 % 3)) (.int .i64 5) (.bool false)
  replace hx1 := hz
  replace hKK := hKK.trans hk4
  clear hz hk4
  generalize ((((wa.setCell ⟨g1, 0, none⟩ (.int .i64 4)).setCell ⟨g1, 1, none⟩ (.int .i64 (1 + a1 % 3))).setCell ⟨g1, 2, none⟩ (.int .i64 5)).setCell ⟨g1, 3, none⟩ (.bool false)) = wv at *
  obtain ⟨cc, hcc⟩ : ∃ cc, 1 + a1 % 3 = cc := ⟨_, rfl⟩
  have hccb : 1 ≤ cc ∧ cc ≤ 3 := by omega
  rw [hcc] at hx1 ⊢
  clear hcc
  have hW : Word (putH 4 cc 5 false) 4 cc 5 false := ⟨by unfold mayH; simp; omega, rfl⟩
  generalize putH 4 cc 5 false = x at hW
  clear hl hlb m0 m1 m2 m3 f0 f1 f2 f3
  clear b0 b1 b2
  have HW := (show Hid (Word x 4 cc 5 false) from hW)
  have HM := (show Hid (mayH 4 cc 5 false = true) from hW.1)
  have HP := (show Hid (putN 4 cc 5 false = x) from by show _ = _; unfold putN; rw [hW.1]; exact hW.2)
  have hx0 : 0 < x := hW.parts.1
  obtain ⟨y, hy⟩ : ∃ y, bits .xor .i64 x (wrap64 (2 ^ (a4 % 63).toNat)) = y := ⟨_, rfl⟩
  have HY := (show Hid ((-9223372036854775808 ≤ y ∧ y ≤ 9223372036854775807) ∧ y ≠ x) from by
    rw [← hy]
    exact ⟨bounds_i64 (wf_bits _ _ _ _), turn_ne x _ (by omega)⟩)
  clear hW
  obtain ⟨c0, c1, c2', c3⟩ := four_cells hx1
  go_upto_region 8 with (first | (go_at_call 8; refine (hput_any 4 cc 5 false _).mono ?_; rw [HP.out, HM.out]; rintro e wb ⟨rfl, hK⟩; have hKK := hKK.trans (hK.mono (by simp)); have hx1 := hK.blk hx1 (by simp)))
  go_upto_region 9 with (first | (go_at_call 11; refine (hget_yes x 4 cc 5 false _ HW.out).mono ?_; rintro e wc ⟨rfl, hK⟩; have hKK := (hKK.trans (hK.mono (by simp))).trans (Keep.alloc _ wc (.cells #[.int .i64 4, .int .i64 cc, .int .i64 5, .bool false] 23)); have hx1 := (Keep.alloc [] wc (.cells #[.int .i64 4, .int .i64 cc, .int .i64 5, .bool false] 23)).blk (hK.blk hx1 (by simp)) (by simp); have hx2 := heap_alloc_new wc (.cells #[.int .i64 4, .int .i64 cc, .int .i64 5, .bool false] 23)))
  generalize wc.alloc (.cells #[.int .i64 4, .int .i64 cc, .int .i64 5, .bool false] 23) = wd at *
  generalize wc.heap.size = g2 at *
  go_upto_region 10 with fail
  rcases word_or y with ⟨k2, c2, l2, f2, hW2⟩ | hW2
  · have HW2 := (show Hid (Word y k2 c2 l2 f2) from hW2)
    have HM2 := (show Hid (mayH k2 c2 l2 f2 = true) from hW2.1)
    have HP2 := (show Hid (putN k2 c2 l2 f2 = y) from by show _ = _; unfold putN; rw [hW2.1]; exact hW2.2)
    clear hW2
    go_upto_region 11 with (first | (go_at_call 11; refine (hget_yes y k2 c2 l2 f2 _ HW2.out).mono ?_; rintro e we ⟨rfl, hK⟩; have hKK := (hKK.trans (hK.mono (by simp))).trans (Keep.alloc _ we (.cells #[.int .i64 k2, .int .i64 c2, .int .i64 l2, .bool f2] 23)); have hx1 := (Keep.alloc [] we (.cells #[.int .i64 k2, .int .i64 c2, .int .i64 l2, .bool f2] 23)).blk (hK.blk hx1 (by simp)) (by simp); have hx2 := (Keep.alloc [] we (.cells #[.int .i64 k2, .int .i64 c2, .int .i64 l2, .bool f2] 23)).blk (hK.blk hx2 (by simp)) (by simp); have hx3 := heap_alloc_new we (.cells #[.int .i64 k2, .int .i64 c2, .int .i64 l2, .bool f2] 23)))
    generalize we.alloc (.cells #[.int .i64 k2, .int .i64 c2, .int .i64 l2, .bool f2] 23) = wf at *
    generalize we.heap.size = g3 at *
    obtain ⟨d0, d1, d2, d3⟩ := four_cells hx3
    go_upto_region 12 with (first | (go_at_call 8; refine (hput_any k2 c2 l2 f2 _).mono ?_; rw [HP2.out, HM2.out]; rintro e wg ⟨rfl, hK⟩; have hKK := hKK.trans (hK.mono (by simp)); have hx1 := hK.blk hx1 (by simp); have hx2 := hK.blk hx2 (by simp); have hx3 := hK.blk hx3 (by simp)))
    obtain ⟨p0, p1, p2, p3⟩ := four_cells hx1
    obtain ⟨q0, q1, q2, q3⟩ := four_cells hx2
    obtain ⟨r0, r1, r2, r3⟩ := four_cells hx3
    clear hy
    have hdf : (k2 == 4) = false ∨ ((k2 = 4 ∧ (c2 == cc) = false) ∨ ((k2 = 4 ∧ c2 = cc ∧ (l2 == 5) = false) ∨ (k2 = 4 ∧ c2 = cc ∧ l2 = 5 ∧ f2 = !false))) := by
      by_cases h1 : k2 = 4
      · by_cases h2 : c2 = cc
        · by_cases h3 : l2 = 5
          · refine .inr (.inr (.inr ⟨h1, h2, h3, ?_⟩))
            rcases bor f2 false with h4 | h4
            · exfalso
              apply HY.out.2
              rw [← HP2.out, ← HP.out, h1, h2, h3, h4]
            · exact h4
          · exact .inr (.inr (.inl ⟨h1, h2, by simpa using h3⟩))
        · exact .inr (.inl ⟨h1, by simpa using h2⟩)
      · exact .inl (by simpa using h1)
    rcases hdf with h1 | ⟨h1, h2⟩ | ⟨h1, h2, h3⟩ | ⟨h1, h2, h3, h4⟩
    all_goals (try subst h1)
    all_goals (try subst h2)
    all_goals (try subst h3)
    all_goals (try subst h4)
    case inr.inr.inr =>
      all_goals
        simp only [Bool.not_false] at *
        go_wp2_with (first | (go_at_call 14; refine (awake8_any _).mono ?_; rintro e wz ⟨rfl, hK⟩; have hKK := hKK.trans (hK.mono (by simp))))
        go_ret
        exact ⟨rfl, hKK.drop HG.out⟩
    all_goals
      go_wp2_with (first | (go_at_call 14; refine (awake8_any _).mono ?_; rintro e wz ⟨rfl, hK⟩; have hKK := hKK.trans (hK.mono (by simp))))
      go_ret
      exact ⟨rfl, hKK.drop HG.out⟩
  · have HW2 := (show Hid (∀ k c l f, ¬ Word y k c l f) from hW2)
    clear hW2
    go_upto_region 11 with (first | (go_at_call 11; refine (hget_no y _ HY.out.1 HW2.out).mono ?_; rintro e we ⟨rfl, hK⟩; have hKK := (hKK.trans (hK.mono (by simp))).trans (Keep.alloc _ we (.cells #[.int .i64 0, .int .i64 0, .int .i64 0, .bool false] 23)); have hx1 := (Keep.alloc [] we (.cells #[.int .i64 0, .int .i64 0, .int .i64 0, .bool false] 23)).blk (hK.blk hx1 (by simp)) (by simp); have hx2 := (Keep.alloc [] we (.cells #[.int .i64 0, .int .i64 0, .int .i64 0, .bool false] 23)).blk (hK.blk hx2 (by simp)) (by simp); have hx3 := heap_alloc_new we (.cells #[.int .i64 0, .int .i64 0, .int .i64 0, .bool false] 23)))
    generalize we.alloc (.cells #[.int .i64 0, .int .i64 0, .int .i64 0, .bool false] 23) = wf at *
    generalize we.heap.size = g3 at *
    obtain ⟨d0, d1, d2, d3⟩ := four_cells hx3
    go_upto_region 12 with (first | (go_at_call 8; refine (hput_any 0 0 0 false _).mono ?_; rintro e wg ⟨rfl, hK⟩; have hKK := hKK.trans (hK.mono (by simp)); have hx1 := hK.blk hx1 (by simp); have hx2 := hK.blk hx2 (by simp); have hx3 := hK.blk hx3 (by simp)))
    obtain ⟨p0, p1, p2, p3⟩ := four_cells hx1
    obtain ⟨q0, q1, q2, q3⟩ := four_cells hx2
    clear hy
    go_wp2_with (first | (go_at_call 14; refine (awake8_any _).mono ?_; rintro e wz ⟨rfl, hK⟩; have hKK := hKK.trans (hK.mono (by simp))))
    go_ret
    exact ⟨rfl, hKK.drop HG.out⟩

theorem walk (a0 a1 a2 : Int) (a3 : Bool) (a4 : Int) (w0 : (Lit.int .u8 a0).wf = true) (w1 : (Lit.int .u8 a1).wf = true) (w2 : (Lit.int .u16 a2).wf = true) (w4 : (Lit.int .u8 a4).wf = true) (w : World) :
    Calls Try.prog 4 #[.int .u8 a0, .int .u8 a1, .int .u16 a2, .bool a3, .int .u8 a4] w fun e w' => e = .returned (.bool true) ∧ Keep [] w w' := by
  have b0 := bounds_u8 w0
  have b1 := bounds_u8 w1
  have b2 := bounds_u16 w2
  have b4 := bounds_u8 w4
  rcases (show 1 + a0 % 4 = 1 ∨ 1 + a0 % 4 = 2 ∨ 1 + a0 % 4 = 3 ∨ 1 + a0 % 4 = 4 from by omega) with h | h | h | h
  · exact plain a0 a1 a2 a3 a4 b0 b1 b2 b4 w h
  · exact rows2 a0 a1 a2 a3 a4 b0 b1 b2 b4 w h
  · exact rows3 a0 a1 a2 a3 a4 b0 b1 b2 b4 w h
  · exact ref a0 a1 a2 a3 a4 b0 b1 b2 b4 w h

end Go.Proofs.Ytmnjheodligohaa.headBack
