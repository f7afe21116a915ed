/-
  HeadRefuses: what may not be has no word.
-/
import Derived.Test.YtmnjheodligohaaHeadRef
import Derived.Deep.RegionHeld3
import Derived.ProofKit
import Derived.OpenShut
namespace Go.Proofs.Ytmnjheodligohaa.headRefuses
open Go.RowKit

theorem bad (w : World) (lo hi : Int) (q : Nat) (hq : q < 14) (hlo : lo ≤ -1) (hhi : 1024 ≤ hi) : ∃ k c l f, ((w.alloc (.cells #[.int .i64 0, .int .i64 0, .int .i64 0, .bool false, .int .i64 5, .int .i64 0, .int .i64 0, .bool false, .int .i64 lo, .int .i64 0, .int .i64 0, .bool false, .int .i64 1, .int .i64 0, .int .i64 0, .bool false, .int .i64 1, .int .i64 257, .int .i64 0, .bool false, .int .i64 1, .int .i64 lo, .int .i64 0, .bool false, .int .i64 2, .int .i64 1, .int .i64 0, .bool false, .int .i64 3, .int .i64 1, .int .i64 0, .bool false, .int .i64 3, .int .i64 0, .int .i64 lo, .bool false, .int .i64 3, .int .i64 0, .int .i64 hi, .bool false, .int .i64 4, .int .i64 0, .int .i64 5, .bool false, .int .i64 4, .int .i64 4, .int .i64 5, .bool false, .int .i64 4, .int .i64 1, .int .i64 4, .bool false, .int .i64 4, .int .i64 1, .int .i64 5, .bool true] 23)).cell? ⟨w.heap.size, q * 4, none⟩ = some (.int .i64 k) ∧ (w.alloc (.cells #[.int .i64 0, .int .i64 0, .int .i64 0, .bool false, .int .i64 5, .int .i64 0, .int .i64 0, .bool false, .int .i64 lo, .int .i64 0, .int .i64 0, .bool false, .int .i64 1, .int .i64 0, .int .i64 0, .bool false, .int .i64 1, .int .i64 257, .int .i64 0, .bool false, .int .i64 1, .int .i64 lo, .int .i64 0, .bool false, .int .i64 2, .int .i64 1, .int .i64 0, .bool false, .int .i64 3, .int .i64 1, .int .i64 0, .bool false, .int .i64 3, .int .i64 0, .int .i64 lo, .bool false, .int .i64 3, .int .i64 0, .int .i64 hi, .bool false, .int .i64 4, .int .i64 0, .int .i64 5, .bool false, .int .i64 4, .int .i64 4, .int .i64 5, .bool false, .int .i64 4, .int .i64 1, .int .i64 4, .bool false, .int .i64 4, .int .i64 1, .int .i64 5, .bool true] 23)).cell? ⟨w.heap.size, q * 4 + 1, none⟩ = some (.int .i64 c) ∧ (w.alloc (.cells #[.int .i64 0, .int .i64 0, .int .i64 0, .bool false, .int .i64 5, .int .i64 0, .int .i64 0, .bool false, .int .i64 lo, .int .i64 0, .int .i64 0, .bool false, .int .i64 1, .int .i64 0, .int .i64 0, .bool false, .int .i64 1, .int .i64 257, .int .i64 0, .bool false, .int .i64 1, .int .i64 lo, .int .i64 0, .bool false, .int .i64 2, .int .i64 1, .int .i64 0, .bool false, .int .i64 3, .int .i64 1, .int .i64 0, .bool false, .int .i64 3, .int .i64 0, .int .i64 lo, .bool false, .int .i64 3, .int .i64 0, .int .i64 hi, .bool false, .int .i64 4, .int .i64 0, .int .i64 5, .bool false, .int .i64 4, .int .i64 4, .int .i64 5, .bool false, .int .i64 4, .int .i64 1, .int .i64 4, .bool false, .int .i64 4, .int .i64 1, .int .i64 5, .bool true] 23)).cell? ⟨w.heap.size, q * 4 + 2, none⟩ = some (.int .i64 l) ∧ (w.alloc (.cells #[.int .i64 0, .int .i64 0, .int .i64 0, .bool false, .int .i64 5, .int .i64 0, .int .i64 0, .bool false, .int .i64 lo, .int .i64 0, .int .i64 0, .bool false, .int .i64 1, .int .i64 0, .int .i64 0, .bool false, .int .i64 1, .int .i64 257, .int .i64 0, .bool false, .int .i64 1, .int .i64 lo, .int .i64 0, .bool false, .int .i64 2, .int .i64 1, .int .i64 0, .bool false, .int .i64 3, .int .i64 1, .int .i64 0, .bool false, .int .i64 3, .int .i64 0, .int .i64 lo, .bool false, .int .i64 3, .int .i64 0, .int .i64 hi, .bool false, .int .i64 4, .int .i64 0, .int .i64 5, .bool false, .int .i64 4, .int .i64 4, .int .i64 5, .bool false, .int .i64 4, .int .i64 1, .int .i64 4, .bool false, .int .i64 4, .int .i64 1, .int .i64 5, .bool true] 23)).cell? ⟨w.heap.size, q * 4 + 3, none⟩ = some (.bool f)) ∧ mayH k c l f = false := by
  have h1 := heap_alloc_new w (.cells #[.int .i64 0, .int .i64 0, .int .i64 0, .bool false, .int .i64 5, .int .i64 0, .int .i64 0, .bool false, .int .i64 lo, .int .i64 0, .int .i64 0, .bool false, .int .i64 1, .int .i64 0, .int .i64 0, .bool false, .int .i64 1, .int .i64 257, .int .i64 0, .bool false, .int .i64 1, .int .i64 lo, .int .i64 0, .bool false, .int .i64 2, .int .i64 1, .int .i64 0, .bool false, .int .i64 3, .int .i64 1, .int .i64 0, .bool false, .int .i64 3, .int .i64 0, .int .i64 lo, .bool false, .int .i64 3, .int .i64 0, .int .i64 hi, .bool false, .int .i64 4, .int .i64 0, .int .i64 5, .bool false, .int .i64 4, .int .i64 4, .int .i64 5, .bool false, .int .i64 4, .int .i64 1, .int .i64 4, .bool false, .int .i64 4, .int .i64 1, .int .i64 5, .bool true] 23)
  have c1 := fun j => cell_of_row _ _ j _ _ _ h1
  rcases q with _ | _ | _ | _ | _ | _ | _ | _ | _ | _ | _ | _ | _ | _ | q
  · exact ⟨0, 0, 0, false, ⟨(c1 _).trans rfl, (c1 _).trans rfl, (c1 _).trans rfl, (c1 _).trans rfl⟩, by decide⟩
  · exact ⟨5, 0, 0, false, ⟨(c1 _).trans rfl, (c1 _).trans rfl, (c1 _).trans rfl, (c1 _).trans rfl⟩, by decide⟩
  · exact ⟨lo, 0, 0, false, ⟨(c1 _).trans rfl, (c1 _).trans rfl, (c1 _).trans rfl, (c1 _).trans rfl⟩, by unfold mayH; rw [Bool.eq_false_iff]; simp; omega⟩
  · exact ⟨1, 0, 0, false, ⟨(c1 _).trans rfl, (c1 _).trans rfl, (c1 _).trans rfl, (c1 _).trans rfl⟩, by decide⟩
  · exact ⟨1, 257, 0, false, ⟨(c1 _).trans rfl, (c1 _).trans rfl, (c1 _).trans rfl, (c1 _).trans rfl⟩, by decide⟩
  · exact ⟨1, lo, 0, false, ⟨(c1 _).trans rfl, (c1 _).trans rfl, (c1 _).trans rfl, (c1 _).trans rfl⟩, by unfold mayH; rw [Bool.eq_false_iff]; simp; omega⟩
  · exact ⟨2, 1, 0, false, ⟨(c1 _).trans rfl, (c1 _).trans rfl, (c1 _).trans rfl, (c1 _).trans rfl⟩, by decide⟩
  · exact ⟨3, 1, 0, false, ⟨(c1 _).trans rfl, (c1 _).trans rfl, (c1 _).trans rfl, (c1 _).trans rfl⟩, by decide⟩
  · exact ⟨3, 0, lo, false, ⟨(c1 _).trans rfl, (c1 _).trans rfl, (c1 _).trans rfl, (c1 _).trans rfl⟩, by unfold mayH; rw [Bool.eq_false_iff]; simp; omega⟩
  · exact ⟨3, 0, hi, false, ⟨(c1 _).trans rfl, (c1 _).trans rfl, (c1 _).trans rfl, (c1 _).trans rfl⟩, by unfold mayH; rw [Bool.eq_false_iff]; simp; omega⟩
  · exact ⟨4, 0, 5, false, ⟨(c1 _).trans rfl, (c1 _).trans rfl, (c1 _).trans rfl, (c1 _).trans rfl⟩, by decide⟩
  · exact ⟨4, 4, 5, false, ⟨(c1 _).trans rfl, (c1 _).trans rfl, (c1 _).trans rfl, (c1 _).trans rfl⟩, by decide⟩
  · exact ⟨4, 1, 4, false, ⟨(c1 _).trans rfl, (c1 _).trans rfl, (c1 _).trans rfl, (c1 _).trans rfl⟩, by decide⟩
  · exact ⟨4, 1, 5, true, ⟨(c1 _).trans rfl, (c1 _).trans rfl, (c1 _).trans rfl, (c1 _).trans rfl⟩, by decide⟩
  · omega
theorem no_word {x : Int} (h : x ≤ 0) : ∀ k c l f, ¬ Word x k c l f := by
  intro k c l f hw
  have := hw.parts.1
  omega

set_option maxRecDepth 100000 in
set_option maxHeartbeats 3200000 in
theorem walk (a0 : Int) (a1 : Int) (w0 : (Lit.int .i64 a0).wf = true) (w1 : (Lit.int .u8 a1).wf = true) (w : World) :
    Calls Try.prog 5 #[.int .i64 a0, .int .u8 a1] w fun e w' => e = .returned (.bool true) ∧ Keep [] w w' := by
  have b0 := bounds_i64 w0
  have b1 := bounds_u8 w1
  obtain ⟨q, hq⟩ : ∃ q : Nat, a1 % 14 = q := ⟨(a1 % 14).toNat, by omega⟩
  have hq5 : q < 14 := by omega
  have hqi0 : (0 : Int) ≤ (q : Int) := by omega
  have hqi1 : (q : Int) < 14 := by omega
  obtain ⟨lo, hlo⟩ : ∃ lo, (if -1 < a0 then -1 else a0) = lo := ⟨_, rfl⟩
  obtain ⟨hi, hhi⟩ : ∃ hi, (if a0 < 1024 then 1024 else a0) = hi := ⟨_, rfl⟩
  have hlo2 : lo ≤ -1 := by rw [← hlo]; split <;> omega
  have hlo3 : -9223372036854775808 ≤ lo ∧ lo ≤ 9223372036854775807 := by rw [← hlo]; split <;> omega
  have hhi2 : 1024 ≤ hi := by rw [← hhi]; split <;> omega
  obtain ⟨k, c, l, f, hA, hM⟩ := bad w lo hi q hq5 hlo2 hhi2
  have hKK := Keep.alloc [] w (.cells #[.int .i64 0, .int .i64 0, .int .i64 0, .bool false, .int .i64 5, .int .i64 0, .int .i64 0, .bool false, .int .i64 lo, .int .i64 0, .int .i64 0, .bool false, .int .i64 1, .int .i64 0, .int .i64 0, .bool false, .int .i64 1, .int .i64 257, .int .i64 0, .bool false, .int .i64 1, .int .i64 lo, .int .i64 0, .bool false, .int .i64 2, .int .i64 1, .int .i64 0, .bool false, .int .i64 3, .int .i64 1, .int .i64 0, .bool false, .int .i64 3, .int .i64 0, .int .i64 lo, .bool false, .int .i64 3, .int .i64 0, .int .i64 hi, .bool false, .int .i64 4, .int .i64 0, .int .i64 5, .bool false, .int .i64 4, .int .i64 4, .int .i64 5, .bool false, .int .i64 4, .int .i64 1, .int .i64 4, .bool false, .int .i64 4, .int .i64 1, .int .i64 5, .bool true] 23)
  have HM := (show Hid (mayH k c l f = false) from hM)
  have HP := (show Hid (putN k c l f = 0) from by show _ = _; unfold putN; rw [hM]; rfl)
  have HL := (show Hid ((-9223372036854775808 ≤ lo ∧ lo ≤ 9223372036854775807) ∧ ∀ k c l f, ¬ Word lo k c l f) from ⟨hlo3, no_word (by omega)⟩)
  clear hM hlo3
  go_enter Try.func5, Try.ntmps5
  go_upto_region 3 with fail
  generalize w.alloc (.cells #[.int .i64 0, .int .i64 0, .int .i64 0, .bool false, .int .i64 5, .int .i64 0, .int .i64 0, .bool false, .int .i64 lo, .int .i64 0, .int .i64 0, .bool false, .int .i64 1, .int .i64 0, .int .i64 0, .bool false, .int .i64 1, .int .i64 257, .int .i64 0, .bool false, .int .i64 1, .int .i64 lo, .int .i64 0, .bool false, .int .i64 2, .int .i64 1, .int .i64 0, .bool false, .int .i64 3, .int .i64 1, .int .i64 0, .bool false, .int .i64 3, .int .i64 0, .int .i64 lo, .bool false, .int .i64 3, .int .i64 0, .int .i64 hi, .bool false, .int .i64 4, .int .i64 0, .int .i64 5, .bool false, .int .i64 4, .int .i64 4, .int .i64 5, .bool false, .int .i64 4, .int .i64 1, .int .i64 4, .bool false, .int .i64 4, .int .i64 1, .int .i64 5, .bool true] 23) = wa at *
  generalize w.heap.size = g1 at *
  clear hlo hhi hlo2 hhi2
  obtain ⟨p0, p1, p2, p3⟩ := hA
  go_upto_region 4 with fail
  have hx1 := heap_alloc_new wa (.cells #[.int .i64 k, .int .i64 c, .int .i64 l, .bool f] 23)
  have hKK := hKK.trans (Keep.alloc [] wa (.cells #[.int .i64 k, .int .i64 c, .int .i64 l, .bool f] 23))
  generalize wa.alloc (.cells #[.int .i64 k, .int .i64 c, .int .i64 l, .bool f] 23) = wb at *
  generalize wa.heap.size = g2 at *
  obtain ⟨c0, c1, c2, c3⟩ := four_cells hx1
  clear p0 p1 p2 p3
  go_upto_region 5 with (first | (go_at_call 8; refine (hput_any k c l f _).mono ?_; rw [HP.out, HM.out]; rintro e wc ⟨rfl, hK⟩; have hKK := hKK.trans hK; have hx1 := hK.blk hx1 (by simp)))
  go_upto_region 6 with (first | (go_at_call 11; refine (hget_no lo _ HL.out.1 HL.out.2).mono ?_; rintro e wd ⟨rfl, hK⟩; have hKK := (hKK.trans hK).trans (Keep.alloc [] wd (.cells #[.int .i64 0, .int .i64 0, .int .i64 0, .bool false] 23)); have hx1 := (Keep.alloc [] wd (.cells #[.int .i64 0, .int .i64 0, .int .i64 0, .bool false] 23)).blk (hK.blk hx1 (by simp)) (by simp)))
  generalize wd.alloc (.cells #[.int .i64 0, .int .i64 0, .int .i64 0, .bool false] 23) = we at *
  go_upto_region 7 with (first | (go_at_call 11; refine (hget_no 0 _ (by omega) (no_word (by omega))).mono ?_; rintro e wf ⟨rfl, hK⟩; have hKK := (hKK.trans hK).trans (Keep.alloc [] wf (.cells #[.int .i64 0, .int .i64 0, .int .i64 0, .bool false] 23)); have hx1 := (Keep.alloc [] wf (.cells #[.int .i64 0, .int .i64 0, .int .i64 0, .bool false] 23)).blk (hK.blk hx1 (by simp)) (by simp)))
  generalize wf.alloc (.cells #[.int .i64 0, .int .i64 0, .int .i64 0, .bool false] 23) = wg at *
  obtain ⟨c0, c1, c2, c3⟩ := four_cells hx1
  go_wp2_with (first | (go_at_call 13; refine (hmay_any k c l f _).mono ?_; rw [HM.out]; rintro e wh ⟨rfl, hK⟩; have hKK := hKK.trans hK) | (go_at_call 14; refine (awake8_any _).mono ?_; rintro e wj ⟨rfl, hK⟩; have hKK := hKK.trans hK))
  go_ret
  exact ⟨rfl, hKK⟩

end Go.Proofs.Ytmnjheodligohaa.headRefuses
