/-
  The document's own Get of heads.
-/
import Derived.Test.YtmnjheodligohaaHeadRef
namespace Go.Proofs.Ytmnjheodligohaa
open Go.RowKit

theorem ref_parts {x : Int} (h0 : 0 ≤ x) : x % 8 = wk x ∧ (x / 8 % 2 == 1) = wf x ∧ x / 16 % 4096 = wc x ∧ x / 65536 = wl x := by
  unfold wk wc wl wf
  rw [Int.tmod_eq_emod_of_nonneg (by omega), Int.tmod_eq_emod_of_nonneg (by omega), Int.tmod_eq_emod_of_nonneg (by omega), Int.tdiv_eq_ediv_of_nonneg (by omega), Int.tdiv_eq_ediv_of_nonneg (by omega)]
  refine ⟨rfl, ?_, by omega, rfl⟩
  rw [Bool.eq_iff_iff]; simp; omega

/-- Five cells of a block. -/
theorem five_free {w : World} {b : Nat} {t : TypeId} {a0 a1 a2 a3 a4 : Value} (h : w.heap[b]? = some (.cells #[a0, a1, a2, a3, a4] t (0, 0))) :
    (w.frozen? ⟨b, 0, none⟩ = false ∧ w.frozen? ⟨b, 1, none⟩ = false ∧ w.frozen? ⟨b, 2, none⟩ = false ∧ w.frozen? ⟨b, 3, none⟩ = false ∧ w.frozen? ⟨b, 4, none⟩ = false) ∧
    w.cell? ⟨b, 0, none⟩ = some a0 ∧ w.cell? ⟨b, 1, none⟩ = some a1 ∧ w.cell? ⟨b, 2, none⟩ = some a2 ∧ w.cell? ⟨b, 3, none⟩ = some a3 ∧ w.cell? ⟨b, 4, none⟩ = some a4 := by
  refine ⟨⟨?_, ?_, ?_, ?_, ?_⟩, ?_, ?_, ?_, ?_, ?_⟩ <;> simp [World.frozen?, World.cell?, h]
theorem five_put {w : World} {b : Nat} {t : TypeId} {a0 a1 a2 a3 a4 : Value} (h : w.heap[b]? = some (.cells #[a0, a1, a2, a3, a4] t (0, 0))) (b0 b1 b2 b3 b4 : Value) :
    (((((w.setCell ⟨b, 0, none⟩ b0).setCell ⟨b, 1, none⟩ b1).setCell ⟨b, 2, none⟩ b2).setCell ⟨b, 3, none⟩ b3).setCell ⟨b, 4, none⟩ b4).heap[b]? = some (.cells #[b0, b1, b2, b3, b4] t (0, 0)) ∧
      Keep [b] w (((((w.setCell ⟨b, 0, none⟩ b0).setCell ⟨b, 1, none⟩ b1).setCell ⟨b, 2, none⟩ b2).setCell ⟨b, 3, none⟩ b3).setCell ⟨b, 4, none⟩ b4) := by
  have z1 := heap_setCell_same w b 0 _ _ b0 h
  have z2 := heap_setCell_same _ b 1 _ _ b1 z1
  have z3 := heap_setCell_same _ b 2 _ _ b2 z2
  have z4 := heap_setCell_same _ b 3 _ _ b3 z3
  have z5 := heap_setCell_same _ b 4 _ _ b4 z4
  exact ⟨by simpa using z5, ((((Keep.setCell _ _ (by simp)).trans (Keep.setCell _ _ (by simp))).trans (Keep.setCell _ _ (by simp))).trans (Keep.setCell _ _ (by simp))).trans (Keep.setCell _ _ (by simp))⟩

set_option maxRecDepth 100000 in
set_option maxHeartbeats 800000 in
theorem rgeth_far (x : Int) (w : World) (h : x < 0 ∨ 67108864 ≤ x) : Calls Try.prog 12 #[.int .i64 x] w fun e w' => e = .returned (.agg #[.int .i64 0, .int .i64 0, .int .i64 0, .bool false, .bool false]) ∧ Keep [] w w' := by
  have hx := heap_alloc_new w (.cells #[.int .i64 0, .int .i64 0, .int .i64 0, .bool false, .bool false] 31)
  have hK := Keep.alloc [] w (.cells #[.int .i64 0, .int .i64 0, .int .i64 0, .bool false, .bool false] 31)
  obtain ⟨⟨f0, f1, f2, f3, f4⟩, d0, d1, d2, d3, d4⟩ := five_free hx
  obtain ⟨z, hk⟩ := five_put hx (.int .i64 0) (.int .i64 0) (.int .i64 0) (.bool false) (.bool false)
  have hd : (x < 0 ∧ decide (x < 0) = true) ∨ (decide (x < 0) = false ∧ 67108864 ≤ x) := by
    by_cases h0 : x < 0
    · exact .inl ⟨h0, decide_eq_true h0⟩
    · exact .inr ⟨decide_eq_false h0, by omega⟩
  clear h
  rcases hd with ⟨h1, h2⟩ | ⟨h1, h2⟩
  all_goals
    go_enter Try.func12, Try.ntmps12
    go_upto_region 2 with fail
    generalize w.alloc (.cells #[.int .i64 0, .int .i64 0, .int .i64 0, .bool false, .bool false] 31) = w1 at *
    go_wp2_with fail
    refine bodyPost_ret (results_cell_row rfl _ _ w.heap.size 31 #[.int .i64 0, .int .i64 0, .int .i64 0, .bool false, .bool false] (0, 0) _ rfl z Try.underlying31 rfl (by kernel_rfl)) rfl ?_
    exact ⟨rfl, ((hK.mono (by simp)).trans hk).drop (by simp)⟩

set_option maxRecDepth 100000 in
set_option maxHeartbeats 800000 in
theorem rgeth_near_no (x k c l : Int) (f : Bool) (w : World) (h0 : 0 ≤ x) (h1 : x < 67108864) (ek : x % 8 = k) (ef : (x / 8 % 2 == 1) = f) (ec : x / 16 % 4096 = c) (el : x / 65536 = l) (hm : mayH k c l f = false) :
    Calls Try.prog 12 #[.int .i64 x] w fun e w' => e = .returned (.agg #[.int .i64 0, .int .i64 0, .int .i64 0, .bool false, .bool false]) ∧ Keep [] w w' := by
  have q0 : decide (x < 0) = false := decide_eq_false (by omega)
  have q1 : decide (67108864 ≤ x) = false := decide_eq_false (by omega)
  have HM := (show Hid (mayH k c l f = false) from hm)
  have HE := (show Hid (x % 8 = k ∧ (x / 8 % 2 == 1) = f ∧ x / 16 % 4096 = c ∧ x / 65536 = l) from ⟨ek, ef, ec, el⟩)
  clear hm ek ef ec el
  have hK1 := (Keep.alloc [] w (.cells #[.int .i64 0, .int .i64 0, .int .i64 0, .bool false, .bool false] 31)).trans (Keep.alloc [] (w.alloc (.cells #[.int .i64 0, .int .i64 0, .int .i64 0, .bool false, .bool false] 31)) (.cells #[.int .i64 k, .int .i64 c, .int .i64 l, .bool f] 23))
  have hx1 := (Keep.alloc [] (w.alloc (.cells #[.int .i64 0, .int .i64 0, .int .i64 0, .bool false, .bool false] 31)) (.cells #[.int .i64 k, .int .i64 c, .int .i64 l, .bool f] 23)).blk (heap_alloc_new w (.cells #[.int .i64 0, .int .i64 0, .int .i64 0, .bool false, .bool false] 31)) (by simp)
  have hx2 := second_block w (.cells #[.int .i64 0, .int .i64 0, .int .i64 0, .bool false, .bool false] 31) #[.int .i64 k, .int .i64 c, .int .i64 l, .bool f] 23
  go_enter Try.func12, Try.ntmps12
  go_upto_region 4 with fail
  rw [HE.out.1, HE.out.2.1, HE.out.2.2.1, HE.out.2.2.2]
  generalize (w.alloc (.cells #[.int .i64 0, .int .i64 0, .int .i64 0, .bool false, .bool false] 31)).alloc (.cells #[.int .i64 k, .int .i64 c, .int .i64 l, .bool f] 23) = w2 at *
  obtain ⟨bx, hbx⟩ : ∃ bx, w.heap.size = bx := ⟨_, rfl⟩
  rw [hbx] at hx1 hx2 ⊢
  obtain ⟨bz, hbz⟩ : ∃ b, bx + 1 = b := ⟨_, rfl⟩
  rw [hbz] at hx2 ⊢
  have HBX := (show Hid (w.heap.size = bx) from hbx)
  have hne : bx ≠ bz := by omega
  clear hbx hbz
  obtain ⟨c0, c1, c2, c3⟩ := four_cells hx2
  go_upto_region 5 with (first | (go_at_call 9; refine (rmayh_any k c l f _).mono ?_; rw [HM.out]; rintro e w3 ⟨rfl, hK2⟩; have hx3 := hK2.blk hx1 (by simp); obtain ⟨⟨f0, f1, f2, f3, f4⟩, d0, d1, d2, d3, d4⟩ := five_free hx3; have hx4 := hK2.blk hx2 (by simp); obtain ⟨g0, g1, g2, g3⟩ := four_cells hx4))
  go_wp2_with fail
  obtain ⟨z, hk4⟩ := five_put hx3 (.int .i64 0) (.int .i64 0) (.int .i64 0) (.bool false) (.bool false)
  refine bodyPost_ret (results_cell_row rfl _ _ bx 31 #[.int .i64 0, .int .i64 0, .int .i64 0, .bool false, .bool false] (0, 0) _ rfl z Try.underlying31 rfl (by kernel_rfl)) rfl ?_
  refine ⟨rfl, (((hK1.trans hK2).mono (T := [bx]) (by simp)).trans hk4).drop ?_⟩
  have := HBX.out
  simp; omega

set_option maxRecDepth 100000 in
set_option maxHeartbeats 800000 in
theorem rgeth_near_yes (x k c l : Int) (f : Bool) (w : World) (h0 : 0 ≤ x) (h1 : x < 67108864) (ek : x % 8 = k) (ef : (x / 8 % 2 == 1) = f) (ec : x / 16 % 4096 = c) (el : x / 65536 = l) (hm : mayH k c l f = true) :
    Calls Try.prog 12 #[.int .i64 x] w fun e w' => e = .returned (.agg #[.int .i64 k, .int .i64 c, .int .i64 l, .bool f, .bool true]) ∧ Keep [] w w' := by
  have q0 : decide (x < 0) = false := decide_eq_false (by omega)
  have q1 : decide (67108864 ≤ x) = false := decide_eq_false (by omega)
  have HM := (show Hid (mayH k c l f = true) from hm)
  have HE := (show Hid (x % 8 = k ∧ (x / 8 % 2 == 1) = f ∧ x / 16 % 4096 = c ∧ x / 65536 = l) from ⟨ek, ef, ec, el⟩)
  clear hm ek ef ec el
  have hK1 := (Keep.alloc [] w (.cells #[.int .i64 0, .int .i64 0, .int .i64 0, .bool false, .bool false] 31)).trans (Keep.alloc [] (w.alloc (.cells #[.int .i64 0, .int .i64 0, .int .i64 0, .bool false, .bool false] 31)) (.cells #[.int .i64 k, .int .i64 c, .int .i64 l, .bool f] 23))
  have hx1 := (Keep.alloc [] (w.alloc (.cells #[.int .i64 0, .int .i64 0, .int .i64 0, .bool false, .bool false] 31)) (.cells #[.int .i64 k, .int .i64 c, .int .i64 l, .bool f] 23)).blk (heap_alloc_new w (.cells #[.int .i64 0, .int .i64 0, .int .i64 0, .bool false, .bool false] 31)) (by simp)
  have hx2 := second_block w (.cells #[.int .i64 0, .int .i64 0, .int .i64 0, .bool false, .bool false] 31) #[.int .i64 k, .int .i64 c, .int .i64 l, .bool f] 23
  go_enter Try.func12, Try.ntmps12
  go_upto_region 4 with fail
  rw [HE.out.1, HE.out.2.1, HE.out.2.2.1, HE.out.2.2.2]
  generalize (w.alloc (.cells #[.int .i64 0, .int .i64 0, .int .i64 0, .bool false, .bool false] 31)).alloc (.cells #[.int .i64 k, .int .i64 c, .int .i64 l, .bool f] 23) = w2 at *
  obtain ⟨bx, hbx⟩ : ∃ bx, w.heap.size = bx := ⟨_, rfl⟩
  rw [hbx] at hx1 hx2 ⊢
  obtain ⟨bz, hbz⟩ : ∃ b, bx + 1 = b := ⟨_, rfl⟩
  rw [hbz] at hx2 ⊢
  have HBX := (show Hid (w.heap.size = bx) from hbx)
  have hne : bx ≠ bz := by omega
  clear hbx hbz
  obtain ⟨c0, c1, c2, c3⟩ := four_cells hx2
  go_upto_region 6 with (first | (go_at_call 9; refine (rmayh_any k c l f _).mono ?_; rw [HM.out]; rintro e w3 ⟨rfl, hK2⟩; have hx3 := hK2.blk hx1 (by simp); obtain ⟨⟨f0, f1, f2, f3, f4⟩, d0, d1, d2, d3, d4⟩ := five_free hx3; have hx4 := hK2.blk hx2 (by simp); obtain ⟨g0, g1, g2, g3⟩ := four_cells hx4))
  go_wp2_with fail
  obtain ⟨z, hk4⟩ := five_put hx3 (.int .i64 k) (.int .i64 c) (.int .i64 l) (.bool f) (.bool true)
  refine bodyPost_ret (results_cell_row rfl _ _ bx 31 #[.int .i64 k, .int .i64 c, .int .i64 l, .bool f, .bool true] (0, 0) _ rfl z Try.underlying31 rfl (by kernel_rfl)) rfl ?_
  refine ⟨rfl, (((hK1.trans hK2).mono (T := [bx]) (by simp)).trans hk4).drop ?_⟩
  have := HBX.out
  simp; omega

theorem rgeth_yes (x k c l : Int) (f : Bool) (w : World) (h : Word x k c l f) :
    Calls Try.prog 12 #[.int .i64 x] w fun e w' => e = .returned (.agg #[.int .i64 k, .int .i64 c, .int .i64 l, .bool f, .bool true]) ∧ Keep [] w w' := by
  obtain ⟨h1, h2, h3, h4, h5, h6⟩ := h.parts
  obtain ⟨p1, p2, p3, p4⟩ := ref_parts (show 0 ≤ x by omega)
  exact rgeth_near_yes x k c l f w (by omega) h2 (p1.trans h3) (p2.trans h6) (p3.trans h4) (p4.trans h5) h.1
theorem rgeth_no (x : Int) (w : World) (h : ∀ k c l f, ¬ Word x k c l f) :
    Calls Try.prog 12 #[.int .i64 x] w fun e w' => e = .returned (.agg #[.int .i64 0, .int .i64 0, .int .i64 0, .bool false, .bool false]) ∧ Keep [] w w' := by
  by_cases hx : x < 0 ∨ 67108864 ≤ x
  · exact rgeth_far x w hx
  · obtain ⟨p1, p2, p3, p4⟩ := ref_parts (show 0 ≤ x by omega)
    refine rgeth_near_no x _ _ _ _ w (by omega) (by omega) p1 p2 p3 p4 ?_
    rw [Bool.eq_false_iff]
    exact fun hm => h _ _ _ _ (word_of hm)

end Go.Proofs.Ytmnjheodligohaa
