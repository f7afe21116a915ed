/-
  HeadTwo: two heads that may be have one word just if they are one.
-/
import Derived.Test.YtmnjheodligohaaHeadRef
import Derived.Test.YtmnjheodligohaaStructs
namespace Go.Proofs.Ytmnjheodligohaa.headTwo
open Go.RowKit

theorem put_inj {k c l k2 c2 l2 : Int} {f f2 : Bool} (h : mayH k c l f = true) (h2 : mayH k2 c2 l2 f2 = true) (he : putN k c l f = putN k2 c2 l2 f2) : k = k2 ∧ c = c2 ∧ l = l2 ∧ f = f2 := by
  have e1 : putN k c l f = putH k c l f := by simp [putN, h]
  have e2 : putN k2 c2 l2 f2 = putH k2 c2 l2 f2 := by simp [putN, h2]
  rw [e1, e2] at he
  obtain ⟨_, _, p1, p2, p3, p4⟩ := Word.parts (x := putH k2 c2 l2 f2) ⟨h, he⟩
  obtain ⟨_, _, q1, q2, q3, q4⟩ := Word.parts (x := putH k2 c2 l2 f2) ⟨h2, rfl⟩
  exact ⟨p1.symm.trans q1, p2.symm.trans q2, p3.symm.trans q3, p4.symm.trans q4⟩
theorem put_pos {k c l : Int} {f : Bool} (h : mayH k c l f = true) : 0 < putN k c l f := by
  have e1 : putN k c l f = putH k c l f := by simp [putN, h]
  rw [e1]
  exact (Word.parts (x := putH k c l f) ⟨h, rfl⟩).1

set_option maxRecDepth 100000 in
set_option maxHeartbeats 3200000 in
theorem same (k c l : Int) (f : Bool) (x y : Int) (w : World) (hx : putN k c l f = x) (hy : putN k c l f = y) (hm : mayH k c l f = true) (hm2 : mayH k c l f = true) :
    Calls Try.prog 6 #[.agg #[.int .i64 k, .int .i64 c, .int .i64 l, .bool f], .agg #[.int .i64 k, .int .i64 c, .int .i64 l, .bool f]] w fun e w' => e = .returned (.bool true) ∧ Keep [] w w' := by
  have HM := (show Hid (mayH k c l f = true) from hm)
  have HM2 := (show Hid (mayH k c l f = true) from hm2)
  have HX := (show Hid (putN k c l f = x) from hx)
  have HY := (show Hid (putN k c l f = y) from hy)
  clear hm hm2 hx hy
  have hKK := (Keep.alloc [] w (.cells #[.int .i64 k, .int .i64 c, .int .i64 l, .bool f] 23)).trans (Keep.alloc [] (w.alloc (.cells #[.int .i64 k, .int .i64 c, .int .i64 l, .bool f] 23)) (.cells #[.int .i64 k, .int .i64 c, .int .i64 l, .bool f] 23))
  have hx1 := (Keep.alloc [] (w.alloc (.cells #[.int .i64 k, .int .i64 c, .int .i64 l, .bool f] 23)) (.cells #[.int .i64 k, .int .i64 c, .int .i64 l, .bool f] 23)).blk (heap_alloc_new w (.cells #[.int .i64 k, .int .i64 c, .int .i64 l, .bool f] 23)) (by simp)
  have hx2 := second_block w (.cells #[.int .i64 k, .int .i64 c, .int .i64 l, .bool f] 23) #[.int .i64 k, .int .i64 c, .int .i64 l, .bool f] 23
  go_enter Try.func6, Try.ntmps6
  go_upto_region 1 with fail
  generalize (w.alloc (.cells #[.int .i64 k, .int .i64 c, .int .i64 l, .bool f] 23)).alloc (.cells #[.int .i64 k, .int .i64 c, .int .i64 l, .bool f] 23) = wa at *
  generalize hb2 : w.heap.size + 1 = b2 at *
  generalize hb1 : w.heap.size = b1 at *
  clear hb1 hb2
  obtain ⟨c0, c1, c2', c3⟩ := four_cells hx1
  obtain ⟨d0, d1, d2, d3⟩ := four_cells hx2
  go_upto_region 2 with (first | (go_at_call 8; refine (hput_any k c l f _).mono ?_; rw [HX.out, HM.out]; rintro e wb ⟨rfl, hK⟩; have hKK := hKK.trans hK; have hx1 := hK.blk hx1 (by simp); have hx2 := hK.blk hx2 (by simp); obtain ⟨c0, c1, c2', c3⟩ := four_cells hx1; obtain ⟨d0, d1, d2, d3⟩ := four_cells hx2))
  go_upto_region 3 with (first | (go_at_call 8; refine (hput_any k c l f _).mono ?_; rw [HY.out, HM2.out]; rintro e wb ⟨rfl, hK⟩; have hKK := hKK.trans hK; have hx1 := hK.blk hx1 (by simp); have hx2 := hK.blk hx2 (by simp); obtain ⟨c0, c1, c2', c3⟩ := four_cells hx1; obtain ⟨d0, d1, d2, d3⟩ := four_cells hx2))
  have hx0 : 0 < x := by rw [← HX.out]; exact put_pos HM.out
  obtain rfl : x = y := by rw [← HX.out, ← HY.out]
  go_wp2_with (first | (go_at_call 14; refine (awake8_any _).mono ?_; rintro e wz ⟨rfl, hK⟩; have hKK := hKK.trans hK))
  go_ret
  exact ⟨rfl, hKK⟩

set_option maxRecDepth 100000 in
set_option maxHeartbeats 3200000 in
theorem apart_k (k c l k2 c2 l2 : Int) (f f2 : Bool) (x y : Int) (w : World) (hx : putN k c l f = x) (hy : putN k2 c2 l2 f2 = y) (hm : mayH k c l f = true) (hm2 : mayH k2 c2 l2 f2 = true) (hxy : (x == y) = false) (hk : (k == k2) = false) :
    Calls Try.prog 6 #[.agg #[.int .i64 k, .int .i64 c, .int .i64 l, .bool f], .agg #[.int .i64 k2, .int .i64 c2, .int .i64 l2, .bool f2]] w fun e w' => e = .returned (.bool true) ∧ Keep [] w w' := by
  have HM := (show Hid (mayH k c l f = true) from hm)
  have HM2 := (show Hid (mayH k2 c2 l2 f2 = true) from hm2)
  have HX := (show Hid (putN k c l f = x) from hx)
  have HY := (show Hid (putN k2 c2 l2 f2 = y) from hy)
  clear hm hm2 hx hy
  have hKK := (Keep.alloc [] w (.cells #[.int .i64 k, .int .i64 c, .int .i64 l, .bool f] 23)).trans (Keep.alloc [] (w.alloc (.cells #[.int .i64 k, .int .i64 c, .int .i64 l, .bool f] 23)) (.cells #[.int .i64 k2, .int .i64 c2, .int .i64 l2, .bool f2] 23))
  have hx1 := (Keep.alloc [] (w.alloc (.cells #[.int .i64 k, .int .i64 c, .int .i64 l, .bool f] 23)) (.cells #[.int .i64 k2, .int .i64 c2, .int .i64 l2, .bool f2] 23)).blk (heap_alloc_new w (.cells #[.int .i64 k, .int .i64 c, .int .i64 l, .bool f] 23)) (by simp)
  have hx2 := second_block w (.cells #[.int .i64 k, .int .i64 c, .int .i64 l, .bool f] 23) #[.int .i64 k2, .int .i64 c2, .int .i64 l2, .bool f2] 23
  go_enter Try.func6, Try.ntmps6
  go_upto_region 1 with fail
  generalize (w.alloc (.cells #[.int .i64 k, .int .i64 c, .int .i64 l, .bool f] 23)).alloc (.cells #[.int .i64 k2, .int .i64 c2, .int .i64 l2, .bool f2] 23) = wa at *
  generalize hb2 : w.heap.size + 1 = b2 at *
  generalize hb1 : w.heap.size = b1 at *
  clear hb1 hb2
  obtain ⟨c0, c1, c2', c3⟩ := four_cells hx1
  obtain ⟨d0, d1, d2, d3⟩ := four_cells hx2
  go_upto_region 2 with (first | (go_at_call 8; refine (hput_any k c l f _).mono ?_; rw [HX.out, HM.out]; rintro e wb ⟨rfl, hK⟩; have hKK := hKK.trans hK; have hx1 := hK.blk hx1 (by simp); have hx2 := hK.blk hx2 (by simp); obtain ⟨c0, c1, c2', c3⟩ := four_cells hx1; obtain ⟨d0, d1, d2, d3⟩ := four_cells hx2))
  go_upto_region 3 with (first | (go_at_call 8; refine (hput_any k2 c2 l2 f2 _).mono ?_; rw [HY.out, HM2.out]; rintro e wb ⟨rfl, hK⟩; have hKK := hKK.trans hK; have hx1 := hK.blk hx1 (by simp); have hx2 := hK.blk hx2 (by simp); obtain ⟨c0, c1, c2', c3⟩ := four_cells hx1; obtain ⟨d0, d1, d2, d3⟩ := four_cells hx2))
  have hx0 : 0 < x := by rw [← HX.out]; exact put_pos HM.out
  go_wp2_with (first | (go_at_call 14; refine (awake8_any _).mono ?_; rintro e wz ⟨rfl, hK⟩; have hKK := hKK.trans hK))
  go_ret
  exact ⟨rfl, hKK⟩

set_option maxRecDepth 100000 in
set_option maxHeartbeats 3200000 in
theorem apart_c (k c l c2 l2 : Int) (f f2 : Bool) (x y : Int) (w : World) (hx : putN k c l f = x) (hy : putN k c2 l2 f2 = y) (hm : mayH k c l f = true) (hm2 : mayH k c2 l2 f2 = true) (hxy : (x == y) = false) (hk : (c == c2) = false) :
    Calls Try.prog 6 #[.agg #[.int .i64 k, .int .i64 c, .int .i64 l, .bool f], .agg #[.int .i64 k, .int .i64 c2, .int .i64 l2, .bool f2]] w fun e w' => e = .returned (.bool true) ∧ Keep [] w w' := by
  have HM := (show Hid (mayH k c l f = true) from hm)
  have HM2 := (show Hid (mayH k c2 l2 f2 = true) from hm2)
  have HX := (show Hid (putN k c l f = x) from hx)
  have HY := (show Hid (putN k c2 l2 f2 = y) from hy)
  clear hm hm2 hx hy
  have hKK := (Keep.alloc [] w (.cells #[.int .i64 k, .int .i64 c, .int .i64 l, .bool f] 23)).trans (Keep.alloc [] (w.alloc (.cells #[.int .i64 k, .int .i64 c, .int .i64 l, .bool f] 23)) (.cells #[.int .i64 k, .int .i64 c2, .int .i64 l2, .bool f2] 23))
  have hx1 := (Keep.alloc [] (w.alloc (.cells #[.int .i64 k, .int .i64 c, .int .i64 l, .bool f] 23)) (.cells #[.int .i64 k, .int .i64 c2, .int .i64 l2, .bool f2] 23)).blk (heap_alloc_new w (.cells #[.int .i64 k, .int .i64 c, .int .i64 l, .bool f] 23)) (by simp)
  have hx2 := second_block w (.cells #[.int .i64 k, .int .i64 c, .int .i64 l, .bool f] 23) #[.int .i64 k, .int .i64 c2, .int .i64 l2, .bool f2] 23
  go_enter Try.func6, Try.ntmps6
  go_upto_region 1 with fail
  generalize (w.alloc (.cells #[.int .i64 k, .int .i64 c, .int .i64 l, .bool f] 23)).alloc (.cells #[.int .i64 k, .int .i64 c2, .int .i64 l2, .bool f2] 23) = wa at *
  generalize hb2 : w.heap.size + 1 = b2 at *
  generalize hb1 : w.heap.size = b1 at *
  clear hb1 hb2
  obtain ⟨c0, c1, c2', c3⟩ := four_cells hx1
  obtain ⟨d0, d1, d2, d3⟩ := four_cells hx2
  go_upto_region 2 with (first | (go_at_call 8; refine (hput_any k c l f _).mono ?_; rw [HX.out, HM.out]; rintro e wb ⟨rfl, hK⟩; have hKK := hKK.trans hK; have hx1 := hK.blk hx1 (by simp); have hx2 := hK.blk hx2 (by simp); obtain ⟨c0, c1, c2', c3⟩ := four_cells hx1; obtain ⟨d0, d1, d2, d3⟩ := four_cells hx2))
  go_upto_region 3 with (first | (go_at_call 8; refine (hput_any k c2 l2 f2 _).mono ?_; rw [HY.out, HM2.out]; rintro e wb ⟨rfl, hK⟩; have hKK := hKK.trans hK; have hx1 := hK.blk hx1 (by simp); have hx2 := hK.blk hx2 (by simp); obtain ⟨c0, c1, c2', c3⟩ := four_cells hx1; obtain ⟨d0, d1, d2, d3⟩ := four_cells hx2))
  have hx0 : 0 < x := by rw [← HX.out]; exact put_pos HM.out
  go_wp2_with (first | (go_at_call 14; refine (awake8_any _).mono ?_; rintro e wz ⟨rfl, hK⟩; have hKK := hKK.trans hK))
  go_ret
  exact ⟨rfl, hKK⟩

set_option maxRecDepth 100000 in
set_option maxHeartbeats 3200000 in
theorem apart_l (k c l l2 : Int) (f f2 : Bool) (x y : Int) (w : World) (hx : putN k c l f = x) (hy : putN k c l2 f2 = y) (hm : mayH k c l f = true) (hm2 : mayH k c l2 f2 = true) (hxy : (x == y) = false) (hk : (l == l2) = false) :
    Calls Try.prog 6 #[.agg #[.int .i64 k, .int .i64 c, .int .i64 l, .bool f], .agg #[.int .i64 k, .int .i64 c, .int .i64 l2, .bool f2]] w fun e w' => e = .returned (.bool true) ∧ Keep [] w w' := by
  have HM := (show Hid (mayH k c l f = true) from hm)
  have HM2 := (show Hid (mayH k c l2 f2 = true) from hm2)
  have HX := (show Hid (putN k c l f = x) from hx)
  have HY := (show Hid (putN k c l2 f2 = y) from hy)
  clear hm hm2 hx hy
  have hKK := (Keep.alloc [] w (.cells #[.int .i64 k, .int .i64 c, .int .i64 l, .bool f] 23)).trans (Keep.alloc [] (w.alloc (.cells #[.int .i64 k, .int .i64 c, .int .i64 l, .bool f] 23)) (.cells #[.int .i64 k, .int .i64 c, .int .i64 l2, .bool f2] 23))
  have hx1 := (Keep.alloc [] (w.alloc (.cells #[.int .i64 k, .int .i64 c, .int .i64 l, .bool f] 23)) (.cells #[.int .i64 k, .int .i64 c, .int .i64 l2, .bool f2] 23)).blk (heap_alloc_new w (.cells #[.int .i64 k, .int .i64 c, .int .i64 l, .bool f] 23)) (by simp)
  have hx2 := second_block w (.cells #[.int .i64 k, .int .i64 c, .int .i64 l, .bool f] 23) #[.int .i64 k, .int .i64 c, .int .i64 l2, .bool f2] 23
  go_enter Try.func6, Try.ntmps6
  go_upto_region 1 with fail
  generalize (w.alloc (.cells #[.int .i64 k, .int .i64 c, .int .i64 l, .bool f] 23)).alloc (.cells #[.int .i64 k, .int .i64 c, .int .i64 l2, .bool f2] 23) = wa at *
  generalize hb2 : w.heap.size + 1 = b2 at *
  generalize hb1 : w.heap.size = b1 at *
  clear hb1 hb2
  obtain ⟨c0, c1, c2', c3⟩ := four_cells hx1
  obtain ⟨d0, d1, d2, d3⟩ := four_cells hx2
  go_upto_region 2 with (first | (go_at_call 8; refine (hput_any k c l f _).mono ?_; rw [HX.out, HM.out]; rintro e wb ⟨rfl, hK⟩; have hKK := hKK.trans hK; have hx1 := hK.blk hx1 (by simp); have hx2 := hK.blk hx2 (by simp); obtain ⟨c0, c1, c2', c3⟩ := four_cells hx1; obtain ⟨d0, d1, d2, d3⟩ := four_cells hx2))
  go_upto_region 3 with (first | (go_at_call 8; refine (hput_any k c l2 f2 _).mono ?_; rw [HY.out, HM2.out]; rintro e wb ⟨rfl, hK⟩; have hKK := hKK.trans hK; have hx1 := hK.blk hx1 (by simp); have hx2 := hK.blk hx2 (by simp); obtain ⟨c0, c1, c2', c3⟩ := four_cells hx1; obtain ⟨d0, d1, d2, d3⟩ := four_cells hx2))
  have hx0 : 0 < x := by rw [← HX.out]; exact put_pos HM.out
  go_wp2_with (first | (go_at_call 14; refine (awake8_any _).mono ?_; rintro e wz ⟨rfl, hK⟩; have hKK := hKK.trans hK))
  go_ret
  exact ⟨rfl, hKK⟩

set_option maxRecDepth 100000 in
set_option maxHeartbeats 3200000 in
theorem apart_f (k c l : Int) (f : Bool) (x y : Int) (w : World) (hx : putN k c l f = x) (hy : putN k c l (!f) = y) (hm : mayH k c l f = true) (hm2 : mayH k c l (!f) = true) (hxy : (x == y) = false) :
    Calls Try.prog 6 #[.agg #[.int .i64 k, .int .i64 c, .int .i64 l, .bool f], .agg #[.int .i64 k, .int .i64 c, .int .i64 l, .bool (!f)]] w fun e w' => e = .returned (.bool true) ∧ Keep [] w w' := by
  have HM := (show Hid (mayH k c l f = true) from hm)
  have HM2 := (show Hid (mayH k c l (!f) = true) from hm2)
  have HX := (show Hid (putN k c l f = x) from hx)
  have HY := (show Hid (putN k c l (!f) = y) from hy)
  clear hm hm2 hx hy
  have hKK := (Keep.alloc [] w (.cells #[.int .i64 k, .int .i64 c, .int .i64 l, .bool f] 23)).trans (Keep.alloc [] (w.alloc (.cells #[.int .i64 k, .int .i64 c, .int .i64 l, .bool f] 23)) (.cells #[.int .i64 k, .int .i64 c, .int .i64 l, .bool (!f)] 23))
  have hx1 := (Keep.alloc [] (w.alloc (.cells #[.int .i64 k, .int .i64 c, .int .i64 l, .bool f] 23)) (.cells #[.int .i64 k, .int .i64 c, .int .i64 l, .bool (!f)] 23)).blk (heap_alloc_new w (.cells #[.int .i64 k, .int .i64 c, .int .i64 l, .bool f] 23)) (by simp)
  have hx2 := second_block w (.cells #[.int .i64 k, .int .i64 c, .int .i64 l, .bool f] 23) #[.int .i64 k, .int .i64 c, .int .i64 l, .bool (!f)] 23
  go_enter Try.func6, Try.ntmps6
  go_upto_region 1 with fail
  generalize (w.alloc (.cells #[.int .i64 k, .int .i64 c, .int .i64 l, .bool f] 23)).alloc (.cells #[.int .i64 k, .int .i64 c, .int .i64 l, .bool (!f)] 23) = wa at *
  generalize hb2 : w.heap.size + 1 = b2 at *
  generalize hb1 : w.heap.size = b1 at *
  clear hb1 hb2
  obtain ⟨c0, c1, c2', c3⟩ := four_cells hx1
  obtain ⟨d0, d1, d2, d3⟩ := four_cells hx2
  go_upto_region 2 with (first | (go_at_call 8; refine (hput_any k c l f _).mono ?_; rw [HX.out, HM.out]; rintro e wb ⟨rfl, hK⟩; have hKK := hKK.trans hK; have hx1 := hK.blk hx1 (by simp); have hx2 := hK.blk hx2 (by simp); obtain ⟨c0, c1, c2', c3⟩ := four_cells hx1; obtain ⟨d0, d1, d2, d3⟩ := four_cells hx2))
  go_upto_region 3 with (first | (go_at_call 8; refine (hput_any k c l (!f) _).mono ?_; rw [HY.out, HM2.out]; rintro e wb ⟨rfl, hK⟩; have hKK := hKK.trans hK; have hx1 := hK.blk hx1 (by simp); have hx2 := hK.blk hx2 (by simp); obtain ⟨c0, c1, c2', c3⟩ := four_cells hx1; obtain ⟨d0, d1, d2, d3⟩ := four_cells hx2))
  have hx0 : 0 < x := by rw [← HX.out]; exact put_pos HM.out
  cases f
  all_goals
    simp only [Bool.not_false, Bool.not_true] at *
    go_wp2_with (first | (go_at_call 14; refine (awake8_any _).mono ?_; rintro e wz ⟨rfl, hK⟩; have hKK := hKK.trans hK))
    go_ret
    exact ⟨rfl, hKK⟩

set_option maxRecDepth 100000 in
set_option maxHeartbeats 3200000 in
theorem no_ff (k c l k2 c2 l2 : Int) (f f2 : Bool) (x y : Int) (w : World) (hx : putN k c l f = x) (hy : putN k2 c2 l2 f2 = y) (hm : mayH k c l f = false) (hm2 : mayH k2 c2 l2 f2 = false) :
    Calls Try.prog 6 #[.agg #[.int .i64 k, .int .i64 c, .int .i64 l, .bool f], .agg #[.int .i64 k2, .int .i64 c2, .int .i64 l2, .bool f2]] w fun e w' => e = .returned (.bool true) ∧ Keep [] w w' := by
  have HM := (show Hid (mayH k c l f = false) from hm)
  have HM2 := (show Hid (mayH k2 c2 l2 f2 = false) from hm2)
  have HX := (show Hid (putN k c l f = x) from hx)
  have HY := (show Hid (putN k2 c2 l2 f2 = y) from hy)
  clear hm hm2 hx hy
  have hKK := (Keep.alloc [] w (.cells #[.int .i64 k, .int .i64 c, .int .i64 l, .bool f] 23)).trans (Keep.alloc [] (w.alloc (.cells #[.int .i64 k, .int .i64 c, .int .i64 l, .bool f] 23)) (.cells #[.int .i64 k2, .int .i64 c2, .int .i64 l2, .bool f2] 23))
  have hx1 := (Keep.alloc [] (w.alloc (.cells #[.int .i64 k, .int .i64 c, .int .i64 l, .bool f] 23)) (.cells #[.int .i64 k2, .int .i64 c2, .int .i64 l2, .bool f2] 23)).blk (heap_alloc_new w (.cells #[.int .i64 k, .int .i64 c, .int .i64 l, .bool f] 23)) (by simp)
  have hx2 := second_block w (.cells #[.int .i64 k, .int .i64 c, .int .i64 l, .bool f] 23) #[.int .i64 k2, .int .i64 c2, .int .i64 l2, .bool f2] 23
  go_enter Try.func6, Try.ntmps6
  go_upto_region 1 with fail
  generalize (w.alloc (.cells #[.int .i64 k, .int .i64 c, .int .i64 l, .bool f] 23)).alloc (.cells #[.int .i64 k2, .int .i64 c2, .int .i64 l2, .bool f2] 23) = wa at *
  generalize hb2 : w.heap.size + 1 = b2 at *
  generalize hb1 : w.heap.size = b1 at *
  clear hb1 hb2
  obtain ⟨c0, c1, c2', c3⟩ := four_cells hx1
  obtain ⟨d0, d1, d2, d3⟩ := four_cells hx2
  go_upto_region 2 with (first | (go_at_call 8; refine (hput_any k c l f _).mono ?_; rw [HX.out, HM.out]; rintro e wb ⟨rfl, hK⟩; have hKK := hKK.trans hK; have hx1 := hK.blk hx1 (by simp); have hx2 := hK.blk hx2 (by simp); obtain ⟨c0, c1, c2', c3⟩ := four_cells hx1; obtain ⟨d0, d1, d2, d3⟩ := four_cells hx2))
  go_upto_region 3 with (first | (go_at_call 8; refine (hput_any k2 c2 l2 f2 _).mono ?_; rw [HY.out, HM2.out]; rintro e wb ⟨rfl, hK⟩; have hKK := hKK.trans hK; have hx1 := hK.blk hx1 (by simp); have hx2 := hK.blk hx2 (by simp); obtain ⟨c0, c1, c2', c3⟩ := four_cells hx1; obtain ⟨d0, d1, d2, d3⟩ := four_cells hx2))
  go_wp2_with (first | (go_at_call 13; refine (hmay_any _ _ _ _ _).mono ?_; (first | rw [HM.out] | rw [HM2.out]); rintro e wy ⟨rfl, hK⟩; have hKK := hKK.trans hK; have hx1 := hK.blk hx1 (by simp); have hx2 := hK.blk hx2 (by simp); obtain ⟨c0, c1, c2', c3⟩ := four_cells hx1; obtain ⟨d0, d1, d2, d3⟩ := four_cells hx2) | (go_at_call 14; refine (awake8_any _).mono ?_; rintro e wz ⟨rfl, hK⟩; have hKK := hKK.trans hK))
  go_ret
  exact ⟨rfl, hKK⟩

set_option maxRecDepth 100000 in
set_option maxHeartbeats 3200000 in
theorem no_ft (k c l k2 c2 l2 : Int) (f f2 : Bool) (x y : Int) (w : World) (hx : putN k c l f = x) (hy : putN k2 c2 l2 f2 = y) (hm : mayH k c l f = false) (hm2 : mayH k2 c2 l2 f2 = true) :
    Calls Try.prog 6 #[.agg #[.int .i64 k, .int .i64 c, .int .i64 l, .bool f], .agg #[.int .i64 k2, .int .i64 c2, .int .i64 l2, .bool f2]] w fun e w' => e = .returned (.bool true) ∧ Keep [] w w' := by
  have HM := (show Hid (mayH k c l f = false) from hm)
  have HM2 := (show Hid (mayH k2 c2 l2 f2 = true) from hm2)
  have HX := (show Hid (putN k c l f = x) from hx)
  have HY := (show Hid (putN k2 c2 l2 f2 = y) from hy)
  clear hm hm2 hx hy
  have hKK := (Keep.alloc [] w (.cells #[.int .i64 k, .int .i64 c, .int .i64 l, .bool f] 23)).trans (Keep.alloc [] (w.alloc (.cells #[.int .i64 k, .int .i64 c, .int .i64 l, .bool f] 23)) (.cells #[.int .i64 k2, .int .i64 c2, .int .i64 l2, .bool f2] 23))
  have hx1 := (Keep.alloc [] (w.alloc (.cells #[.int .i64 k, .int .i64 c, .int .i64 l, .bool f] 23)) (.cells #[.int .i64 k2, .int .i64 c2, .int .i64 l2, .bool f2] 23)).blk (heap_alloc_new w (.cells #[.int .i64 k, .int .i64 c, .int .i64 l, .bool f] 23)) (by simp)
  have hx2 := second_block w (.cells #[.int .i64 k, .int .i64 c, .int .i64 l, .bool f] 23) #[.int .i64 k2, .int .i64 c2, .int .i64 l2, .bool f2] 23
  go_enter Try.func6, Try.ntmps6
  go_upto_region 1 with fail
  generalize (w.alloc (.cells #[.int .i64 k, .int .i64 c, .int .i64 l, .bool f] 23)).alloc (.cells #[.int .i64 k2, .int .i64 c2, .int .i64 l2, .bool f2] 23) = wa at *
  generalize hb2 : w.heap.size + 1 = b2 at *
  generalize hb1 : w.heap.size = b1 at *
  clear hb1 hb2
  obtain ⟨c0, c1, c2', c3⟩ := four_cells hx1
  obtain ⟨d0, d1, d2, d3⟩ := four_cells hx2
  go_upto_region 2 with (first | (go_at_call 8; refine (hput_any k c l f _).mono ?_; rw [HX.out, HM.out]; rintro e wb ⟨rfl, hK⟩; have hKK := hKK.trans hK; have hx1 := hK.blk hx1 (by simp); have hx2 := hK.blk hx2 (by simp); obtain ⟨c0, c1, c2', c3⟩ := four_cells hx1; obtain ⟨d0, d1, d2, d3⟩ := four_cells hx2))
  go_upto_region 3 with (first | (go_at_call 8; refine (hput_any k2 c2 l2 f2 _).mono ?_; rw [HY.out, HM2.out]; rintro e wb ⟨rfl, hK⟩; have hKK := hKK.trans hK; have hx1 := hK.blk hx1 (by simp); have hx2 := hK.blk hx2 (by simp); obtain ⟨c0, c1, c2', c3⟩ := four_cells hx1; obtain ⟨d0, d1, d2, d3⟩ := four_cells hx2))
  go_wp2_with (first | (go_at_call 13; refine (hmay_any _ _ _ _ _).mono ?_; (first | rw [HM.out] | rw [HM2.out]); rintro e wy ⟨rfl, hK⟩; have hKK := hKK.trans hK; have hx1 := hK.blk hx1 (by simp); have hx2 := hK.blk hx2 (by simp); obtain ⟨c0, c1, c2', c3⟩ := four_cells hx1; obtain ⟨d0, d1, d2, d3⟩ := four_cells hx2) | (go_at_call 14; refine (awake8_any _).mono ?_; rintro e wz ⟨rfl, hK⟩; have hKK := hKK.trans hK))
  go_ret
  exact ⟨rfl, hKK⟩

set_option maxRecDepth 100000 in
set_option maxHeartbeats 3200000 in
theorem no_tf (k c l k2 c2 l2 : Int) (f f2 : Bool) (x y : Int) (w : World) (hx : putN k c l f = x) (hy : putN k2 c2 l2 f2 = y) (hm : mayH k c l f = true) (hm2 : mayH k2 c2 l2 f2 = false) :
    Calls Try.prog 6 #[.agg #[.int .i64 k, .int .i64 c, .int .i64 l, .bool f], .agg #[.int .i64 k2, .int .i64 c2, .int .i64 l2, .bool f2]] w fun e w' => e = .returned (.bool true) ∧ Keep [] w w' := by
  have HM := (show Hid (mayH k c l f = true) from hm)
  have HM2 := (show Hid (mayH k2 c2 l2 f2 = false) from hm2)
  have HX := (show Hid (putN k c l f = x) from hx)
  have HY := (show Hid (putN k2 c2 l2 f2 = y) from hy)
  clear hm hm2 hx hy
  have hKK := (Keep.alloc [] w (.cells #[.int .i64 k, .int .i64 c, .int .i64 l, .bool f] 23)).trans (Keep.alloc [] (w.alloc (.cells #[.int .i64 k, .int .i64 c, .int .i64 l, .bool f] 23)) (.cells #[.int .i64 k2, .int .i64 c2, .int .i64 l2, .bool f2] 23))
  have hx1 := (Keep.alloc [] (w.alloc (.cells #[.int .i64 k, .int .i64 c, .int .i64 l, .bool f] 23)) (.cells #[.int .i64 k2, .int .i64 c2, .int .i64 l2, .bool f2] 23)).blk (heap_alloc_new w (.cells #[.int .i64 k, .int .i64 c, .int .i64 l, .bool f] 23)) (by simp)
  have hx2 := second_block w (.cells #[.int .i64 k, .int .i64 c, .int .i64 l, .bool f] 23) #[.int .i64 k2, .int .i64 c2, .int .i64 l2, .bool f2] 23
  go_enter Try.func6, Try.ntmps6
  go_upto_region 1 with fail
  generalize (w.alloc (.cells #[.int .i64 k, .int .i64 c, .int .i64 l, .bool f] 23)).alloc (.cells #[.int .i64 k2, .int .i64 c2, .int .i64 l2, .bool f2] 23) = wa at *
  generalize hb2 : w.heap.size + 1 = b2 at *
  generalize hb1 : w.heap.size = b1 at *
  clear hb1 hb2
  obtain ⟨c0, c1, c2', c3⟩ := four_cells hx1
  obtain ⟨d0, d1, d2, d3⟩ := four_cells hx2
  go_upto_region 2 with (first | (go_at_call 8; refine (hput_any k c l f _).mono ?_; rw [HX.out, HM.out]; rintro e wb ⟨rfl, hK⟩; have hKK := hKK.trans hK; have hx1 := hK.blk hx1 (by simp); have hx2 := hK.blk hx2 (by simp); obtain ⟨c0, c1, c2', c3⟩ := four_cells hx1; obtain ⟨d0, d1, d2, d3⟩ := four_cells hx2))
  go_upto_region 3 with (first | (go_at_call 8; refine (hput_any k2 c2 l2 f2 _).mono ?_; rw [HY.out, HM2.out]; rintro e wb ⟨rfl, hK⟩; have hKK := hKK.trans hK; have hx1 := hK.blk hx1 (by simp); have hx2 := hK.blk hx2 (by simp); obtain ⟨c0, c1, c2', c3⟩ := four_cells hx1; obtain ⟨d0, d1, d2, d3⟩ := four_cells hx2))
  go_wp2_with (first | (go_at_call 13; refine (hmay_any _ _ _ _ _).mono ?_; (first | rw [HM.out] | rw [HM2.out]); rintro e wy ⟨rfl, hK⟩; have hKK := hKK.trans hK; have hx1 := hK.blk hx1 (by simp); have hx2 := hK.blk hx2 (by simp); obtain ⟨c0, c1, c2', c3⟩ := four_cells hx1; obtain ⟨d0, d1, d2, d3⟩ := four_cells hx2) | (go_at_call 14; refine (awake8_any _).mono ?_; rintro e wz ⟨rfl, hK⟩; have hKK := hKK.trans hK))
  go_ret
  exact ⟨rfl, hKK⟩

theorem walk (k c l : Int) (f : Bool) (k2 c2 l2 : Int) (f2 : Bool) (_w0 : (Lit.int .i64 k).wf = true) (_w1 : (Lit.int .i64 c).wf = true) (_w2 : (Lit.int .i64 l).wf = true) (_w3 : (Lit.int .i64 k2).wf = true) (_w4 : (Lit.int .i64 c2).wf = true) (_w5 : (Lit.int .i64 l2).wf = true) (w : World) :
    Calls Try.prog 6 #[.agg #[.int .i64 k, .int .i64 c, .int .i64 l, .bool f], .agg #[.int .i64 k2, .int .i64 c2, .int .i64 l2, .bool f2]] w fun e w' => e = .returned (.bool true) ∧ Keep [] w w' := by
  cases hm : mayH k c l f with
  | false =>
    cases hm2 : mayH k2 c2 l2 f2 with
    | false => exact no_ff k c l k2 c2 l2 f f2 _ _ w rfl rfl hm hm2
    | true => exact no_ft k c l k2 c2 l2 f f2 _ _ w rfl rfl hm hm2
  | true =>
    cases hm2 : mayH k2 c2 l2 f2 with
    | false => exact no_tf k c l k2 c2 l2 f f2 _ _ w rfl rfl hm hm2
    | true =>
      by_cases he : k = k2 ∧ c = c2 ∧ l = l2 ∧ f = f2
      · obtain ⟨rfl, rfl, rfl, rfl⟩ := he
        exact same k c l f _ _ w rfl rfl hm hm2
      · have hxy : (putN k c l f == putN k2 c2 l2 f2) = false := by
          rw [beq_eq_false_iff_ne]
          exact fun e => he (put_inj hm hm2 e)
        by_cases h1 : k = k2
        · subst h1
          by_cases h2 : c = c2
          · subst h2
            by_cases h3 : l = l2
            · subst h3
              have h4 : f2 = !f := by
                cases f <;> cases f2 <;> simp_all
              subst h4
              exact apart_f k c l f _ _ w rfl rfl hm hm2 hxy
            · exact apart_l k c l l2 f f2 _ _ w rfl rfl hm hm2 hxy (by simpa using h3)
          · exact apart_c k c l c2 l2 f f2 _ _ w rfl rfl hm hm2 hxy (by simpa using h2)
        · exact apart_k k c l k2 c2 l2 f f2 _ _ w rfl rfl hm hm2 hxy (by simpa using h1)

end Go.Proofs.Ytmnjheodligohaa.headTwo
