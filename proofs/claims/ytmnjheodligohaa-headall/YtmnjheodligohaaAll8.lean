/-
  HeadAll: whether any head may be, its word, and what any word is, are the document's.
-/
import Derived.Test.YtmnjheodligohaaHeadRefGet
import Derived.Test.YtmnjheodligohaaStructs
namespace Go.Proofs.Ytmnjheodligohaa.headAll
open Go.RowKit

theorem get_both (x : Int) (hx : -9223372036854775808 ≤ x ∧ x ≤ 9223372036854775807) : ∃ k c l f ok,
    (∀ w, Calls Try.prog 11 #[.int .i64 x] w fun e w' => e = .returned (.tuple #[.agg #[.int .i64 k, .int .i64 c, .int .i64 l, .bool f], .bool ok]) ∧ Keep [] w w') ∧
    (∀ w, Calls Try.prog 12 #[.int .i64 x] w fun e w' => e = .returned (.agg #[.int .i64 k, .int .i64 c, .int .i64 l, .bool f, .bool ok]) ∧ Keep [] w w') := by
  rcases word_or x with ⟨k, c, l, f, h⟩ | h
  · exact ⟨k, c, l, f, true, fun w => hget_yes x k c l f w h, fun w => rgeth_yes x k c l f w h⟩
  · exact ⟨0, 0, 0, false, false, fun w => hget_no x w hx h, fun w => rgeth_no x w h⟩

theorem cells13 {w : World} {b1 b2 b3 : Nat} {t1 t2 t3 : TypeId} {a0 a1 a2 a3 g0 g1 g2 g3 y0 y1 y2 y3 y4 : Value} (h1 : w.heap[b1]? = some (.cells #[a0, a1, a2, a3] t1 (0, 0))) (h2 : w.heap[b2]? = some (.cells #[g0, g1, g2, g3] t2 (0, 0))) (h3 : w.heap[b3]? = some (.cells #[y0, y1, y2, y3, y4] t3 (0, 0))) :
    w.cell? ⟨b1, 0, none⟩ = some a0 ∧ w.cell? ⟨b1, 1, none⟩ = some a1 ∧ w.cell? ⟨b1, 2, none⟩ = some a2 ∧ w.cell? ⟨b1, 3, none⟩ = some a3 ∧
    w.cell? ⟨b2, 0, none⟩ = some g0 ∧ w.cell? ⟨b2, 1, none⟩ = some g1 ∧ w.cell? ⟨b2, 2, none⟩ = some g2 ∧ w.cell? ⟨b2, 3, none⟩ = some g3 ∧
    w.cell? ⟨b3, 0, none⟩ = some y0 ∧ w.cell? ⟨b3, 1, none⟩ = some y1 ∧ w.cell? ⟨b3, 2, none⟩ = some y2 ∧ w.cell? ⟨b3, 3, none⟩ = some y3 ∧ w.cell? ⟨b3, 4, none⟩ = some y4 := by
  refine ⟨?_, ?_, ?_, ?_, ?_, ?_, ?_, ?_, ?_, ?_, ?_, ?_, ?_⟩ <;> simp [World.cell?, h1, h2, h3]

set_option maxRecDepth 100000 in
set_option maxHeartbeats 3200000 in
theorem walk (k c l : Int) (f : Bool) (x : Int) (_w0 : (Lit.int .i64 k).wf = true) (_w1 : (Lit.int .i64 c).wf = true) (_w2 : (Lit.int .i64 l).wf = true) (w3 : (Lit.int .i64 x).wf = true) (w : World) :
    Calls Try.prog 3 #[.agg #[.int .i64 k, .int .i64 c, .int .i64 l, .bool f], .int .i64 x] w fun e w' => e = .returned (.bool true) ∧ Keep [] w w' := by
  obtain ⟨gk, gc, gl, gf, ok, hG1, hG2⟩ := get_both x (bounds_i64 w3)
  have HG1 := (show Hid _ from hG1)
  have HG2 := (show Hid _ from hG2)
  clear hG1 hG2 w3
  have hKK := Keep.alloc [] w (.cells #[.int .i64 k, .int .i64 c, .int .i64 l, .bool f] 23)
  have hx1 := heap_alloc_new w (.cells #[.int .i64 k, .int .i64 c, .int .i64 l, .bool f] 23)
  obtain ⟨b1, hb1⟩ : ∃ b, w.heap.size = b := ⟨_, rfl⟩
  obtain ⟨n, hn⟩ : ∃ n, putN k c l f = n := ⟨_, rfl⟩
  have HN := (show Hid (putN k c l f = n) from hn)
  cases hm : mayH k c l f with
  | false =>
    have HM := (show Hid (mayH k c l f = false) from hm)
    have hn0 : n = 0 := by rw [← hn, putN, hm]; rfl
    subst hn0
    clear hm hn
    go_enter Try.func3, Try.ntmps3
    go_upto_region 1 with fail
    generalize w.alloc (.cells #[.int .i64 k, .int .i64 c, .int .i64 l, .bool f] 23) = wa at *
    rw [hb1] at hx1
    obtain ⟨c0, c1, c2, c3⟩ := four_cells hx1
    go_upto_region 7 with (first | (go_at_call 8; refine (hput_any k c l f _).mono ?_; rw [HN.out, HM.out]; rintro e wb ⟨rfl, hK⟩; have hKK := hKK.trans hK; have hx1 := hK.blk hx1 (by simp); obtain ⟨c0, c1, c2, c3⟩ := four_cells hx1) | (go_at_call 9; refine (rmayh_any k c l f _).mono ?_; rw [HM.out]; rintro e wc ⟨rfl, hK⟩; have hKK := hKK.trans hK; have hx1 := hK.blk hx1 (by simp); obtain ⟨c0, c1, c2, c3⟩ := four_cells hx1) | (go_at_call 11; refine (HG1.out _).mono ?_; rintro e wd ⟨rfl, hK⟩; have hKK := hKK.trans hK; have hx1 := hK.blk hx1 (by simp)) | (go_at_call 12; refine (HG2.out _).mono ?_; rintro e we ⟨rfl, hKe⟩))
    have hx2 := hKe.blk (heap_alloc_new wd (.cells #[.int .i64 gk, .int .i64 gc, .int .i64 gl, .bool gf] 23)) (by simp)
    have hx1 := hKe.blk ((Keep.alloc [] wd (.cells #[.int .i64 gk, .int .i64 gc, .int .i64 gl, .bool gf] 23)).blk hx1 (by simp)) (by simp)
    have hKK := (hKK.trans (Keep.alloc [] wd (.cells #[.int .i64 gk, .int .i64 gc, .int .i64 gl, .bool gf] 23))).trans hKe
    have hKf := Keep.alloc [] we (.cells #[.int .i64 gk, .int .i64 gc, .int .i64 gl, .bool gf, .bool ok] 31)
    have hx3 := heap_alloc_new we (.cells #[.int .i64 gk, .int .i64 gc, .int .i64 gl, .bool gf, .bool ok] 31)
    have hx1 := hKf.blk hx1 (by simp)
    have hx2 := hKf.blk hx2 (by simp)
    have hKK := hKK.trans hKf
    generalize we.alloc (.cells #[.int .i64 gk, .int .i64 gc, .int .i64 gl, .bool gf, .bool ok] 31) = wg at *
    generalize wd.heap.size = b2 at *
    generalize we.heap.size = b3 at *
    clear hKe
    have hx1 := (Keep.drew [] wg).blk hx1 (by simp)
    have hx2 := (Keep.drew [] wg).blk hx2 (by simp)
    have hx3 := (Keep.drew [] wg).blk hx3 (by simp)
    have hKK := hKK.trans (Keep.drew [] wg)
    obtain ⟨c0, c1, c2, c3, c4, c5, c6, c7, c8, c9, c10, c11, c12⟩ := cells13 hx1 hx2 hx3
    go_region_held3 (fun wz => wz.cell? ⟨b1, 0, none⟩ = some (.int .i64 k) ∧ wz.cell? ⟨b1, 1, none⟩ = some (.int .i64 c) ∧ wz.cell? ⟨b1, 2, none⟩ = some (.int .i64 l) ∧ wz.cell? ⟨b1, 3, none⟩ = some (.bool f) ∧ wz.cell? ⟨b2, 0, none⟩ = some (.int .i64 gk) ∧ wz.cell? ⟨b2, 1, none⟩ = some (.int .i64 gc) ∧ wz.cell? ⟨b2, 2, none⟩ = some (.int .i64 gl) ∧ wz.cell? ⟨b2, 3, none⟩ = some (.bool gf) ∧ wz.cell? ⟨b3, 0, none⟩ = some (.int .i64 gk) ∧ wz.cell? ⟨b3, 1, none⟩ = some (.int .i64 gc) ∧ wz.cell? ⟨b3, 2, none⟩ = some (.int .i64 gl) ∧ wz.cell? ⟨b3, 3, none⟩ = some (.bool gf) ∧ wz.cell? ⟨b3, 4, none⟩ = some (.bool ok)) (go_keep) (first | (go_at_call 13; refine (hmay_any k c l f _).mono ?_; rw [HM.out]; rintro e wh ⟨rfl, hK⟩; have hKK := hKK.trans hK; have hx1 := hK.blk hx1 (by simp); have hx2 := hK.blk hx2 (by simp); have hx3 := hK.blk hx3 (by simp); obtain ⟨c0, c1, c2, c3, c4, c5, c6, c7, c8, c9, c10, c11, c12⟩ := cells13 hx1 hx2 hx3) | (go_at_call 9; refine (rmayh_any k c l f _).mono ?_; rw [HM.out]; rintro e wi ⟨rfl, hK⟩; have hKK := hKK.trans hK; have hx1 := hK.blk hx1 (by simp); have hx2 := hK.blk hx2 (by simp); have hx3 := hK.blk hx3 (by simp); obtain ⟨c0, c1, c2, c3, c4, c5, c6, c7, c8, c9, c10, c11, c12⟩ := cells13 hx1 hx2 hx3) | (go_at_call 14; refine (awake8_any _).mono ?_; rintro e wj ⟨rfl, hK⟩; have hKK := hKK.trans hK; have hx1 := hK.blk hx1 (by simp); have hx2 := hK.blk hx2 (by simp); have hx3 := hK.blk hx3 (by simp); obtain ⟨c0, c1, c2, c3, c4, c5, c6, c7, c8, c9, c10, c11, c12⟩ := cells13 hx1 hx2 hx3))
    go_wp2_with fail
    go_ret
    exact ⟨rfl, hKK⟩
  | true =>
    have HM := (show Hid (mayH k c l f = true) from hm)
    have HP := (show Hid (putH k c l f = n) from by show _ = _; rw [← hn, putN, hm]; rfl)
    clear hm hn
    go_enter Try.func3, Try.ntmps3
    go_upto_region 1 with fail
    generalize w.alloc (.cells #[.int .i64 k, .int .i64 c, .int .i64 l, .bool f] 23) = wa at *
    rw [hb1] at hx1
    obtain ⟨c0, c1, c2, c3⟩ := four_cells hx1
    go_upto_region 7 with (first | (go_at_call 8; refine (hput_any k c l f _).mono ?_; rw [HN.out, HM.out]; rintro e wb ⟨rfl, hK⟩; have hKK := hKK.trans hK; have hx1 := hK.blk hx1 (by simp); obtain ⟨c0, c1, c2, c3⟩ := four_cells hx1) | (go_at_call 9; refine (rmayh_any k c l f _).mono ?_; rw [HM.out]; rintro e wc ⟨rfl, hK⟩; have hKK := hKK.trans hK; have hx1 := hK.blk hx1 (by simp); obtain ⟨c0, c1, c2, c3⟩ := four_cells hx1) | (go_at_call 10; refine (rputh_yes k c l f _ HM.out).mono ?_; rw [HP.out]; rintro e wc2 ⟨rfl, hK⟩; have hKK := hKK.trans hK; have hx1 := hK.blk hx1 (by simp)) | (go_at_call 11; refine (HG1.out _).mono ?_; rintro e wd ⟨rfl, hK⟩; have hKK := hKK.trans hK; have hx1 := hK.blk hx1 (by simp)) | (go_at_call 12; refine (HG2.out _).mono ?_; rintro e we ⟨rfl, hKe⟩))
    have hx2 := hKe.blk (heap_alloc_new wd (.cells #[.int .i64 gk, .int .i64 gc, .int .i64 gl, .bool gf] 23)) (by simp)
    have hx1 := hKe.blk ((Keep.alloc [] wd (.cells #[.int .i64 gk, .int .i64 gc, .int .i64 gl, .bool gf] 23)).blk hx1 (by simp)) (by simp)
    have hKK := (hKK.trans (Keep.alloc [] wd (.cells #[.int .i64 gk, .int .i64 gc, .int .i64 gl, .bool gf] 23))).trans hKe
    have hKf := Keep.alloc [] we (.cells #[.int .i64 gk, .int .i64 gc, .int .i64 gl, .bool gf, .bool ok] 31)
    have hx3 := heap_alloc_new we (.cells #[.int .i64 gk, .int .i64 gc, .int .i64 gl, .bool gf, .bool ok] 31)
    have hx1 := hKf.blk hx1 (by simp)
    have hx2 := hKf.blk hx2 (by simp)
    have hKK := hKK.trans hKf
    generalize we.alloc (.cells #[.int .i64 gk, .int .i64 gc, .int .i64 gl, .bool gf, .bool ok] 31) = wg at *
    generalize wd.heap.size = b2 at *
    generalize we.heap.size = b3 at *
    clear hKe
    have hx1 := (Keep.drew [] wg).blk hx1 (by simp)
    have hx2 := (Keep.drew [] wg).blk hx2 (by simp)
    have hx3 := (Keep.drew [] wg).blk hx3 (by simp)
    have hKK := hKK.trans (Keep.drew [] wg)
    obtain ⟨c0, c1, c2, c3, c4, c5, c6, c7, c8, c9, c10, c11, c12⟩ := cells13 hx1 hx2 hx3
    go_region_held3 (fun wz => wz.cell? ⟨b1, 0, none⟩ = some (.int .i64 k) ∧ wz.cell? ⟨b1, 1, none⟩ = some (.int .i64 c) ∧ wz.cell? ⟨b1, 2, none⟩ = some (.int .i64 l) ∧ wz.cell? ⟨b1, 3, none⟩ = some (.bool f) ∧ wz.cell? ⟨b2, 0, none⟩ = some (.int .i64 gk) ∧ wz.cell? ⟨b2, 1, none⟩ = some (.int .i64 gc) ∧ wz.cell? ⟨b2, 2, none⟩ = some (.int .i64 gl) ∧ wz.cell? ⟨b2, 3, none⟩ = some (.bool gf) ∧ wz.cell? ⟨b3, 0, none⟩ = some (.int .i64 gk) ∧ wz.cell? ⟨b3, 1, none⟩ = some (.int .i64 gc) ∧ wz.cell? ⟨b3, 2, none⟩ = some (.int .i64 gl) ∧ wz.cell? ⟨b3, 3, none⟩ = some (.bool gf) ∧ wz.cell? ⟨b3, 4, none⟩ = some (.bool ok)) (go_keep) (first | (go_at_call 13; refine (hmay_any k c l f _).mono ?_; rw [HM.out]; rintro e wh ⟨rfl, hK⟩; have hKK := hKK.trans hK; have hx1 := hK.blk hx1 (by simp); have hx2 := hK.blk hx2 (by simp); have hx3 := hK.blk hx3 (by simp); obtain ⟨c0, c1, c2, c3, c4, c5, c6, c7, c8, c9, c10, c11, c12⟩ := cells13 hx1 hx2 hx3) | (go_at_call 9; refine (rmayh_any k c l f _).mono ?_; rw [HM.out]; rintro e wi ⟨rfl, hK⟩; have hKK := hKK.trans hK; have hx1 := hK.blk hx1 (by simp); have hx2 := hK.blk hx2 (by simp); have hx3 := hK.blk hx3 (by simp); obtain ⟨c0, c1, c2, c3, c4, c5, c6, c7, c8, c9, c10, c11, c12⟩ := cells13 hx1 hx2 hx3) | (go_at_call 14; refine (awake8_any _).mono ?_; rintro e wj ⟨rfl, hK⟩; have hKK := hKK.trans hK; have hx1 := hK.blk hx1 (by simp); have hx2 := hK.blk hx2 (by simp); have hx3 := hK.blk hx3 (by simp); obtain ⟨c0, c1, c2, c3, c4, c5, c6, c7, c8, c9, c10, c11, c12⟩ := cells13 hx1 hx2 hx3))
    go_wp2_with fail
    go_ret
    exact ⟨rfl, hKK⟩

end Go.Proofs.Ytmnjheodligohaa.headAll
