/-
  Package object: what fits, Make, Final and New answer and leave.
-/
import Derived.Test.YtdpaffnpedcmpabObj
namespace Go.Proofs.Ytdpaffnpedcmpab
open Go.RowKit

theorem two_cells {w : World} {b : Nat} {t : TypeId} {a0 a1 : Value} (h : w.heap[b]? = some (.cells #[a0, a1] t (0, 0))) : w.cell? ⟨b, 0, none⟩ = some a0 ∧ w.cell? ⟨b, 1, none⟩ = some a1 := by
  refine ⟨?_, ?_⟩ <;> simp [World.cell?, h]
theorem two_free {w : World} {b : Nat} {t : TypeId} {a0 a1 : Value} (h : w.heap[b]? = some (.cells #[a0, a1] t (0, 0))) : w.frozen? ⟨b, 0, none⟩ = false ∧ w.frozen? ⟨b, 1, none⟩ = false := by
  refine ⟨?_, ?_⟩ <;> simp [World.frozen?, h]
theorem two_put {w : World} {b : Nat} {t : TypeId} {a0 a1 : Value} (h : w.heap[b]? = some (.cells #[a0, a1] t (0, 0))) (b0 b1 : Value) :
    ((w.setCell ⟨b, 0, none⟩ b0).setCell ⟨b, 1, none⟩ b1).heap[b]? = some (.cells #[b0, b1] t (0, 0)) ∧ Keep [b] w ((w.setCell ⟨b, 0, none⟩ b0).setCell ⟨b, 1, none⟩ b1) := by
  have z1 := heap_setCell_same w b 0 _ _ b0 h
  have z2 := heap_setCell_same _ b 1 _ _ b1 z1
  exact ⟨by simpa using z2, (Keep.setCell _ _ (by simp)).trans (Keep.setCell _ _ (by simp))⟩
section
variable {w0 : World} {F0 : List Nat} {hb : Nat} {ws : List Int} {kd : List PK} {ds : List (Int × List Int)}

set_option maxHeartbeats 1600000 in
theorem ofits_other (pv : Option Addr) (k c l : Int) (f : Bool) (w : World) (hk : k ≠ 1) :
    Calls Try.prog 23 #[.pointer pv, .agg #[.int .i64 k, .int .i64 c, .int .i64 l, .bool f]] w fun e w' => e = .returned (.int .i64 0) ∧ Keep [] w w' := by
  have hd : (k == 1) = false := by simpa using hk
  have hx := heap_alloc_new w (.cells #[.int .i64 k, .int .i64 c, .int .i64 l, .bool f] 31)
  obtain ⟨g0, g1, g2, g3⟩ := four_cells hx
  go_enter Try.func23, Try.ntmps23
  go_wp2_with fail
  go_ret
  exact ⟨rfl, Keep.alloc [] _ _⟩
set_option maxRecDepth 100000 in
set_option maxHeartbeats 1600000 in
theorem ofits_none {sb tb : Nat} (c l : Int) (f : Bool) (w : World) (h : Has w0 F0 (rawA hb sb tb ws kd ds) w) (hc : c < 1 ∨ (ds.length : Int) < c) :
    Calls Try.prog 23 #[.pointer (some ⟨hb, 0, none⟩), .agg #[.int .i64 1, .int .i64 c, .int .i64 l, .bool f]] w fun e w' => e = .returned (.int .i64 2) ∧ Keep [] w w' := by
  have hK := Keep.alloc [] w (.cells #[.int .i64 1, .int .i64 c, .int .i64 l, .bool f] 31)
  have hx := heap_alloc_new w (.cells #[.int .i64 1, .int .i64 c, .int .i64 l, .bool f] 31)
  have h1 := h.keep0 hK
  clear h
  obtain ⟨g0, g1, g2, g3⟩ := four_cells hx
  go_enter Try.func23, Try.ntmps23
  go_upto_region 3 with fail
  generalize w.alloc (.cells #[.int .i64 1, .int .i64 c, .int .i64 l, .bool f] 31) = w1 at *
  obtain ⟨c0, c1, _⟩ := h1.cells
  obtain ⟨F, hT⟩ := h1.tab
  have HT := (show Hid (∀ w', Keep [] w1 w' → IsTab w' tb F ds) from fun w' K => hT.keep K (by simp))
  have hKz := (Keep.alloc [] w1 (.cells #[.int .i64 0, .slice none 0 0] 49)).trans (Keep.drew [] _)
  obtain ⟨b0, b1, _⟩ := (h1.keep0 hKz).cells
  obtain ⟨d0, d1, d2, d3⟩ := four_cells (hKz.blk hx (by simp))
  have hn1 := World.new_ne _ _ c1
  have hn2 := World.new_ne _ _ g1
  clear h1 hT
  go_region_law (first | (go_simp; refine (tclass_no tb F ds c _ (HT.out _ (by first | exact Keep.drew [] _ | exact (Keep.alloc [] _ _).trans (Keep.drew [] _))) hc).mono ?_; rintro e w2 ⟨rfl, hK2⟩; have hKe : Keep [] w1 w2 := (by first | exact (Keep.drew [] _).trans hK2 | exact ((Keep.alloc [] _ _).trans (Keep.drew [] _)).trans hK2); obtain ⟨q0, q1, q2, q3⟩ := four_cells (hKe.blk hx (by simp)); have hn3 : w2.heap.size ≠ w.heap.size := World.new_ne _ _ q1; have hn4 := hn3.symm; try (have hz := hK2.blk (heap_alloc_new w1 (.cells #[.int .i64 0, .slice none 0 0] 49)) (by simp); obtain ⟨u0, u1⟩ := two_cells hz; obtain ⟨v0, v1⟩ := two_free hz)))
  all_goals first
    | (obtain ⟨hz1, hk4⟩ := two_put hz (.int .i64 0) (.slice none 0 0)
       have hxz := hk4.blk (hKe.blk hx (by simp)) (by simpa using hn2.symm)
       have hKf := hK.trans (((hKe.mono (T := [w1.heap.size]) (by simp)).trans hk4).drop (by simp))
       clear hk4 hz u0 u1 v0 v1
       generalize (w2.setCell ⟨w1.heap.size, 0, none⟩ (.int .i64 0)).setCell ⟨w1.heap.size, 1, none⟩ (.slice none 0 0) = wz at *)
    | (have hxz := (Keep.alloc [] w2 (.cells #[.int .i64 0, .slice none 0 0] 49)).blk (hKe.blk hx (by simp)) (by simp)
       have hz1 := heap_alloc_new w2 (.cells #[.int .i64 0, .slice none 0 0] 49)
       have hKf := (hK.trans hKe).trans (Keep.alloc [] w2 (.cells #[.int .i64 0, .slice none 0 0] 49))
       generalize w2.alloc (.cells #[.int .i64 0, .slice none 0 0] 49) = wz at *)
  all_goals (obtain ⟨r0, r1, r2, r3⟩ := four_cells hxz; obtain ⟨t0, t1⟩ := two_cells hz1; clear hxz hz1 q0 q1 q2 q3 hKe hK2)
  all_goals (go_wp2_with fail)
  all_goals go_ret
  all_goals exact ⟨rfl, hKf⟩
set_option maxRecDepth 100000 in
set_option maxHeartbeats 1600000 in
theorem ofits_arg {sb tb : Nat} (i : Nat) (c l n : Int) (f : Bool) (L : List Int) (w : World) (h : Has w0 F0 (rawA hb sb tb ws kd ds) w) (hc : c = (i : Int) + 1) (hi : ds[i]? = some (n, L)) (hl : ds.length ≤ 256) (hne : l ≠ n) :
    Calls Try.prog 23 #[.pointer (some ⟨hb, 0, none⟩), .agg #[.int .i64 1, .int .i64 c, .int .i64 l, .bool f]] w fun e w' => e = .returned (.int .i64 1) ∧ Keep [] w w' := by
  have HCI := (show Hid (c = (i : Int) + 1) from hc)
  have hd : (l == n) = false := by simpa using hne
  clear hc
  have hK := Keep.alloc [] w (.cells #[.int .i64 1, .int .i64 c, .int .i64 l, .bool f] 31)
  have hx := heap_alloc_new w (.cells #[.int .i64 1, .int .i64 c, .int .i64 l, .bool f] 31)
  have h1 := h.keep0 hK
  clear h
  obtain ⟨g0, g1, g2, g3⟩ := four_cells hx
  go_enter Try.func23, Try.ntmps23
  go_upto_region 3 with fail
  generalize w.alloc (.cells #[.int .i64 1, .int .i64 c, .int .i64 l, .bool f] 31) = w1 at *
  obtain ⟨c0, c1, _⟩ := h1.cells
  obtain ⟨F, hT⟩ := h1.tab
  have HT := (show Hid (∀ w', Keep [] w1 w' → IsTab w' tb F ds) from fun w' K => hT.keep K (by simp))
  have hKz := (Keep.alloc [] w1 (.cells #[.int .i64 0, .slice none 0 0] 49)).trans (Keep.drew [] _)
  obtain ⟨b0, b1, _⟩ := (h1.keep0 hKz).cells
  obtain ⟨d0, d1, d2, d3⟩ := four_cells (hKz.blk hx (by simp))
  have hn1 := World.new_ne _ _ c1
  have hn2 := World.new_ne _ _ g1
  clear h1 hT
  go_region_law (first | (go_simp; refine (tclass_at tb i F ds n c L _ (HT.out _ (by first | exact Keep.drew [] _ | exact (Keep.alloc [] _ _).trans (Keep.drew [] _))) hi (by omega) HCI.out).mono ?_; rintro e w2 ⟨la, lc, rfl, HG, hK2⟩; have hKe : Keep [] w1 w2 := (by first | exact (Keep.drew [] _).trans hK2 | exact ((Keep.alloc [] _ _).trans (Keep.drew [] _)).trans hK2); obtain ⟨q0, q1, q2, q3⟩ := four_cells (hKe.blk hx (by simp)); have hn3 : w2.heap.size ≠ w.heap.size := World.new_ne _ _ q1; have hn4 := hn3.symm; try (have hz := hK2.blk (heap_alloc_new w1 (.cells #[.int .i64 0, .slice none 0 0] 49)) (by simp); obtain ⟨u0, u1⟩ := two_cells hz; obtain ⟨v0, v1⟩ := two_free hz)))
  all_goals first
    | (obtain ⟨hz1, hk4⟩ := two_put hz (.int .i64 n) (.slice la L.length lc)
       have hxz := hk4.blk (hKe.blk hx (by simp)) (by simpa using hn2.symm)
       have hKf := hK.trans (((hKe.mono (T := [w1.heap.size]) (by simp)).trans hk4).drop (by simp))
       clear hk4 hz u0 u1 v0 v1
       generalize (w2.setCell ⟨w1.heap.size, 0, none⟩ (.int .i64 n)).setCell ⟨w1.heap.size, 1, none⟩ (.slice la L.length lc) = wz at *)
    | (have hxz := (Keep.alloc [] w2 (.cells #[.int .i64 n, .slice la L.length lc] 49)).blk (hKe.blk hx (by simp)) (by simp)
       have hz1 := heap_alloc_new w2 (.cells #[.int .i64 n, .slice la L.length lc] 49)
       have hKf := (hK.trans hKe).trans (Keep.alloc [] w2 (.cells #[.int .i64 n, .slice la L.length lc] 49))
       generalize w2.alloc (.cells #[.int .i64 n, .slice la L.length lc] 49) = wz at *)
  all_goals (obtain ⟨r0, r1, r2, r3⟩ := four_cells hxz; obtain ⟨t0, t1⟩ := two_cells hz1; clear hxz hz1 q0 q1 q2 q3 hKe hK2)
  all_goals (go_wp2_with fail)
  all_goals go_ret
  all_goals exact ⟨rfl, hKf⟩
set_option maxRecDepth 100000 in
set_option maxHeartbeats 1600000 in
theorem ofits_yes {sb tb : Nat} (i : Nat) (c l n : Int) (f : Bool) (L : List Int) (w : World) (h : Has w0 F0 (rawA hb sb tb ws kd ds) w) (hc : c = (i : Int) + 1) (hi : ds[i]? = some (n, L)) (hl : ds.length ≤ 256) (hne : l = n) :
    Calls Try.prog 23 #[.pointer (some ⟨hb, 0, none⟩), .agg #[.int .i64 1, .int .i64 c, .int .i64 l, .bool f]] w fun e w' => e = .returned (.int .i64 0) ∧ Keep [] w w' := by
  have HCI := (show Hid (c = (i : Int) + 1) from hc)
  subst hne
  clear hc
  have hK := Keep.alloc [] w (.cells #[.int .i64 1, .int .i64 c, .int .i64 l, .bool f] 31)
  have hx := heap_alloc_new w (.cells #[.int .i64 1, .int .i64 c, .int .i64 l, .bool f] 31)
  have h1 := h.keep0 hK
  clear h
  obtain ⟨g0, g1, g2, g3⟩ := four_cells hx
  go_enter Try.func23, Try.ntmps23
  go_upto_region 3 with fail
  generalize w.alloc (.cells #[.int .i64 1, .int .i64 c, .int .i64 l, .bool f] 31) = w1 at *
  obtain ⟨c0, c1, _⟩ := h1.cells
  obtain ⟨F, hT⟩ := h1.tab
  have HT := (show Hid (∀ w', Keep [] w1 w' → IsTab w' tb F ds) from fun w' K => hT.keep K (by simp))
  have hKz := (Keep.alloc [] w1 (.cells #[.int .i64 0, .slice none 0 0] 49)).trans (Keep.drew [] _)
  obtain ⟨b0, b1, _⟩ := (h1.keep0 hKz).cells
  obtain ⟨d0, d1, d2, d3⟩ := four_cells (hKz.blk hx (by simp))
  have hn1 := World.new_ne _ _ c1
  have hn2 := World.new_ne _ _ g1
  clear h1 hT
  go_region_law (first | (go_simp; refine (tclass_at tb i F ds l c L _ (HT.out _ (by first | exact Keep.drew [] _ | exact (Keep.alloc [] _ _).trans (Keep.drew [] _))) hi (by omega) HCI.out).mono ?_; rintro e w2 ⟨la, lc, rfl, HG, hK2⟩; have hKe : Keep [] w1 w2 := (by first | exact (Keep.drew [] _).trans hK2 | exact ((Keep.alloc [] _ _).trans (Keep.drew [] _)).trans hK2); obtain ⟨q0, q1, q2, q3⟩ := four_cells (hKe.blk hx (by simp)); have hn3 : w2.heap.size ≠ w.heap.size := World.new_ne _ _ q1; have hn4 := hn3.symm; try (have hz := hK2.blk (heap_alloc_new w1 (.cells #[.int .i64 0, .slice none 0 0] 49)) (by simp); obtain ⟨u0, u1⟩ := two_cells hz; obtain ⟨v0, v1⟩ := two_free hz)))
  all_goals first
    | (obtain ⟨hz1, hk4⟩ := two_put hz (.int .i64 l) (.slice la L.length lc)
       have hxz := hk4.blk (hKe.blk hx (by simp)) (by simpa using hn2.symm)
       have hKf := hK.trans (((hKe.mono (T := [w1.heap.size]) (by simp)).trans hk4).drop (by simp))
       clear hk4 hz u0 u1 v0 v1
       generalize (w2.setCell ⟨w1.heap.size, 0, none⟩ (.int .i64 l)).setCell ⟨w1.heap.size, 1, none⟩ (.slice la L.length lc) = wz at *)
    | (have hxz := (Keep.alloc [] w2 (.cells #[.int .i64 l, .slice la L.length lc] 49)).blk (hKe.blk hx (by simp)) (by simp)
       have hz1 := heap_alloc_new w2 (.cells #[.int .i64 l, .slice la L.length lc] 49)
       have hKf := (hK.trans hKe).trans (Keep.alloc [] w2 (.cells #[.int .i64 l, .slice la L.length lc] 49))
       generalize w2.alloc (.cells #[.int .i64 l, .slice la L.length lc] 49) = wz at *)
  all_goals (obtain ⟨r0, r1, r2, r3⟩ := four_cells hxz; obtain ⟨t0, t1⟩ := two_cells hz1; clear hxz hz1 q0 q1 q2 q3 hKe hK2)
  all_goals (go_wp2_with fail)
  all_goals go_ret
  all_goals exact ⟨rfl, hKf⟩
theorem ofits {sb tb : Nat} (k c l E : Int) (f : Bool) (w : World) (h : Has w0 F0 (rawA hb sb tb ws kd ds) w) (hT : FitsT ds k c l E) (hl : ds.length ≤ 256) :
    Calls Try.prog 23 #[.pointer (some ⟨hb, 0, none⟩), .agg #[.int .i64 k, .int .i64 c, .int .i64 l, .bool f]] w fun e w' => e = .returned (.int .i64 E) ∧ Keep [] w w' := by
  cases hT with
  | other hk => exact ofits_other _ k c l f w hk
  | none hk hc => subst hk; exact ofits_none c l f w h hc
  | arg i n L hk hc hi hne => subst hk; exact ofits_arg i c l n f L w h hc hi hl hne
  | yes i L hk hc hi => subst hk; exact ofits_yes i c l l f L w h hc hi hl rfl

/-! ### Make -/
set_option maxRecDepth 100000 in
set_option maxHeartbeats 1600000 in
theorem omake_nil (k c l : Int) (f : Bool) (w : World) :
    Calls Try.prog 8 #[.pointer none, .agg #[.int .i64 k, .int .i64 c, .int .i64 l, .bool f]] w fun e w' => e = .returned (.tuple #[.int .i64 0, .int .i64 2]) ∧ Keep [] w w' := by
  go_enter Try.func8, Try.ntmps8
  go_wp2_with fail
  go_ret2
  exact ⟨rfl, Keep.alloc [] _ _⟩
set_option maxRecDepth 100000 in
set_option maxHeartbeats 1600000 in
theorem omake_arg (k c l : Int) (f : Bool) (w : World) (hm : (mayH k c l f && !f) = false) :
    Calls Try.prog 8 #[.pointer (some ⟨hb, 0, none⟩), .agg #[.int .i64 k, .int .i64 c, .int .i64 l, .bool f]] w fun e w' => e = .returned (.tuple #[.int .i64 0, .int .i64 1]) ∧ Keep [] w w' := by
  have hK := Keep.alloc [] w (.cells #[.int .i64 k, .int .i64 c, .int .i64 l, .bool f] 31)
  have hx := heap_alloc_new w (.cells #[.int .i64 k, .int .i64 c, .int .i64 l, .bool f] 31)
  obtain ⟨g0, g1, g2, g3⟩ := four_cells hx
  cases hm1 : mayH k c l f
  · have HM := (show Hid (mayH k c l f = false) from hm1)
    clear hm hm1
    go_enter Try.func8, Try.ntmps8
    go_wp2_with (first | (go_at_call 22; refine (hmay_any k c l f _).mono ?_; rw [HM.out]; rintro e w1 ⟨rfl, hK1⟩))
    go_ret2
    exact ⟨rfl, hK.trans hK1⟩
  · cases f
    · rw [hm1] at hm; cases hm
    · have HM := (show Hid (mayH k c l true = true) from hm1)
      clear hm hm1
      go_enter Try.func8, Try.ntmps8
      go_wp2_with (first | (go_at_call 22; refine (hmay_any k c l true _).mono ?_; rw [HM.out]; rintro e w1 ⟨rfl, hK1⟩; obtain ⟨d0, d1, d2, d3⟩ := four_cells (hK1.blk hx (by simp))))
      go_ret2
      exact ⟨rfl, hK.trans hK1⟩
set_option maxRecDepth 100000 in
set_option maxHeartbeats 1600000 in
theorem omake_fits {sb tb : Nat} (k c l E : Int) (w : World) (h : Has w0 F0 (rawA hb sb tb ws kd ds) w) (hm : mayH k c l false = true) (hT : FitsT ds k c l E) (hE : E ≠ 0) (hl : ds.length ≤ 256) :
    Calls Try.prog 8 #[.pointer (some ⟨hb, 0, none⟩), .agg #[.int .i64 k, .int .i64 c, .int .i64 l, .bool false]] w fun e w' => e = .returned (.tuple #[.int .i64 0, .int .i64 E]) ∧ Keep [] w w' := by
  have hK := Keep.alloc [] w (.cells #[.int .i64 k, .int .i64 c, .int .i64 l, .bool false] 31)
  have hx := heap_alloc_new w (.cells #[.int .i64 k, .int .i64 c, .int .i64 l, .bool false] 31)
  obtain ⟨g0, g1, g2, g3⟩ := four_cells hx
  have HX := (show Hid (Has w0 F0 (rawA hb sb tb ws kd ds) (w.alloc (.cells #[.int .i64 k, .int .i64 c, .int .i64 l, .bool false] 31))) from h.keep0 hK)
  have HM := (show Hid (mayH k c l false = true) from hm)
  have HT := (show Hid (FitsT ds k c l E) from hT)
  have hd : (E == 0) = false := by simpa using hE
  clear hm h hT
  go_enter Try.func8, Try.ntmps8
  go_wp2_with (first | (go_at_call 22; refine (hmay_any k c l false _).mono ?_; rw [HM.out]; rintro e w1 ⟨rfl, hK1⟩; obtain ⟨d0, d1, d2, d3⟩ := four_cells (hK1.blk hx (by simp))) | (go_at_call 23; refine (ofits k c l E false _ (HX.out.keep0 hK1) HT.out hl).mono ?_; rintro e w2 ⟨rfl, hK2⟩))
  go_ret2
  exact ⟨rfl, (hK.trans hK1).trans hK2⟩

end

end Go.Proofs.Ytdpaffnpedcmpab
