/-
  Contracts of what the statement calls, one text behind the other (ObjMake, ObjNew, Clones, Queue, QueueOps, ObjList, ObjAll, ObjRoom, ChainM, QueueM).
-/
import Derived.Test.YtamcoejlghfleaaPart4
import Derived.Test.YtamcoejlghfleaaRows
import Derived.Test.YtamcoejlghfleaaPart2
import Derived.Shelf.Slices.Clone
import Derived.Deep.RegionLaw
import Derived.Deep.AppendLies

/-
  Package object: what fits, Make, Final and New answer and leave.
-/
namespace Go.Proofs.Ytamcoejlghfleaa
open Go.RowKit

theorem two_cells {w : World} {b : Nat} {t : TypeId} {a0 a1 : Value} (h : w.heap[b]? = some (.cells #[a0, a1] t (0, 0))) : w.cell? ⟨b, 0, none⟩ = some a0 ∧ w.cell? ⟨b, 1, none⟩ = some a1 := by
  refine ⟨?_, ?_⟩ <;> simp [World.cell?, h]
theorem two_free {w : World} {b : Nat} {t : TypeId} {a0 a1 : Value} (h : w.heap[b]? = some (.cells #[a0, a1] t (0, 0))) : w.frozen? ⟨b, 0, none⟩ = false ∧ w.frozen? ⟨b, 1, none⟩ = false := by
  refine ⟨?_, ?_⟩ <;> simp [World.frozen?, h]
theorem two_put {w : World} {b : Nat} {t : TypeId} {a0 a1 : Value} (h : w.heap[b]? = some (.cells #[a0, a1] t (0, 0))) (b0 b1 : Value) :
    ((w.setCell ⟨b, 0, none⟩ b0).setCell ⟨b, 1, none⟩ b1).heap[b]? = some (.cells #[b0, b1] t (0, 0)) ∧ Keep [b] w ((w.setCell ⟨b, 0, none⟩ b0).setCell ⟨b, 1, none⟩ b1) := by
  have z1 := heap_setCell_same w b 0 _ _ b0 h
  have z2 := heap_setCell_same _ b 1 _ _ b1 z1
  exact ⟨by simpa using z2, (Keep.setCell _ _ (by simp)).trans (Keep.setCell _ _ (by simp))⟩
section
variable {w0 : World} {F0 : List Nat} {hb : Nat} {ws : List Int} {kd : List PK} {ds : List (Int × List Int)}

set_option maxHeartbeats 1600000 in
theorem ofits_other (pv : Option Addr) (k c l : Int) (f : Bool) (w : World) (hk : k ≠ 1) :
    Calls Try.prog 40 #[.pointer pv, .agg #[.int .i64 k, .int .i64 c, .int .i64 l, .bool f]] w fun e w' => e = .returned (.int .i64 0) ∧ Keep [] w w' := by
  have hd : (k == 1) = false := by simpa using hk
  have hx := heap_alloc_new w (.cells #[.int .i64 k, .int .i64 c, .int .i64 l, .bool f] 48)
  obtain ⟨g0, g1, g2, g3⟩ := four_cells hx
  go_enter Try.func40, Try.ntmps40
  go_wp2_with fail
  go_ret
  exact ⟨rfl, Keep.alloc [] _ _⟩
set_option maxRecDepth 100000 in
set_option maxHeartbeats 1600000 in
theorem ofits_none {sb tb : Nat} (c l : Int) (f : Bool) (w : World) (h : Has w0 F0 (rawA hb sb tb ws kd ds) w) (hc : c < 1 ∨ (ds.length : Int) < c) :
    Calls Try.prog 40 #[.pointer (some ⟨hb, 0, none⟩), .agg #[.int .i64 1, .int .i64 c, .int .i64 l, .bool f]] w fun e w' => e = .returned (.int .i64 2) ∧ Keep [] w w' := by
  have hK := Keep.alloc [] w (.cells #[.int .i64 1, .int .i64 c, .int .i64 l, .bool f] 48)
  have hx := heap_alloc_new w (.cells #[.int .i64 1, .int .i64 c, .int .i64 l, .bool f] 48)
  have h1 := h.keep0 hK
  clear h
  obtain ⟨g0, g1, g2, g3⟩ := four_cells hx
  go_enter Try.func40, Try.ntmps40
  go_upto_region 3 with fail
  generalize w.alloc (.cells #[.int .i64 1, .int .i64 c, .int .i64 l, .bool f] 48) = w1 at *
  obtain ⟨c0, c1, _⟩ := h1.cells
  obtain ⟨F, hT⟩ := h1.tab
  have HT := (show Hid (∀ w', Keep [] w1 w' → IsTab w' tb F ds) from fun w' K => hT.keep K (by simp))
  have hKz := (Keep.alloc [] w1 (.cells #[.int .i64 0, .slice none 0 0] 105)).trans (Keep.drew [] _)
  obtain ⟨b0, b1, _⟩ := (h1.keep0 hKz).cells
  obtain ⟨d0, d1, d2, d3⟩ := four_cells (hKz.blk hx (by simp))
  have hn1 := World.new_ne _ _ c1
  have hn2 := World.new_ne _ _ g1
  clear h1 hT
  go_region_law (first | (go_simp; refine (tclass_no tb F ds c _ (HT.out _ (by first | exact Keep.drew [] _ | exact (Keep.alloc [] _ _).trans (Keep.drew [] _))) hc).mono ?_; rintro e w2 ⟨rfl, hK2⟩; have hKe : Keep [] w1 w2 := (by first | exact (Keep.drew [] _).trans hK2 | exact ((Keep.alloc [] _ _).trans (Keep.drew [] _)).trans hK2); obtain ⟨q0, q1, q2, q3⟩ := four_cells (hKe.blk hx (by simp)); have hn3 : w2.heap.size ≠ w.heap.size := World.new_ne _ _ q1; have hn4 := hn3.symm; try (have hz := hK2.blk (heap_alloc_new w1 (.cells #[.int .i64 0, .slice none 0 0] 105)) (by simp); obtain ⟨u0, u1⟩ := two_cells hz; obtain ⟨v0, v1⟩ := two_free hz)))
  all_goals first
    | (obtain ⟨hz1, hk4⟩ := two_put hz (.int .i64 0) (.slice none 0 0)
       have hxz := hk4.blk (hKe.blk hx (by simp)) (by simpa using hn2.symm)
       have hKf := hK.trans (((hKe.mono (T := [w1.heap.size]) (by simp)).trans hk4).drop (by simp))
       clear hk4 hz u0 u1 v0 v1
       generalize (w2.setCell ⟨w1.heap.size, 0, none⟩ (.int .i64 0)).setCell ⟨w1.heap.size, 1, none⟩ (.slice none 0 0) = wz at *)
    | (have hxz := (Keep.alloc [] w2 (.cells #[.int .i64 0, .slice none 0 0] 105)).blk (hKe.blk hx (by simp)) (by simp)
       have hz1 := heap_alloc_new w2 (.cells #[.int .i64 0, .slice none 0 0] 105)
       have hKf := (hK.trans hKe).trans (Keep.alloc [] w2 (.cells #[.int .i64 0, .slice none 0 0] 105))
       generalize w2.alloc (.cells #[.int .i64 0, .slice none 0 0] 105) = wz at *)
  all_goals (obtain ⟨r0, r1, r2, r3⟩ := four_cells hxz; obtain ⟨t0, t1⟩ := two_cells hz1; clear hxz hz1 q0 q1 q2 q3 hKe hK2)
  all_goals (go_wp2_with fail)
  all_goals go_ret
  all_goals exact ⟨rfl, hKf⟩
set_option maxRecDepth 100000 in
set_option maxHeartbeats 1600000 in
theorem ofits_arg {sb tb : Nat} (i : Nat) (c l n : Int) (f : Bool) (L : List Int) (w : World) (h : Has w0 F0 (rawA hb sb tb ws kd ds) w) (hc : c = (i : Int) + 1) (hi : ds[i]? = some (n, L)) (hl : ds.length ≤ 256) (hne : l ≠ n) :
    Calls Try.prog 40 #[.pointer (some ⟨hb, 0, none⟩), .agg #[.int .i64 1, .int .i64 c, .int .i64 l, .bool f]] w fun e w' => e = .returned (.int .i64 1) ∧ Keep [] w w' := by
  have HCI := (show Hid (c = (i : Int) + 1) from hc)
  have hd : (l == n) = false := by simpa using hne
  clear hc
  have hK := Keep.alloc [] w (.cells #[.int .i64 1, .int .i64 c, .int .i64 l, .bool f] 48)
  have hx := heap_alloc_new w (.cells #[.int .i64 1, .int .i64 c, .int .i64 l, .bool f] 48)
  have h1 := h.keep0 hK
  clear h
  obtain ⟨g0, g1, g2, g3⟩ := four_cells hx
  go_enter Try.func40, Try.ntmps40
  go_upto_region 3 with fail
  generalize w.alloc (.cells #[.int .i64 1, .int .i64 c, .int .i64 l, .bool f] 48) = w1 at *
  obtain ⟨c0, c1, _⟩ := h1.cells
  obtain ⟨F, hT⟩ := h1.tab
  have HT := (show Hid (∀ w', Keep [] w1 w' → IsTab w' tb F ds) from fun w' K => hT.keep K (by simp))
  have hKz := (Keep.alloc [] w1 (.cells #[.int .i64 0, .slice none 0 0] 105)).trans (Keep.drew [] _)
  obtain ⟨b0, b1, _⟩ := (h1.keep0 hKz).cells
  obtain ⟨d0, d1, d2, d3⟩ := four_cells (hKz.blk hx (by simp))
  have hn1 := World.new_ne _ _ c1
  have hn2 := World.new_ne _ _ g1
  clear h1 hT
  go_region_law (first | (go_simp; refine (tclass_at tb i F ds n c L _ (HT.out _ (by first | exact Keep.drew [] _ | exact (Keep.alloc [] _ _).trans (Keep.drew [] _))) hi (by omega) HCI.out).mono ?_; rintro e w2 ⟨la, lc, rfl, HG, hK2⟩; have hKe : Keep [] w1 w2 := (by first | exact (Keep.drew [] _).trans hK2 | exact ((Keep.alloc [] _ _).trans (Keep.drew [] _)).trans hK2); obtain ⟨q0, q1, q2, q3⟩ := four_cells (hKe.blk hx (by simp)); have hn3 : w2.heap.size ≠ w.heap.size := World.new_ne _ _ q1; have hn4 := hn3.symm; try (have hz := hK2.blk (heap_alloc_new w1 (.cells #[.int .i64 0, .slice none 0 0] 105)) (by simp); obtain ⟨u0, u1⟩ := two_cells hz; obtain ⟨v0, v1⟩ := two_free hz)))
  all_goals first
    | (obtain ⟨hz1, hk4⟩ := two_put hz (.int .i64 n) (.slice la L.length lc)
       have hxz := hk4.blk (hKe.blk hx (by simp)) (by simpa using hn2.symm)
       have hKf := hK.trans (((hKe.mono (T := [w1.heap.size]) (by simp)).trans hk4).drop (by simp))
       clear hk4 hz u0 u1 v0 v1
       generalize (w2.setCell ⟨w1.heap.size, 0, none⟩ (.int .i64 n)).setCell ⟨w1.heap.size, 1, none⟩ (.slice la L.length lc) = wz at *)
    | (have hxz := (Keep.alloc [] w2 (.cells #[.int .i64 n, .slice la L.length lc] 105)).blk (hKe.blk hx (by simp)) (by simp)
       have hz1 := heap_alloc_new w2 (.cells #[.int .i64 n, .slice la L.length lc] 105)
       have hKf := (hK.trans hKe).trans (Keep.alloc [] w2 (.cells #[.int .i64 n, .slice la L.length lc] 105))
       generalize w2.alloc (.cells #[.int .i64 n, .slice la L.length lc] 105) = wz at *)
  all_goals (obtain ⟨r0, r1, r2, r3⟩ := four_cells hxz; obtain ⟨t0, t1⟩ := two_cells hz1; clear hxz hz1 q0 q1 q2 q3 hKe hK2)
  all_goals (go_wp2_with fail)
  all_goals go_ret
  all_goals exact ⟨rfl, hKf⟩
set_option maxRecDepth 100000 in
set_option maxHeartbeats 1600000 in
theorem ofits_yes {sb tb : Nat} (i : Nat) (c l n : Int) (f : Bool) (L : List Int) (w : World) (h : Has w0 F0 (rawA hb sb tb ws kd ds) w) (hc : c = (i : Int) + 1) (hi : ds[i]? = some (n, L)) (hl : ds.length ≤ 256) (hne : l = n) :
    Calls Try.prog 40 #[.pointer (some ⟨hb, 0, none⟩), .agg #[.int .i64 1, .int .i64 c, .int .i64 l, .bool f]] w fun e w' => e = .returned (.int .i64 0) ∧ Keep [] w w' := by
  have HCI := (show Hid (c = (i : Int) + 1) from hc)
  subst hne
  clear hc
  have hK := Keep.alloc [] w (.cells #[.int .i64 1, .int .i64 c, .int .i64 l, .bool f] 48)
  have hx := heap_alloc_new w (.cells #[.int .i64 1, .int .i64 c, .int .i64 l, .bool f] 48)
  have h1 := h.keep0 hK
  clear h
  obtain ⟨g0, g1, g2, g3⟩ := four_cells hx
  go_enter Try.func40, Try.ntmps40
  go_upto_region 3 with fail
  generalize w.alloc (.cells #[.int .i64 1, .int .i64 c, .int .i64 l, .bool f] 48) = w1 at *
  obtain ⟨c0, c1, _⟩ := h1.cells
  obtain ⟨F, hT⟩ := h1.tab
  have HT := (show Hid (∀ w', Keep [] w1 w' → IsTab w' tb F ds) from fun w' K => hT.keep K (by simp))
  have hKz := (Keep.alloc [] w1 (.cells #[.int .i64 0, .slice none 0 0] 105)).trans (Keep.drew [] _)
  obtain ⟨b0, b1, _⟩ := (h1.keep0 hKz).cells
  obtain ⟨d0, d1, d2, d3⟩ := four_cells (hKz.blk hx (by simp))
  have hn1 := World.new_ne _ _ c1
  have hn2 := World.new_ne _ _ g1
  clear h1 hT
  go_region_law (first | (go_simp; refine (tclass_at tb i F ds l c L _ (HT.out _ (by first | exact Keep.drew [] _ | exact (Keep.alloc [] _ _).trans (Keep.drew [] _))) hi (by omega) HCI.out).mono ?_; rintro e w2 ⟨la, lc, rfl, HG, hK2⟩; have hKe : Keep [] w1 w2 := (by first | exact (Keep.drew [] _).trans hK2 | exact ((Keep.alloc [] _ _).trans (Keep.drew [] _)).trans hK2); obtain ⟨q0, q1, q2, q3⟩ := four_cells (hKe.blk hx (by simp)); have hn3 : w2.heap.size ≠ w.heap.size := World.new_ne _ _ q1; have hn4 := hn3.symm; try (have hz := hK2.blk (heap_alloc_new w1 (.cells #[.int .i64 0, .slice none 0 0] 105)) (by simp); obtain ⟨u0, u1⟩ := two_cells hz; obtain ⟨v0, v1⟩ := two_free hz)))
  all_goals first
    | (obtain ⟨hz1, hk4⟩ := two_put hz (.int .i64 l) (.slice la L.length lc)
       have hxz := hk4.blk (hKe.blk hx (by simp)) (by simpa using hn2.symm)
       have hKf := hK.trans (((hKe.mono (T := [w1.heap.size]) (by simp)).trans hk4).drop (by simp))
       clear hk4 hz u0 u1 v0 v1
       generalize (w2.setCell ⟨w1.heap.size, 0, none⟩ (.int .i64 l)).setCell ⟨w1.heap.size, 1, none⟩ (.slice la L.length lc) = wz at *)
    | (have hxz := (Keep.alloc [] w2 (.cells #[.int .i64 l, .slice la L.length lc] 105)).blk (hKe.blk hx (by simp)) (by simp)
       have hz1 := heap_alloc_new w2 (.cells #[.int .i64 l, .slice la L.length lc] 105)
       have hKf := (hK.trans hKe).trans (Keep.alloc [] w2 (.cells #[.int .i64 l, .slice la L.length lc] 105))
       generalize w2.alloc (.cells #[.int .i64 l, .slice la L.length lc] 105) = wz at *)
  all_goals (obtain ⟨r0, r1, r2, r3⟩ := four_cells hxz; obtain ⟨t0, t1⟩ := two_cells hz1; clear hxz hz1 q0 q1 q2 q3 hKe hK2)
  all_goals (go_wp2_with fail)
  all_goals go_ret
  all_goals exact ⟨rfl, hKf⟩
theorem ofits {sb tb : Nat} (k c l E : Int) (f : Bool) (w : World) (h : Has w0 F0 (rawA hb sb tb ws kd ds) w) (hT : FitsT ds k c l E) (hl : ds.length ≤ 256) :
    Calls Try.prog 40 #[.pointer (some ⟨hb, 0, none⟩), .agg #[.int .i64 k, .int .i64 c, .int .i64 l, .bool f]] w fun e w' => e = .returned (.int .i64 E) ∧ Keep [] w w' := by
  cases hT with
  | other hk => exact ofits_other _ k c l f w hk
  | none hk hc => subst hk; exact ofits_none c l f w h hc
  | arg i n L hk hc hi hne => subst hk; exact ofits_arg i c l n f L w h hc hi hl hne
  | yes i L hk hc hi => subst hk; exact ofits_yes i c l l f L w h hc hi hl rfl

/-! ### Make -/
set_option maxRecDepth 100000 in
set_option maxHeartbeats 1600000 in
theorem omake_nil (k c l : Int) (f : Bool) (w : World) :
    Calls Try.prog 23 #[.pointer none, .agg #[.int .i64 k, .int .i64 c, .int .i64 l, .bool f]] w fun e w' => e = .returned (.tuple #[.int .i64 0, .int .i64 2]) ∧ Keep [] w w' := by
  go_enter Try.func23, Try.ntmps23
  go_wp2_with fail
  go_ret2
  exact ⟨rfl, Keep.alloc [] _ _⟩
set_option maxRecDepth 100000 in
set_option maxHeartbeats 1600000 in
theorem omake_arg (k c l : Int) (f : Bool) (w : World) (hm : (mayH k c l f && !f) = false) :
    Calls Try.prog 23 #[.pointer (some ⟨hb, 0, none⟩), .agg #[.int .i64 k, .int .i64 c, .int .i64 l, .bool f]] w fun e w' => e = .returned (.tuple #[.int .i64 0, .int .i64 1]) ∧ Keep [] w w' := by
  have hK := Keep.alloc [] w (.cells #[.int .i64 k, .int .i64 c, .int .i64 l, .bool f] 48)
  have hx := heap_alloc_new w (.cells #[.int .i64 k, .int .i64 c, .int .i64 l, .bool f] 48)
  obtain ⟨g0, g1, g2, g3⟩ := four_cells hx
  cases hm1 : mayH k c l f
  · have HM := (show Hid (mayH k c l f = false) from hm1)
    clear hm hm1
    go_enter Try.func23, Try.ntmps23
    go_wp2_with (first | (go_at_call 39; refine (hmay_any k c l f _).mono ?_; rw [HM.out]; rintro e w1 ⟨rfl, hK1⟩))
    go_ret2
    exact ⟨rfl, hK.trans hK1⟩
  · cases f
    · rw [hm1] at hm; cases hm
    · have HM := (show Hid (mayH k c l true = true) from hm1)
      clear hm hm1
      go_enter Try.func23, Try.ntmps23
      go_wp2_with (first | (go_at_call 39; refine (hmay_any k c l true _).mono ?_; rw [HM.out]; rintro e w1 ⟨rfl, hK1⟩; obtain ⟨d0, d1, d2, d3⟩ := four_cells (hK1.blk hx (by simp))))
      go_ret2
      exact ⟨rfl, hK.trans hK1⟩
set_option maxRecDepth 100000 in
set_option maxHeartbeats 1600000 in
theorem omake_fits {sb tb : Nat} (k c l E : Int) (w : World) (h : Has w0 F0 (rawA hb sb tb ws kd ds) w) (hm : mayH k c l false = true) (hT : FitsT ds k c l E) (hE : E ≠ 0) (hl : ds.length ≤ 256) :
    Calls Try.prog 23 #[.pointer (some ⟨hb, 0, none⟩), .agg #[.int .i64 k, .int .i64 c, .int .i64 l, .bool false]] w fun e w' => e = .returned (.tuple #[.int .i64 0, .int .i64 E]) ∧ Keep [] w w' := by
  have hK := Keep.alloc [] w (.cells #[.int .i64 k, .int .i64 c, .int .i64 l, .bool false] 48)
  have hx := heap_alloc_new w (.cells #[.int .i64 k, .int .i64 c, .int .i64 l, .bool false] 48)
  obtain ⟨g0, g1, g2, g3⟩ := four_cells hx
  have HX := (show Hid (Has w0 F0 (rawA hb sb tb ws kd ds) (w.alloc (.cells #[.int .i64 k, .int .i64 c, .int .i64 l, .bool false] 48))) from h.keep0 hK)
  have HM := (show Hid (mayH k c l false = true) from hm)
  have HT := (show Hid (FitsT ds k c l E) from hT)
  have hd : (E == 0) = false := by simpa using hE
  clear hm h hT
  go_enter Try.func23, Try.ntmps23
  go_wp2_with (first | (go_at_call 39; refine (hmay_any k c l false _).mono ?_; rw [HM.out]; rintro e w1 ⟨rfl, hK1⟩; obtain ⟨d0, d1, d2, d3⟩ := four_cells (hK1.blk hx (by simp))) | (go_at_call 40; refine (ofits k c l E false _ (HX.out.keep0 hK1) HT.out hl).mono ?_; rintro e w2 ⟨rfl, hK2⟩))
  go_ret2
  exact ⟨rfl, (hK.trans hK1).trans hK2⟩

end

end Go.Proofs.Ytamcoejlghfleaa

/-
  Package object: what Make, Final and New answer and leave.
-/
namespace Go.Proofs.Ytamcoejlghfleaa
open Go.RowKit

section
variable {w0 : World} {F0 : List Nat} {hb : Nat} {ws : List Int} {kd : List PK} {ds : List (Int × List Int)}

set_option maxRecDepth 100000 in
set_option maxHeartbeats 1600000 in
theorem omake_full {sb tb : Nat} (k c l : Int) (w : World) (h : Has w0 F0 (rawA hb sb tb ws kd ds) w) (hw : WF kd) (hm : mayH k c l false = true) (hT : FitsT ds k c l 0) (hl : ds.length ≤ 256) (hr : AllocT kd ws (l + 1) 0 3 ws kd) :
    Calls Try.prog 23 #[.pointer (some ⟨hb, 0, none⟩), .agg #[.int .i64 k, .int .i64 c, .int .i64 l, .bool false]] w fun e w' => e = .returned (.tuple #[.int .i64 0, .int .i64 3]) ∧ Has w0 F0 (rawA hb sb tb ws kd ds) w' := by
  have hK := Keep.alloc [] w (.cells #[.int .i64 k, .int .i64 c, .int .i64 l, .bool false] 48)
  have hx := heap_alloc_new w (.cells #[.int .i64 k, .int .i64 c, .int .i64 l, .bool false] 48)
  obtain ⟨g0, g1, g2, g3⟩ := four_cells hx
  have HX := (show Hid (Has w0 F0 ((rawA hb sb tb ws kd ds).star (blockA w.heap.size (.cells #[.int .i64 k, .int .i64 c, .int .i64 l, .bool false] 48))) (w.alloc (.cells #[.int .i64 k, .int .i64 c, .int .i64 l, .bool false] 48))) from h.more hK ⟨rfl, hx⟩ (fun k hk => by simp at hk; omega))
  have HM := (show Hid (mayH k c l false = true) from hm)
  have HT := (show Hid (FitsT ds k c l 0) from hT)
  have hbd := mayH_bd hm
  have HR := (show Hid (AllocT kd ws (l + 1) 0 3 ws kd) from hr)
  have HWR := (show Hid (IntKind.i64.wrap (l + 1) = l + 1) from IntWalk.i64_in _ (by omega))
  clear hm h hT hr
  go_enter Try.func23, Try.ntmps23
  go_wp2_with (first | (go_at_call 39; refine (hmay_any k c l false _).mono ?_; rw [HM.out]; rintro e w1 ⟨rfl, hK1⟩; have hx1 := hK1.blk hx (by simp); obtain ⟨d0, d1, d2, d3⟩ := four_cells hx1) | (go_at_call 40; refine (ofits k c l 0 false _ (HX.out.fst.keep0 hK1) HT.out hl).mono ?_; rintro e w2 ⟨rfl, hK2⟩))
  have hx2 := hK2.blk hx1 (by simp)
  have hX2 := ((HX.out.keep0 hK1).keep0 hK2).keep0 (Keep.drew [] w2)
  obtain ⟨b0, b1, _⟩ := hX2.fst.cells
  have HX2 := (show Hid (Has w0 F0 ((rawA hb sb tb ws kd ds).star (blockA w.heap.size (.cells #[.int .i64 k, .int .i64 c, .int .i64 l, .bool false] 48))) w2.drew) from hX2)
  obtain ⟨p0, p1, p2, p3⟩ := four_cells ((Keep.drew [] w2).blk hx2 (by simp))
  clear hX2 hx hx1 hx2 hK hK1 hK2 d0 d1 d2 d3 g0 g1 g2 g3
  go_region_held3 (fun wz => wz.cell? ⟨hb, 0, none⟩ = some (.pointer (some ⟨sb, 0, none⟩)) ∧ wz.cell? ⟨w.heap.size, 2, none⟩ = some (.int .i64 l)) (go_keep) (first | (go_at_call 41; rw [HWR.out]; refine (has_left HX2.out (fun F hF => xalloc _ (l + 1) 0 3 ws kd hF hw HR.out)).mono ?_; rintro e w3 ⟨rfl, hX3⟩; have HX3 := (show Hid (Has w0 F0 ((rawA hb sb tb ws kd ds).star (blockA w.heap.size (.cells #[.int .i64 k, .int .i64 c, .int .i64 l, .bool false] 48))) w3) from hX3); obtain ⟨u0, u1, _⟩ := hX3.fst.cells; obtain ⟨v0, v1, v2, v3⟩ := four_cells (hX3.snd.fact (fun _ h => h.2)); clear hX3))
  go_wp2_with fail
  go_ret2
  exact ⟨rfl, HX3.out.fst⟩
set_option maxRecDepth 100000 in
set_option maxHeartbeats 1600000 in
theorem omake_yes {sb tb : Nat} (k c l : Int) (a : Nat) (ws' : List Int) (kd' : List PK) (w : World) (h : Has w0 F0 (rawA hb sb tb ws kd ds) w) (hw : WF kd) (hm : mayH k c l false = true) (hT : FitsT ds k c l 0) (hl : ds.length ≤ 256) (hr : AllocT kd ws (l + 1) a 0 ws' kd') (hlt : a < ws'.length) :
    Calls Try.prog 23 #[.pointer (some ⟨hb, 0, none⟩), .agg #[.int .i64 k, .int .i64 c, .int .i64 l, .bool false]] w fun e w' => e = .returned (.tuple #[.int .i64 a, .int .i64 0]) ∧ Has w0 F0 (rawA hb sb tb (ws'.set a (putH k c l false)) kd' ds) w' := by
  have hK := Keep.alloc [] w (.cells #[.int .i64 k, .int .i64 c, .int .i64 l, .bool false] 48)
  have hx := heap_alloc_new w (.cells #[.int .i64 k, .int .i64 c, .int .i64 l, .bool false] 48)
  obtain ⟨g0, g1, g2, g3⟩ := four_cells hx
  have HX := (show Hid (Has w0 F0 ((rawA hb sb tb ws kd ds).star (blockA w.heap.size (.cells #[.int .i64 k, .int .i64 c, .int .i64 l, .bool false] 48))) (w.alloc (.cells #[.int .i64 k, .int .i64 c, .int .i64 l, .bool false] 48))) from h.more hK ⟨rfl, hx⟩ (fun k hk => by simp at hk; omega))
  have HM := (show Hid (mayH k c l false = true) from hm)
  have HT := (show Hid (FitsT ds k c l 0) from hT)
  have hbd := mayH_bd hm
  have HR := (show Hid (AllocT kd ws (l + 1) a 0 ws' kd') from hr)
  have HWR := (show Hid (IntKind.i64.wrap (l + 1) = l + 1) from IntWalk.i64_in _ (by omega))
  clear hm h hT hr
  go_enter Try.func23, Try.ntmps23
  go_wp2_with (first | (go_at_call 39; refine (hmay_any k c l false _).mono ?_; rw [HM.out]; rintro e w1 ⟨rfl, hK1⟩; have hx1 := hK1.blk hx (by simp); obtain ⟨d0, d1, d2, d3⟩ := four_cells hx1) | (go_at_call 40; refine (ofits k c l 0 false _ (HX.out.fst.keep0 hK1) HT.out hl).mono ?_; rintro e w2 ⟨rfl, hK2⟩))
  have hx2 := hK2.blk hx1 (by simp)
  have hX2 := ((HX.out.keep0 hK1).keep0 hK2).keep0 (Keep.drew [] w2)
  obtain ⟨b0, b1, _⟩ := hX2.fst.cells
  have HX2 := (show Hid (Has w0 F0 ((rawA hb sb tb ws kd ds).star (blockA w.heap.size (.cells #[.int .i64 k, .int .i64 c, .int .i64 l, .bool false] 48))) w2.drew) from hX2)
  obtain ⟨p0, p1, p2, p3⟩ := four_cells ((Keep.drew [] w2).blk hx2 (by simp))
  clear hX2 hx hx1 hx2 hK hK1 hK2 d0 d1 d2 d3 g0 g1 g2 g3
  go_region_held3 (fun wz => wz.cell? ⟨hb, 0, none⟩ = some (.pointer (some ⟨sb, 0, none⟩)) ∧ wz.cell? ⟨w.heap.size, 2, none⟩ = some (.int .i64 l)) (go_keep) (first | (go_at_call 41; rw [HWR.out]; refine (has_left HX2.out (fun F hF => xalloc _ (l + 1) a 0 ws' kd' hF hw HR.out)).mono ?_; rintro e w3 ⟨rfl, hX3⟩; have HX3 := (show Hid (Has w0 F0 ((rawA hb sb tb ws' kd' ds).star (blockA w.heap.size (.cells #[.int .i64 k, .int .i64 c, .int .i64 l, .bool false] 48))) w3) from hX3); obtain ⟨u0, u1, _⟩ := hX3.fst.cells; obtain ⟨v0, v1, v2, v3⟩ := four_cells (hX3.snd.fact (fun _ h => h.2)); clear hX3))
  go_wp2_with (first | (go_at_call 42; refine (osethead a k c l false _ HX3.out.fst HM.out hlt).mono ?_; rintro e w4 ⟨rfl, hX4⟩))
  go_ret2
  exact ⟨rfl, hX4⟩
theorem omake (k c l N E : Int) (f : Bool) (ws' : List Int) (kd' : List PK) (w : World) (h : Has w0 F0 (heapA hb ws kd ds) w) (hT : MakeT kd ws ds k c l f N E ws' kd') :
    Calls Try.prog 23 #[.pointer (some ⟨hb, 0, none⟩), .agg #[.int .i64 k, .int .i64 c, .int .i64 l, .bool f]] w fun e w' => e = .returned (.tuple #[.int .i64 N, .int .i64 E]) ∧ Has w0 F0 (heapA hb ws' kd' ds) w' := by
  have hf := h.fine
  have hf' := (hT.fine hf).1
  obtain ⟨sb, tb, hr⟩ := h.raw
  cases hT with
  | arg hm => exact has_same h (omake_arg k c l f w hm)
  | fits E hm e hF hE => subst e; exact has_same h (omake_fits k c l E w hr hm hF hE hf.few)
  | full hm e hF hA =>
    subst e
    refine (omake_full k c l w hr hf.wf hm hF hf.few (.no (by have := mayH_bd hm; have := room_ge (l + 1) (by omega) (by omega); omega) hA)).mono ?_
    rintro e w' ⟨rfl, hX⟩
    exact ⟨rfl, hX.heap hf⟩
  | yes a b kd' hm e hF hA hb' =>
    subst e
    obtain ⟨b', hb2, h1, h2, h3, h4, h5, _⟩ := hA.spec hf.wf
    have hl := hf.len
    refine (omake_yes k c l a _ kd' w hr hf.wf hm hF hf.few (.yes a b kd' hA hb') ?_).mono ?_
    · rw [fill0_length _ _ _ (by omega)]; omega
    · rintro e w' ⟨rfl, hX⟩
      exact ⟨rfl, hX.heap hf'⟩

/-! ### Final -/
end

/-! ### New -/
set_option maxHeartbeats 1600000 in
theorem onew_no (n : Int) (w : World) (h : ¬ (1 ≤ n ∧ n ≤ 256)) :
    Calls Try.prog 21 #[.int .i64 n] w fun e w' => e = .returned (.tuple #[.pointer none, .int .i64 1]) ∧ Keep [] w w' := by
  have HN := (show Hid (¬ (1 ≤ n ∧ n ≤ 256)) from h)
  clear h
  go_enter Try.func21, Try.ntmps21
  go_wp2_with (first | (go_at_call 37; refine (snew_no n _ HN.out).mono ?_; rintro e w1 ⟨rfl, rfl⟩))
  go_ret2
  exact ⟨rfl, Keep.refl _ _⟩
set_option maxHeartbeats 1600000 in
theorem onew (n : Nat) (w : World) (h1 : 1 ≤ n) (h2 : n ≤ 256) :
    Calls Try.prog 21 #[.int .i64 n] w fun e w' => ∃ hb F, e = .returned (.tuple #[.pointer (some ⟨hb, 0, none⟩), .int .i64 0]) ∧ (heapA hb (zeros (64 * n)) (freshK n) []).at' w' F ∧ Keep [] w w' ∧ ∀ k, k ∈ F → w.heap.size ≤ k := by
  go_enter Try.func21, Try.ntmps21
  go_wp2_with (first | (go_at_call 37; refine (snew_ok n _ h1 h2).mono ?_; rintro e w1 ⟨sb, F, rfl, hS, hK1, hsb, hF⟩) | (go_at_call 38; refine (tnew _).mono ?_; rintro e w2 ⟨tb, rfl, hT, hK2, htb⟩))
  go_ret2
  have hlb := hT.lt tb (by simp)
  have hlF := hS.lt
  have hs1 := hK1.size
  have hs2 := hK2.size
  have hK3 := Keep.alloc [] w2 (.cells #[.pointer (some ⟨sb, 0, none⟩), .pointer (some ⟨tb, 0, none⟩)] 72)
  refine ⟨_, w2.heap.size :: (F ++ [tb]), rfl, ⟨⟨sb, tb, [w2.heap.size], F ++ [tb], by simp, ⟨rfl, heap_alloc_new w2 _⟩, ⟨F, [tb], by simp, (hS.keep0 hK2).keep0 hK3, hT.keep hK3 (by simp), ?_⟩, ?_⟩, Fine.fresh n h1 h2⟩, (hK1.trans hK2).trans hK3, ?_⟩
  · intro k hk
    have := hlF k hk
    simp; omega
  · intro k hk
    simp at hk
    subst hk
    simp only [List.mem_append, List.mem_singleton, not_or]
    exact ⟨fun e => by have := hlF _ e; omega, by omega⟩
  · intro k hk
    simp at hk
    rcases hk with rfl | hk | rfl
    · omega
    · exact hF k hk
    · omega
/-- A new heap, younger than all there was. -/
theorem onew_has (n : Nat) (w : World) (h1 : 1 ≤ n) (h2 : n ≤ 256) :
    Calls Try.prog 21 #[.int .i64 n] w fun e w' => ∃ hb, e = .returned (.tuple #[.pointer (some ⟨hb, 0, none⟩), .int .i64 0]) ∧ Has w [] (heapA hb (zeros (64 * n)) (freshK n) []) w' := by
  refine (onew n w h1 h2).mono ?_
  rintro e w' ⟨hb, F, rfl, hH, hK, hF⟩
  exact ⟨hb, rfl, F, hH, hK, fun k hk => .inr (hF k hk)⟩

end Go.Proofs.Ytamcoejlghfleaa

/-
  The library's Clone of a list of integers: what the shelf's contract says, in this program's numbers.
-/
namespace Go.Proofs.Ytamcoejlghfleaa
open Go.RowKit

/-- The numbers of slices.Clone and of what it calls. -/
def cloneN : Go.Shelf.Ren := ⟨fun | 15 => 31 | n => n, fun | 22 => 24 | 3 => 3 | 4 => 4 | n => n, fun | n => n⟩
theorem cloneN_lays : Go.Proofs.Lays2.n15 Try.prog cloneN := {
  mixed := by kernel_rfl
  f15 := Try.func31.trans (congrArg some (by kernel_rfl))
  t3 := Try.underlying3
  a3 := Try.isAgg3
  z3 := Try.sizeOf3
  v3 := Try.zeroValue3
  t4 := Try.underlying4
  a4 := Try.isAgg4
  z4 := Try.sizeOf4
  v4 := Try.zeroValue4
  t22 := Try.underlying24
  a22 := Try.isAgg24
  z22 := Try.sizeOf24
  v22 := Try.zeroValue24
  i3 := by kernel_rfl }
/-- A copy of a list, in memory that is new. -/
theorem lclone {n : Nat} {L : List Int} (la : Option Addr) (c : Nat) (w : World) (hA : IntsAt w la L) (hl : L.length = n) (hn : n ≤ 1000000) (hz : la = none → c = 0) :
    Calls Try.prog 31 #[.slice la n c] w fun e w' => ∃ v', e = .returned v' ∧ w'.ownsRow w.heap.size 3 1 v' n (ints L) ∧ Keep [] w w' := by
  subst hl
  cases la with
  | none =>
    have h0 : L = [] := by
      rcases Nat.eq_zero_or_pos L.length with h0 | h0
      · exact List.length_eq_zero_iff.1 h0
      · obtain ⟨_, _, e, _⟩ := hA.cells h0; cases e
    subst h0
    obtain rfl := hz rfl
    refine (Any.slices_Clone_int_nil cloneN_lays 0 0 w).mono ?_
    rintro e w' ⟨rfl, rfl⟩
    exact ⟨_, rfl, World.ownsRow_nil _ _ _ _, Keep.refl _ _⟩
  | some a =>
    rcases Nat.eq_zero_or_pos L.length with h0 | h0
    · obtain rfl : L = [] := List.length_eq_zero_iff.1 h0
      refine (Any.slices_Clone_int_zero cloneN_lays a c w).mono ?_
      rintro e w' ⟨v', rfl, h1, _, h3⟩
      exact ⟨v', rfl, h1, Keep.ofBelow h3 (Nat.le_refl _)⟩
    · obtain ⟨b, off, e, hb, hc⟩ := hA.cells h0
      cases e
      refine (Any.slices_Clone_int cloneN_lays b off L.length c L w (Nat.le_refl _) (by omega) (fun j hj => by rw [hc j hj]; simp)).mono ?_
      rintro e w' ⟨v', rfl, h1, _, h3⟩
      rw [List.take_of_length_le (Nat.le_refl _)] at h1
      exact ⟨v', rfl, h1, Keep.ofBelow h3 (Nat.le_refl _)⟩

end Go.Proofs.Ytamcoejlghfleaa

/-
  Package queue: what has, isRef, link, New, Queues, List answer and leave.
-/
namespace Go.Proofs.Ytamcoejlghfleaa
open Go.RowKit

def qhasB (n : Nat) (i : Int) : Bool := decide (0 ≤ i ∧ i < (n : Int))
theorem qhasB_yes {n : Nat} {i : Int} (h : 0 ≤ i ∧ i < (n : Int)) : qhasB n i = true := decide_eq_true h
theorem qhasB_no {n : Nat} {i : Int} (h : ¬ (0 ≤ i ∧ i < (n : Int))) : qhasB n i = false := decide_eq_false h

section
variable {w0 : World} {F0 : List Nat} {qb hb : Nat} {va : Option Addr} {vc : Nat} {ws : List Int} {kd : List PK} {ds : List (Int × List Int)} {Ls : List (List Int)}

set_option maxHeartbeats 1600000 in
theorem qhas (n : Nat) (i : Int) (w : World) (hc : w.cell? ⟨qb, 1, none⟩ = some (.slice va n vc)) :
    Calls Try.prog 28 #[.pointer (some ⟨qb, 0, none⟩), .int .i64 i] w fun e w' => e = .returned (.bool (qhasB n i)) ∧ w = w' := by
  by_cases h0 : 0 ≤ i
  · have d0 : decide (0 ≤ i) = true := decide_eq_true h0
    by_cases h1 : i < (n : Int)
    · have d1 : decide (i < (n : Int)) = true := decide_eq_true h1
      have HB := (show Hid (qhasB n i = true) from qhasB_yes ⟨h0, h1⟩)
      go_enter Try.func28, Try.ntmps28
      go_wp2_with fail
      go_ret
      rw [HB.out]; exact ⟨by simp, rfl⟩
    · have d1 : decide (i < (n : Int)) = false := decide_eq_false h1
      have HB := (show Hid (qhasB n i = false) from qhasB_no (by omega))
      go_enter Try.func28, Try.ntmps28
      go_wp2_with fail
      go_ret
      rw [HB.out]; exact ⟨by simp, rfl⟩
  · have d0 : decide (0 ≤ i) = false := decide_eq_false h0
    have HB := (show Hid (qhasB n i = false) from qhasB_no (by omega))
    go_enter Try.func28, Try.ntmps28
    go_wp2_with fail
    go_ret
    rw [HB.out]; exact ⟨by simp, rfl⟩
set_option maxHeartbeats 800000 in
theorem qhas_nil (i : Int) (w : World) :
    Calls Try.prog 28 #[.pointer none, .int .i64 i] w fun e w' => e = .returned (.bool false) ∧ w = w' := by
  go_enter Try.func28, Try.ntmps28
  go_wp2_with fail
  go_ret
  exact ⟨rfl, rfl⟩

set_option maxHeartbeats 1600000 in
theorem qisref (a k c l E : Int) (f : Bool) (w : World) (h : Has w0 F0 (heapA hb ws kd ds) w) (c0 : w.cell? ⟨qb, 0, none⟩ = some (.pointer (some ⟨hb, 0, none⟩))) (hT : HeadT kd ws a k c l f E) :
    Calls Try.prog 46 #[.pointer (some ⟨qb, 0, none⟩), .int .i64 a] w fun e w' => e = .returned (.bool (k == 4)) ∧ Keep [] w w' := by
  have HH := (show Hid (Has w0 F0 (heapA hb ws kd ds) w) from h)
  have HT := (show Hid (HeadT kd ws a k c l f E) from hT)
  clear h hT
  by_cases hk : k = 4
  · subst hk
    go_enter Try.func46, Try.ntmps46
    go_wp2_with (first | (go_at_call 19; refine (ohead a 4 c l E f _ HH.out HT.out).mono ?_; rintro e w1 ⟨rfl, hK1⟩; have hy := heap_alloc_new w1 (.cells #[.int .i64 4, .int .i64 c, .int .i64 l, .bool f] 48); obtain ⟨g0, g1, g2, g3⟩ := four_cells hy))
    go_ret
    exact ⟨by simp, hK1.trans (Keep.alloc [] _ _)⟩
  · have hd : (k == 4) = false := by simpa using hk
    go_enter Try.func46, Try.ntmps46
    go_wp2_with (first | (go_at_call 19; refine (ohead a k c l E f _ HH.out HT.out).mono ?_; rintro e w1 ⟨rfl, hK1⟩; have hy := heap_alloc_new w1 (.cells #[.int .i64 k, .int .i64 c, .int .i64 l, .bool f] 48); obtain ⟨g0, g1, g2, g3⟩ := four_cells hy))
    go_ret
    exact ⟨by simp [hd], hK1.trans (Keep.alloc [] _ _)⟩

set_option maxHeartbeats 1600000 in
theorem qlink {A : Asn} (a x : Int) (ws' : List Int) (w : World) (h : Has w0 F0 (A.star (heapA hb ws kd ds)) w) (c0 : w.cell? ⟨qb, 0, none⟩ = some (.pointer (some ⟨hb, 0, none⟩))) (hT : LinkT kd ws a x ws') (hx : inI x) :
    Calls Try.prog 29 #[.pointer (some ⟨qb, 0, none⟩), .int .i64 a, .int .i64 x] w fun e w' => e = .returned (.tuple #[]) ∧ Has w0 F0 (A.star (heapA hb ws' kd ds)) w' := by
  have HQ := (show Hid (Has w0 F0 (A.star (heapA hb ws kd ds)) w) from h)
  have HC := hid c0
  cases hT with
  | no k c l E f hH hk =>
    have HH := (show Hid (HeadT kd ws a k c l f E) from hH)
    have HD := (show Hid ((k == 4) = false) from by show _ = _; simpa using hk)
    clear h hH hk
    go_enter Try.func29, Try.ntmps29
    go_wp2_with (first | (go_at_call 46; refine (qisref a k c l E f _ HQ.out.snd HC.out HH.out).mono ?_; rw [HD.out]; rintro e w1 ⟨rfl, hK1⟩))
    go_end0
    exact ⟨rfl, HQ.out.keep0 hK1⟩
  | yes b m c l E f ws' hA hP =>
    have HH := (show Hid (HeadT kd ws a 4 c l f 0) from .yes b m 4 c l f hA)
    have HP := (show Hid (PutT kd ws a 2 x E ws') from hP)
    clear h hA hP
    go_enter Try.func29, Try.ntmps29
    go_wp2_with (first | (go_at_call 46; refine (qisref a 4 c l 0 f _ HQ.out.snd HC.out HH.out).mono ?_; rintro e w1 ⟨rfl, hK1⟩; have c1 := (hK1.cell (lt_of_cell2' c0) (by simp) 0).trans c0) | (go_at_call 26; go_loud (refine (has_right (HQ.out.keep0 hK1) (fun F hF => oput a 2 x E ws' _ hF HP.out hx)).mono ?_; rintro e w2 ⟨rfl, hQ2⟩)))
    go_end0
    exact ⟨rfl, hQ2⟩

set_option maxHeartbeats 1600000 in
theorem qnew (w : World) (h : Has w0 F0 (heapA hb ws kd ds) w) :
    Calls Try.prog 34 #[.pointer (some ⟨hb, 0, none⟩)] w fun e w' => ∃ qb, e = .returned (.pointer (some ⟨qb, 0, none⟩)) ∧ Has w0 F0 (queueA qb hb ws kd ds []) w' := by
  have HH := (show Hid (Has w0 F0 (heapA hb ws kd ds) w) from h)
  clear h
  go_enter Try.func34, Try.ntmps34
  go_wp2_with fail
  go_ret
  have h1 := (HH.out.newB (qObj hb none 0 0)).llNew
  exact ⟨_, rfl, (h1.assoc.comm).queue ⟨by simp, by simp⟩⟩
set_option maxHeartbeats 800000 in
theorem qnew_nil (w : World) :
    Calls Try.prog 34 #[.pointer none] w fun e w' => e = .returned (.pointer none) ∧ w = w' := by
  go_enter Try.func34, Try.ntmps34
  go_wp2_with fail
  go_ret
  exact ⟨rfl, rfl⟩
set_option maxHeartbeats 800000 in
theorem qqueues (w : World) (h : Has w0 F0 (queueA qb hb ws kd ds Ls) w) :
    Calls Try.prog 43 #[.pointer (some ⟨qb, 0, none⟩)] w fun e w' => e = .returned (.int .i64 (Ls.length : Int)) ∧ w = w' := by
  obtain ⟨va, vc, hr⟩ := h.qraw
  obtain ⟨_, c1, _⟩ := hr.qcells
  obtain ⟨n, hn⟩ : ∃ n, Ls.length = n := ⟨_, rfl⟩
  rw [hn] at c1 ⊢
  clear h hr hn
  go_enter Try.func43, Try.ntmps43
  go_wp2_with fail
  go_ret
  exact ⟨rfl, rfl⟩
set_option maxHeartbeats 800000 in
theorem qqueues_nil (w : World) :
    Calls Try.prog 43 #[.pointer none] w fun e w' => e = .returned (.int .i64 0) ∧ w = w' := by
  go_enter Try.func43, Try.ntmps43
  go_wp2_with fail
  go_ret
  exact ⟨rfl, rfl⟩

set_option maxHeartbeats 1600000 in
theorem qlist_no (i : Int) (w : World) (h : Has w0 F0 (queueA qb hb ws kd ds Ls) w) (hi : ¬ IsQ Ls i) :
    Calls Try.prog 14 #[.pointer (some ⟨qb, 0, none⟩), .int .i64 i] w fun e w' => e = .returned (.tuple #[.slice none 0 0, .int .i64 2]) ∧ w = w' := by
  obtain ⟨va, vc, hr⟩ := h.qraw
  obtain ⟨_, c1, _⟩ := hr.qcells
  have HB := (show Hid (qhasB Ls.length i = false) from qhasB_no hi)
  have HC := (show Hid (w.cell? ⟨qb, 1, none⟩ = some (.slice va Ls.length vc)) from c1)
  clear h hr hi c1
  go_enter Try.func14, Try.ntmps14
  go_wp2_with (first | (go_at_call 28; refine (qhas _ i _ HC.out).mono ?_; rw [HB.out]; rintro e w1 ⟨rfl, rfl⟩))
  go_ret2
  exact ⟨rfl, rfl⟩
set_option maxHeartbeats 1600000 in
theorem qlist_yes (j : Nat) (L : List Int) (w : World) (h : Has w0 F0 (queueA qb hb ws kd ds Ls) w) (hL : Ls[j]? = some L) :
    Calls Try.prog 14 #[.pointer (some ⟨qb, 0, none⟩), .int .i64 j] w fun e w' => ∃ la lc, e = .returned (.tuple #[.slice la L.length lc, .int .i64 0]) ∧ w'.ownsRow w.heap.size 3 1 (.slice la L.length lc) L.length (ints L) ∧ Keep [] w w' := by
  obtain ⟨va, vc, hr⟩ := h.qraw
  obtain ⟨_, c1, _⟩ := hr.qcells
  have hj : j < Ls.length := by
    rcases Nat.lt_or_ge j Ls.length with e | e
    · exact e
    · rw [List.getElem?_eq_none e] at hL; cases hL
  have hq := h.qok
  have HB := (show Hid (qhasB Ls.length j = true) from qhasB_yes (by omega))
  obtain ⟨b, v, rfl, c2, _, hm, _⟩ := hr.fst.snd.llCell hL
  obtain ⟨la, c, rfl⟩ := hm.form
  obtain ⟨hLb, hLr⟩ := hq.2 L (List.mem_of_getElem? hL)
  obtain ⟨hI, _, hz, _⟩ := hm.ints hLr
  have HI := (show Hid (IntsAt w la L) from hI)
  have HZ := (show Hid (la = none → c = 0) from hz)
  obtain ⟨n, hn⟩ : ∃ n, Ls.length = n := ⟨_, rfl⟩
  rw [hn] at c1 hj HB
  obtain ⟨q, hq'⟩ : ∃ q, L.length = q := ⟨_, rfl⟩
  have HN := (show Hid (L.length = q) from hq')
  rw [hq'] at c2 hLb ⊢
  have HC := (show Hid (w.cell? ⟨qb, 1, none⟩ = some (.slice (some ⟨b, 0, none⟩) n vc)) from c1)
  clear h hr hL hm hI hLr hz hq hn hq'
  go_enter Try.func14, Try.ntmps14
  go_wp2_with (first | (go_at_call 28; refine (qhas _ j _ HC.out).mono ?_; rw [HB.out]; rintro e w1 ⟨rfl, rfl⟩) | (go_at_call 31; refine (lclone la c _ HI.out HN.out hLb HZ.out).mono ?_; rintro e w2 ⟨v', rfl, hown, hK⟩))
  go_ret2
  have hf : ∃ la' lc', v' = .slice la' q lc' := by
    rcases hown.2 with ⟨e, e0⟩ | ⟨g, cap, cur, e, _⟩
    · subst e0; exact ⟨_, _, e⟩
    · exact ⟨_, _, e⟩
  obtain ⟨la', lc', rfl⟩ := hf
  exact ⟨la', lc', rfl, hown, hK⟩
set_option maxHeartbeats 800000 in
theorem qlist_nil (i : Int) (w : World) :
    Calls Try.prog 14 #[.pointer none, .int .i64 i] w fun e w' => e = .returned (.tuple #[.slice none 0 0, .int .i64 2]) ∧ w = w' := by
  go_enter Try.func14, Try.ntmps14
  go_wp2_with (first | (go_at_call 28; refine (qhas_nil i _).mono ?_; rintro e w1 ⟨rfl, rfl⟩))
  go_ret2
  exact ⟨rfl, rfl⟩
end

end Go.Proofs.Ytamcoejlghfleaa

/-
  Package queue: what Open, Push and Poll answer and leave.
-/
namespace Go.Proofs.Ytamcoejlghfleaa
open Go.RowKit

theorem Try.infoIntQ : (Try.prog.info? 3).map (fun i => (i.zero, i.size, i.bytes)) = some (some (.int .i64 0), 1, 8) := by kernel_rfl
theorem Try.infoRowQ : (Try.prog.info? 24).map (fun i => (i.zero, i.size, i.bytes)) = some (some (.slice none 0 0), 1, 24) := by kernel_rfl

section
variable {w0 : World} {F0 : List Nat} {qb hb : Nat} {va : Option Addr} {vc : Nat} {ws : List Int} {kd : List PK} {ds : List (Int × List Int)} {Ls : List (List Int)}

set_option maxHeartbeats 1600000 in
theorem qopen_full (w : World) (h : Has w0 F0 (queueA qb hb ws kd ds Ls) w) (hf : 8 ≤ Ls.length) :
    Calls Try.prog 24 #[.pointer (some ⟨qb, 0, none⟩)] w fun e w' => e = .returned (.tuple #[.int .i64 0, .int .i64 3]) ∧ w = w' := by
  obtain ⟨va, vc, hr⟩ := h.qraw
  obtain ⟨_, c1, _⟩ := hr.qcells
  obtain ⟨n, hn⟩ : ∃ n, Ls.length = n := ⟨_, rfl⟩
  rw [hn] at c1 hf
  have hd : decide ((8 : Int) ≤ (n : Int)) = true := decide_eq_true (by omega)
  clear h hr hn
  go_enter Try.func24, Try.ntmps24
  go_wp2_with fail
  go_ret2
  exact ⟨rfl, rfl⟩
set_option maxHeartbeats 800000 in
theorem qopen_nil (w : World) :
    Calls Try.prog 24 #[.pointer none] w fun e w' => e = .returned (.tuple #[.int .i64 0, .int .i64 2]) ∧ w = w' := by
  go_enter Try.func24, Try.ntmps24
  go_wp2_with fail
  go_ret2
  exact ⟨rfl, rfl⟩
theorem QOK.more (h : QOK Ls) (hf : Ls.length < 8) : QOK (Ls ++ [[]]) := by
  refine ⟨by simp; omega, fun L hL => ?_⟩
  rcases List.mem_append.1 hL with e | e
  · exact h.2 L e
  · simp at e
    subst e
    exact ⟨by simp, fun i => by simp⟩
set_option maxHeartbeats 1600000 in
theorem qopen_yes (w : World) (h : Has w0 F0 (queueA qb hb ws kd ds Ls) w) (hf : Ls.length < 8) :
    Calls Try.prog 24 #[.pointer (some ⟨qb, 0, none⟩)] w fun e w' => e = .returned (.tuple #[.int .i64 (Ls.length : Int), .int .i64 0]) ∧ Has w0 F0 (queueA qb hb ws kd ds (Ls ++ [[]])) w' := by
  obtain ⟨i0, hi, hz0, hz1, hz2⟩ := info_parts Try.infoRowQ
  have hI : Hid (Try.prog.info? 24 = some i0 ∧ i0.zero = some (.slice none 0 0) ∧ i0.size = 1 ∧ i0.bytes = 24) := ⟨hi, hz0, hz1, hz2⟩
  clear hi hz0 hz1 hz2
  have HQ := (show Hid (QOK (Ls ++ [[]])) from h.qok.more hf)
  obtain ⟨va, vc, hr⟩ := h.qraw
  obtain ⟨_, c1, f1⟩ := hr.qcells
  have hx := hr.swap
  obtain ⟨vs, hv1, hv2, hv3, hv4⟩ := hx.llOwn
  have HX := (show Hid (Has w0 F0 (((blockA qb (qObj hb va Ls.length vc)).star (heapA hb ws kd ds)).star (llA va vc Ls)) w) from hx)
  have HV2 := (show Hid (∀ o, (w.alloc o).ownsRow 0 24 1 (.slice va Ls.length vc) Ls.length vs) from fun o => hv2.alloc o)
  obtain ⟨n, hn⟩ : ∃ n, Ls.length = n := ⟨_, rfl⟩
  have HN := (show Hid (Ls.length = n) from hn)
  rw [hn] at c1 hf hv4 HV2 ⊢
  have HV4 := hid hv4
  have hne : ∀ a, va = some a → a.block ≠ qb := hx.llNe
  have hd : decide ((8 : Int) ≤ (n : Int)) = false := decide_eq_false (by omega)
  clear h hx hr hv1 hv2 hv3 hv4 hn
  go_enter Try.func24, Try.ntmps24
  go_wp2_with (first | (at_builtin; refine wpList_append_lies _ rfl (.tmp 18) (.tmp 19) 61 rfl 0 24 i0 (.slice none 0 0) 1 24 Try.underlying61 hI.out.1 hI.out.2.1 hI.out.2.2.1 hI.out.2.2.2 rfl (by decide) (.slice va n vc) n vs rfl (HV2.out _) ⟨w.heap.size, 0, none⟩ 1 1 [.slice none 0 0] rfl rfl (World.news_of_block (heap_alloc_new w _)) (by intro u hu; simp at hu; subst hu; rfl) (by omega) (by unfold maxLen; omega) (by omega) (by omega) (w.heap.size + 1) (by simp) ?_; intro g cap w4 hown hgrow hat hlt; have hK4 : Keep (va.toList.map (·.block)) w w4 := (((Keep.alloc [] w _).mono (by simp)).trans (grown_keep hgrow)); have HX4 := hid (HV4.out w4 g cap (w.heap.size + 1) hown hK4 hat (by omega) hlt); obtain ⟨hc4, hf4⟩ := blk_far HX4.out.fst.fst))
  go_ret2
  have h4 := HX4.out.assoc
  have hb4 : w4.heap[qb]? = some (qObj hb va n vc) := h4.fst.fact (fun _ h => h.2)
  have hb5 := heap_setCell_same w4 qb 1 _ _ (.slice (some ⟨g, 0, none⟩) (n + 1) cap) hb4
  have h5 := (h4.setB (o' := qObj hb (some ⟨g, 0, none⟩) (n + 1) cap) (Keep.setCell (S := [qb]) w4 (a := ⟨qb, 1, none⟩) (.slice (some ⟨g, 0, none⟩) (n + 1) cap) (by simp)) (by simpa [qObj] using hb5)).assoc'.swap
  refine ⟨rfl, Has.queue (va := some ⟨g, 0, none⟩) (vc := cap) ?_ HQ.out⟩
  unfold queueR
  rw [List.length_append, HN.out]
  exact h5

theorem isQ_j {j : Nat} {L : List Int} (h : Ls[j]? = some L) : j < Ls.length := by
  rcases Nat.lt_or_ge j Ls.length with e | e
  · exact e
  · rw [List.getElem?_eq_none e] at h; cases h
set_option maxHeartbeats 1600000 in
theorem qpush_none (i a : Int) (w : World) (h : Has w0 F0 (queueA qb hb ws kd ds Ls) w) (hi : ¬ IsQ Ls i) :
    Calls Try.prog 27 #[.pointer (some ⟨qb, 0, none⟩), .int .i64 i, .int .i64 a] w fun e w' => e = .returned (.int .i64 2) ∧ w = w' := by
  obtain ⟨va, vc, hr⟩ := h.qraw
  obtain ⟨_, c1, _⟩ := hr.qcells
  have HB := (show Hid (qhasB Ls.length i = false) from qhasB_no hi)
  have HC := (show Hid (w.cell? ⟨qb, 1, none⟩ = some (.slice va Ls.length vc)) from c1)
  clear h hr hi c1
  go_enter Try.func27, Try.ntmps27
  go_wp2_with (first | (go_at_call 28; refine (qhas _ i _ HC.out).mono ?_; rw [HB.out]; rintro e w1 ⟨rfl, rfl⟩))
  go_ret
  exact ⟨rfl, rfl⟩
set_option maxHeartbeats 800000 in
theorem qpush_nil (i a : Int) (w : World) :
    Calls Try.prog 27 #[.pointer none, .int .i64 i, .int .i64 a] w fun e w' => e = .returned (.int .i64 2) ∧ w = w' := by
  go_enter Try.func27, Try.ntmps27
  go_wp2_with (first | (go_at_call 28; refine (qhas_nil i _).mono ?_; rintro e w1 ⟨rfl, rfl⟩))
  go_ret
  exact ⟨rfl, rfl⟩
set_option maxHeartbeats 1600000 in
theorem qpush_kind (i a k c l E : Int) (f : Bool) (w : World) (h : Has w0 F0 (queueA qb hb ws kd ds Ls) w) (hi : IsQ Ls i) (hT : HeadT kd ws a k c l f E) (hk : k ≠ 4) :
    Calls Try.prog 27 #[.pointer (some ⟨qb, 0, none⟩), .int .i64 i, .int .i64 a] w fun e w' => e = .returned (.int .i64 5) ∧ Keep [] w w' := by
  obtain ⟨va, vc, hr⟩ := h.qraw
  obtain ⟨c0, c1, _⟩ := hr.qcells
  have HB := (show Hid (qhasB Ls.length i = true) from qhasB_yes hi)
  have HC := (show Hid (w.cell? ⟨qb, 1, none⟩ = some (.slice va Ls.length vc)) from c1)
  have HT := hid hT
  have HK := (show Hid ((k == 4) = false) from by show _ = _; simpa using hk)
  have HH := hid h.qheap
  have HC0 := hid c0
  clear h hr hi c1 c0 hT hk
  go_enter Try.func27, Try.ntmps27
  go_wp2_with (first | (go_at_call 28; refine (qhas _ i _ HC.out).mono ?_; rw [HB.out]; rintro e w1 ⟨rfl, rfl⟩) | (go_at_call 46; refine (qisref a k c l E f _ HH.out HC0.out HT.out).mono ?_; rw [HK.out]; rintro e w1 ⟨rfl, hK1⟩))
  go_ret
  exact ⟨rfl, hK1⟩

set_option maxRecDepth 100000 in
set_option maxHeartbeats 3200000 in
theorem qpush_first (j b m : Nat) (a c l : Int) (f : Bool) (ws' : List Int) (w : World) (h : Has w0 F0 (queueA qb hb ws kd ds Ls) w) (hL : Ls[j]? = some []) (hA : At kd ws a b m 4 c l f) (hT : LinkT kd ws a 0 ws') (hx : inI a) :
    Calls Try.prog 27 #[.pointer (some ⟨qb, 0, none⟩), .int .i64 j, .int .i64 a] w fun e w' => e = .returned (.int .i64 0) ∧ Has w0 F0 (queueA qb hb ws' kd ds (Ls.set j [a])) w' := by
  obtain ⟨i0, hi, hz0, hz1, hz2⟩ := info_parts Try.infoIntQ
  have hI : Hid (Try.prog.info? 3 = some i0 ∧ i0.zero = some (.int .i64 0) ∧ i0.size = 1 ∧ i0.bytes = 8) := ⟨hi, hz0, hz1, hz2⟩
  clear hi hz0 hz1 hz2
  have hj := isQ_j hL
  have HQ := (show Hid (QOK (Ls.set j [a])) from h.qok.set j (by simp) (fun i => by rcases i with _ | i <;> simp; exact hx))
  obtain ⟨va, vc, hr⟩ := h.qraw
  obtain ⟨c0, c1, _⟩ := hr.qcells
  have HB := (show Hid (qhasB Ls.length j = true) from qhasB_yes (by omega))
  have HL := hid hL
  have HJ := hid hj
  obtain ⟨bb, v, rfl, c2, _, hm, n1, n2, n3, hp⟩ := hr.qrow hL
  obtain ⟨la, cc, rfl⟩ := hm.form
  have HP := hid hp
  have HH := hid h.qheap
  have HT := hid hT
  have HT0 := (show Hid (HeadT kd ws a 4 c l f 0) from .yes b m 4 c l f hA)
  obtain ⟨n, hn⟩ : ∃ n, Ls.length = n := ⟨_, rfl⟩
  rw [hn] at c1 hj HB
  rw [List.length_nil] at c2
  have HC := hid c1
  have HC0 := hid c0
  have HN := hid hn
  clear h hr hL hm hp hT hA hn
  go_enter Try.func27, Try.ntmps27
  go_upto_region 10 with (first | (go_at_call 28; refine (qhas _ j _ HC.out).mono ?_; rw [HB.out]; rintro e w1 ⟨rfl, rfl⟩) | (go_at_call 46; refine (qisref a 4 c l 0 f _ HH.out HC0.out HT0.out).mono ?_; rintro e w1 ⟨rfl, hK1⟩; have c1a := (hK1.cell (lt_of_cell2' c1) (by simp) 1).trans c1; have c2a := (hK1.cell (lt_of_cell2' c2) (by simp) j).trans c2; have c0a := (hK1.cell (lt_of_cell2' c0) (by simp) 0).trans c0) | (go_at_call 29; refine (qlink a 0 ws' _ (HP.out.keep0 hK1) c0a HT.out inI_0).mono ?_; rintro e w3 ⟨rfl, hP3⟩))
  obtain ⟨hr3, c23⟩ := hP3.unpin
  have HR3 := (show Hid (Has w0 F0 (queueR qb hb (some ⟨bb, 0, none⟩) vc ws' kd ds Ls) w3) from hr3)
  obtain ⟨_, c13, _⟩ := HR3.out.qcells
  obtain ⟨f3, hm3, m1, m2, _⟩ := HR3.out.qrowAt HL.out c23
  have HM := (show Hid (∀ w', Keep [] w3 w' → IsMid w' 3 (.slice la 0 cc) []) from fun w' K => hm3.keep K (by simp))
  have HM1 := (show Hid (bb ∉ (Value.slice la 0 cc).ownBlock.toList ∧ qb ∉ (Value.slice la 0 cc).ownBlock.toList) from ⟨fun e => m1 (by simpa using e), fun e => m2 (by simpa using e)⟩)
  have hl1 := lt_of_cell2' c13
  have hl2 := lt_of_cell2' c23
  rw [HN.out] at c13
  have c13a : ∀ o, (w3.drew.alloc o).cell? ⟨qb, 1, none⟩ = some (.slice (some ⟨bb, 0, none⟩) n vc) := fun o => ((Keep.alloc [] w3.drew o).cell hl1 (by simp) 1).trans c13
  have c23a : ∀ o, (w3.drew.alloc o).cell? ⟨bb, j, none⟩ = some (.slice la 0 cc) := fun o => ((Keep.alloc [] w3.drew o).cell hl2 (by simp) j).trans c23
  clear hm3 m1 m2 hP3 hr3 n1 n2 HP HT HT0 HH HC HC0 HB c0 c1 c2 hK1 c0a c1a c2a
  go_region_law (first | (refine step_append_mid _ rfl (.tmp 44) (.tmp 46) 24 rfl 3 i0 Try.underlying24 hI.out (.slice la 0 cc) [] rfl (HM.out _ (by first | exact (Keep.drew [] _).trans (Keep.alloc [] _ _) | exact (Keep.alloc [] _ _).trans (Keep.drew [] _))) w3.heap.size a 1 rfl (cell_of_one (heap_alloc_new _ _)) (by simp) ?_; intro v5 w5 hm5 hk5 hb5; obtain ⟨l5, c5, rfl⟩ := hm5.form; have hK5 : Keep (Value.slice la 0 cc).ownBlock.toList w3 w5 := ((by first | exact (Keep.drew _ _).trans (Keep.alloc _ _ _) | exact (Keep.alloc _ _ _).trans (Keep.drew _ _)) : Keep (Value.slice la 0 cc).ownBlock.toList w3 _).trans hk5; have HB5 := (show Hid (∀ k, (Value.slice l5 _ c5).ownBlock = some k → (Value.slice la 0 cc).ownBlock = some k ∨ w3.heap.size ≤ k) from fun k e => (hb5 k e).imp id (fun g => by simp at g; omega)); have c15 := (hK5.cell hl1 HM1.out.2 1).trans c13; have c25 := (hK5.cell hl2 HM1.out.1 j).trans c23; have f25 := (World.frozen?_of_block (w := w3) (a := ⟨bb, j, none⟩) (hK5.block bb hl2 HM1.out.1)).trans f3; have HM5 := hid hm5; have HK5 := hid hK5; clear hm5 hk5 hb5 hK5))
  all_goals (go_wp2_with fail)
  all_goals go_ret
  all_goals exact ⟨rfl, Has.queue (HR3.out.qput HJ.out c23 HM5.out HK5.out HB5.out) HQ.out⟩
set_option maxRecDepth 100000 in
set_option maxHeartbeats 3200000 in
theorem qpush_more (j b m : Nat) (a c l y : Int) (f : Bool) (L : List Int) (ws1 ws' : List Int) (w : World) (h : Has w0 F0 (queueA qb hb ws kd ds Ls) w) (hL : Ls[j]? = some (L ++ [y])) (hA : At kd ws a b m 4 c l f) (hS : LinkT kd ws y a ws1) (hT : LinkT kd ws1 a 0 ws') (hl : L.length < 999999) (hx : inI a) :
    Calls Try.prog 27 #[.pointer (some ⟨qb, 0, none⟩), .int .i64 j, .int .i64 a] w fun e w' => e = .returned (.int .i64 0) ∧ Has w0 F0 (queueA qb hb ws' kd ds (Ls.set j (L ++ [y] ++ [a]))) w' := by
  obtain ⟨i0, hi, hz0, hz1, hz2⟩ := info_parts Try.infoIntQ
  have hI : Hid (Try.prog.info? 3 = some i0 ∧ i0.zero = some (.int .i64 0) ∧ i0.size = 1 ∧ i0.bytes = 8) := ⟨hi, hz0, hz1, hz2⟩
  clear hi hz0 hz1 hz2
  have hj := isQ_j hL
  have HQ := (show Hid (QOK (Ls.set j (L ++ [y] ++ [a]))) from h.qok.set j (by simp; omega) (app_bd ((h.qok.2 _ (List.mem_of_getElem? hL)).2) hx.1 hx.2))
  obtain ⟨va, vc, hr⟩ := h.qraw
  obtain ⟨c0, c1, _⟩ := hr.qcells
  have HB := (show Hid (qhasB Ls.length j = true) from qhasB_yes (by omega))
  have HL := hid hL
  have HJ := hid hj
  obtain ⟨bb, v, rfl, c2, _, hm, n1, n2, n3, hp⟩ := hr.qrow hL
  have hLr := (h.qok.2 _ (List.mem_of_getElem? hL)).2
  obtain ⟨lq, cc, rfl⟩ := hm.form
  obtain ⟨hI2, _, _, _⟩ := hm.ints hLr
  obtain ⟨lg, lo, rfl, hlg, hcs⟩ := hI2.cells (by simp)
  have hcy := hcs L.length (by simp)
  rw [snoc_new L y L.length rfl] at hcy
  have hy : inI y := by have := hLr L.length; rw [snoc_new L y L.length rfl] at this; exact this
  obtain ⟨q, hq⟩ : ∃ q, L.length = q := ⟨_, rfl⟩
  obtain ⟨p, hp0⟩ : ∃ p, (L ++ [y]).length = p := ⟨_, rfl⟩
  have hpq : q < p := by rw [← hp0, List.length_append, hq]; simp
  have hp1 : (p : Int) - 1 = (q : Int) := by rw [← hp0, List.length_append, hq]; simp
  have hp2 : p ≤ 1000000 := by rw [← hp0, List.length_append]; simp; omega
  have hdp : decide (0 < p) = true := decide_eq_true (by omega)
  have HPL := (show Hid ((L ++ [y]).length = p) from hp0)
  rw [hq] at hcy
  rw [hp0] at c2 hp n1 n2 hm
  have HP := hid hp
  have HH := hid h.qheap
  have HT := hid hT
  have HT0 := (show Hid (HeadT kd ws a 4 c l f 0) from .yes b m 4 c l f hA)
  obtain ⟨n, hn⟩ : ∃ n, Ls.length = n := ⟨_, rfl⟩
  rw [hn] at c1 hj HB
  have HS := hid hS
  have HC := hid c1
  have HC0 := hid c0
  have HN := hid hn
  clear h hr hL hm hp hT hS hA hn hI2 hcs hLr hp0 hq
  go_enter Try.func27, Try.ntmps27
  go_upto_region 9 with (first | (go_at_call 28; refine (qhas _ j _ HC.out).mono ?_; rw [HB.out]; rintro e w1 ⟨rfl, rfl⟩) | (go_at_call 46; refine (qisref a 4 c l 0 f _ HH.out HC0.out HT0.out).mono ?_; rintro e w1 ⟨rfl, hK1⟩; have c1a := (hK1.cell (lt_of_cell2' c1) (by simp) 1).trans c1; have c2a := (hK1.cell (lt_of_cell2' c2) (by simp) j).trans c2; have c0a := (hK1.cell (lt_of_cell2' c0) (by simp) 0).trans c0; have hcya := (hK1.cell (lt_of_cell2' hcy) (by simp) (lo + q)).trans hcy) | (go_at_call 29; refine (qlink y a ws1 _ (HP.out.keep0 hK1) c0a HS.out hx).mono ?_; rintro e w2 ⟨rfl, hP2⟩))
  have c0b := (Has.qcells (hP2.unpin).1).1
  go_upto_region 10 with (first | (go_at_call 29; refine (qlink a 0 ws' _ hP2 c0b HT.out inI_0).mono ?_; rintro e w3 ⟨rfl, hP3⟩))
  obtain ⟨hr3, c23⟩ := hP3.unpin
  have HR3 := (show Hid (Has w0 F0 (queueR qb hb (some ⟨bb, 0, none⟩) vc ws' kd ds Ls) w3) from hr3)
  obtain ⟨_, c13, _⟩ := HR3.out.qcells
  obtain ⟨f3, hm3, m1, m2, _⟩ := HR3.out.qrowAt HL.out c23
  have HM := (show Hid (∀ w', Keep [] w3 w' → IsMid w' 3 (.slice (some ⟨lg, lo, none⟩) p cc) (L ++ [y])) from fun w' K => hm3.keep K (by simp))
  have HM1 := (show Hid (bb ∉ (Value.slice (some ⟨lg, lo, none⟩) p cc).ownBlock.toList ∧ qb ∉ (Value.slice (some ⟨lg, lo, none⟩) p cc).ownBlock.toList) from ⟨fun e => m1 (by simpa using e), fun e => m2 (by simpa using e)⟩)
  have hl1 := lt_of_cell2' c13
  have hl2 := lt_of_cell2' c23
  rw [HN.out] at c13
  have c13a : ∀ o, (w3.drew.alloc o).cell? ⟨qb, 1, none⟩ = some (.slice (some ⟨bb, 0, none⟩) n vc) := fun o => ((Keep.alloc [] w3.drew o).cell hl1 (by simp) 1).trans c13
  have c23a : ∀ o, (w3.drew.alloc o).cell? ⟨bb, j, none⟩ = some (.slice (some ⟨lg, lo, none⟩) p cc) := fun o => ((Keep.alloc [] w3.drew o).cell hl2 (by simp) j).trans c23
  clear hm3 m1 m2 hP3 hr3 n1 n2 HP HT HT0 HH HC HC0 HB c0 c1 c2 hK1 c0a c1a c2a
  go_region_law (first | (refine step_append_mid _ rfl (.tmp 44) (.tmp 46) 24 rfl 3 i0 Try.underlying24 hI.out (.slice (some ⟨lg, lo, none⟩) p cc) (L ++ [y]) rfl (HM.out _ (by first | exact (Keep.drew [] _).trans (Keep.alloc [] _ _) | exact (Keep.alloc [] _ _).trans (Keep.drew [] _))) w3.heap.size a 1 rfl (cell_of_one (heap_alloc_new _ _)) (by rw [HPL.out]; omega) ?_; intro v5 w5 hm5 hk5 hb5; obtain ⟨l5, c5, rfl⟩ := hm5.form; have hK5 : Keep (Value.slice (some ⟨lg, lo, none⟩) p cc).ownBlock.toList w3 w5 := ((by first | exact (Keep.drew _ _).trans (Keep.alloc _ _ _) | exact (Keep.alloc _ _ _).trans (Keep.drew _ _)) : Keep (Value.slice (some ⟨lg, lo, none⟩) p cc).ownBlock.toList w3 _).trans hk5; have HB5 := (show Hid (∀ k, (Value.slice l5 _ c5).ownBlock = some k → (Value.slice (some ⟨lg, lo, none⟩) p cc).ownBlock = some k ∨ w3.heap.size ≤ k) from fun k e => (hb5 k e).imp id (fun g => by simp at g; omega)); have c15 := (hK5.cell hl1 HM1.out.2 1).trans c13; have c25 := (hK5.cell hl2 HM1.out.1 j).trans c23; have f25 := (World.frozen?_of_block (w := w3) (a := ⟨bb, j, none⟩) (hK5.block bb hl2 HM1.out.1)).trans f3; have HM5 := hid hm5; have HK5 := hid hK5; clear hm5 hk5 hb5 hK5))
  all_goals (go_wp2_with fail)
  all_goals go_ret
  all_goals
    have e2 : (L ++ [y] ++ [a]).length = L.length + 2 := by simp
    have h5 := HM5.out
    have h6 := HB5.out
    rw [e2] at h5 h6
    exact ⟨rfl, Has.queue (HR3.out.qput HJ.out c23 h5 HK5.out h6) HQ.out⟩
/-- Push, whatever is asked. -/
theorem qpush (i a E : Int) (ws' : List Int) (Ls' : List (List Int)) (w : World) (h : Has w0 F0 (queueA qb hb ws kd ds Ls) w) (hT : PushT kd ws Ls i a E ws' Ls') (hx : inI a) (hl : ∀ L, L ∈ Ls → L.length < 999999) :
    Calls Try.prog 27 #[.pointer (some ⟨qb, 0, none⟩), .int .i64 i, .int .i64 a] w fun e w' => e = .returned (.int .i64 E) ∧ Has w0 F0 (queueA qb hb ws' kd ds Ls') w' := by
  cases hT with
  | none hi =>
    refine (qpush_none i a w h hi).mono ?_
    rintro e w' ⟨rfl, rfl⟩
    exact ⟨rfl, h⟩
  | kind k c l E f hi hH hk =>
    refine (qpush_kind i a k c l E f w h hi hH hk).mono ?_
    rintro e w' ⟨rfl, hK⟩
    exact ⟨rfl, h.keep0 hK⟩
  | first j b m c l f ws' e hL hA hT =>
    subst e
    exact qpush_first j b m a c l f ws' w h hL hA hT hx
  | more j b m c l y f L ws1 ws' e hL hA hS hT =>
    subst e
    exact qpush_more j b m a c l y f L ws1 ws' w h hL hA hS hT (by have := hl _ (List.mem_of_getElem? hL); simp at this; omega) hx

/-! ### Poll -/
set_option maxHeartbeats 1600000 in
theorem qpoll_none (i : Int) (w : World) (h : Has w0 F0 (queueA qb hb ws kd ds Ls) w) (hi : ¬ IsQ Ls i) :
    Calls Try.prog 12 #[.pointer (some ⟨qb, 0, none⟩), .int .i64 i] w fun e w' => e = .returned (.tuple #[.int .i64 0, .int .i64 2]) ∧ w = w' := by
  obtain ⟨va, vc, hr⟩ := h.qraw
  obtain ⟨_, c1, _⟩ := hr.qcells
  have HB := (show Hid (qhasB Ls.length i = false) from qhasB_no hi)
  have HC := (show Hid (w.cell? ⟨qb, 1, none⟩ = some (.slice va Ls.length vc)) from c1)
  clear h hr hi c1
  go_enter Try.func12, Try.ntmps12
  go_wp2_with (first | (go_at_call 28; refine (qhas _ i _ HC.out).mono ?_; rw [HB.out]; rintro e w1 ⟨rfl, rfl⟩))
  go_ret2
  exact ⟨rfl, rfl⟩
set_option maxHeartbeats 800000 in
theorem qpoll_nil (i : Int) (w : World) :
    Calls Try.prog 12 #[.pointer none, .int .i64 i] w fun e w' => e = .returned (.tuple #[.int .i64 0, .int .i64 2]) ∧ w = w' := by
  go_enter Try.func12, Try.ntmps12
  go_wp2_with (first | (go_at_call 28; refine (qhas_nil i _).mono ?_; rintro e w1 ⟨rfl, rfl⟩))
  go_ret2
  exact ⟨rfl, rfl⟩
set_option maxHeartbeats 1600000 in
theorem qpoll_empty (j : Nat) (w : World) (h : Has w0 F0 (queueA qb hb ws kd ds Ls) w) (hL : Ls[j]? = some []) :
    Calls Try.prog 12 #[.pointer (some ⟨qb, 0, none⟩), .int .i64 j] w fun e w' => e = .returned (.tuple #[.int .i64 0, .int .i64 0]) ∧ w = w' := by
  obtain ⟨va, vc, hr⟩ := h.qraw
  obtain ⟨_, c1, _⟩ := hr.qcells
  have hj := isQ_j hL
  have HB := (show Hid (qhasB Ls.length j = true) from qhasB_yes (by omega))
  obtain ⟨bb, v, rfl, c2, _, hm, _⟩ := hr.qrow hL
  obtain ⟨la, cc, rfl⟩ := hm.form
  rw [List.length_nil] at c2
  obtain ⟨n, hn⟩ : ∃ n, Ls.length = n := ⟨_, rfl⟩
  rw [hn] at c1 hj HB
  have HC := hid c1
  clear h hr hL hm hn
  go_enter Try.func12, Try.ntmps12
  go_wp2_with (first | (go_at_call 28; refine (qhas _ j _ HC.out).mono ?_; rw [HB.out]; rintro e w1 ⟨rfl, rfl⟩))
  go_ret2
  exact ⟨rfl, rfl⟩
set_option maxRecDepth 100000 in
set_option maxHeartbeats 3200000 in
theorem qpoll_yes (j : Nat) (x : Int) (L : List Int) (ws' : List Int) (w : World) (h : Has w0 F0 (queueA qb hb ws kd ds Ls) w) (hL : Ls[j]? = some (x :: L)) (hT : LinkT kd ws x 0 ws') :
    Calls Try.prog 12 #[.pointer (some ⟨qb, 0, none⟩), .int .i64 j] w fun e w' => e = .returned (.tuple #[.int .i64 x, .int .i64 0]) ∧ Has w0 F0 (queueA qb hb ws' kd ds (Ls.set j L)) w' := by
  have hj := isQ_j hL
  have hLr := h.qok.2 _ (List.mem_of_getElem? hL)
  have hx : inI x := hLr.2 0
  have HQ := (show Hid (QOK (Ls.set j L)) from h.qok.set j (by have := hLr.1; simp at this; omega) (fun i => by have := hLr.2 (i + 1); simpa using this))
  obtain ⟨va, vc, hr⟩ := h.qraw
  obtain ⟨c0, c1, _⟩ := hr.qcells
  have HB := (show Hid (qhasB Ls.length j = true) from qhasB_yes (by omega))
  have HL := hid hL
  have HJ := hid hj
  obtain ⟨bb, v, rfl, c2, _, hm, n1, n2, n3, hp⟩ := hr.qrow hL
  obtain ⟨lq, cc, rfl⟩ := hm.form
  obtain ⟨hI2, _, _, hcc⟩ := hm.ints hLr.2
  obtain ⟨lg, lo, rfl, hlg, hcs⟩ := hI2.cells (by simp)
  have hcy := hcs 0 (by simp)
  rw [Nat.add_zero] at hcy
  have hcy' : w.cell? ⟨lg, lo, none⟩ = some (.int .i64 x) := by simpa using hcy
  obtain ⟨q, hq⟩ : ∃ q, L.length = q := ⟨_, rfl⟩
  obtain ⟨p, hp0⟩ : ∃ p, (x :: L).length = p := ⟨_, rfl⟩
  have hpq : p = q + 1 := by rw [← hp0, List.length_cons, hq]
  have hp2 : p ≤ 1000000 := by rw [← hp0]; exact hLr.1
  have hdp : (p == 0) = false := by rw [beq_eq_false_iff_ne]; omega
  have hp3 : 0 < p := by omega
  have HPL := (show Hid ((x :: L).length = p) from hp0)
  have HPQ := hid hpq
  have HLQ := hid hq
  rw [hp0] at c2 hp n1 n2 hm hcc
  have HP := hid hp
  have HT := hid hT
  obtain ⟨n, hn⟩ : ∃ n, Ls.length = n := ⟨_, rfl⟩
  rw [hn] at c1 hj HB
  have HN := hid hn
  have HC := hid c1
  have HC0 := hid c0
  clear h hr hL hm hp hT hn hI2 hcs hLr hp0 hq hcy hpq
  go_enter Try.func12, Try.ntmps12
  go_upto_region 8 with (first | (go_at_call 28; refine (qhas _ j _ HC.out).mono ?_; rw [HB.out]; rintro e w1 ⟨rfl, rfl⟩) | (go_at_call 29; refine (qlink x 0 ws' _ HP.out HC0.out HT.out inI_0).mono ?_; rintro e w3 ⟨rfl, hP3⟩))
  obtain ⟨hr3, c23⟩ := hP3.unpin
  have HR3 := (show Hid (Has w0 F0 (queueR qb hb (some ⟨bb, 0, none⟩) vc ws' kd ds Ls) w3) from hr3)
  obtain ⟨_, c13, _⟩ := HR3.out.qcells
  obtain ⟨f3, hm3, m1, m2, _⟩ := HR3.out.qrowAt HL.out c23
  have HM := (show Hid (IsMid w3 3 (.slice (some ⟨lg, lo, none⟩) p cc) (x :: L)) from hm3)
  rw [HN.out] at c13
  clear hm3 m1 m2 hP3 hr3 n1 n2 HP HT HC HC0 HB c0 c1 c2 hcy'
  have HM2 := (show Hid (IsMid w3 3 (.slice (if cc = 1 then some ⟨lg, lo, none⟩ else some ⟨lg, lo + 1, none⟩) (p - 1) (cc - 1)) L) from by
    have h1 := HM.out
    have h2 : p = L.length + 1 := by rw [HLQ.out]; exact HPQ.out
    subst h2
    exact h1.tail)
  by_cases hc1 : cc = 1
  · subst hc1
    have hp1 := HPQ.out
    obtain rfl : p = 1 := by omega
    have HM3 := (show Hid (IsMid w3 3 (.slice (some ⟨lg, lo, none⟩) 0 0) L) from by show IsMid _ _ _ _; have := HM2.out; simpa using this)
    clear HM2 hp1
    go_region
    all_goals (go_wp2_with fail)
    all_goals go_ret2
    all_goals exact ⟨rfl, Has.queue ((HR3.out.qput HJ.out c23 HM3.out (Keep.refl _ _) (fun k e => .inl (by simpa [Value.ownBlock] using e))).keep0 (Keep.drew [] _)) HQ.out⟩
  · have HM3 := (show Hid (IsMid w3 3 (.slice (some ⟨lg, lo + 1, none⟩) (p - 1) (cc - 1)) L) from by have := HM2.out; rw [if_neg hc1] at this; exact this)
    clear HM2
    go_region
    all_goals (go_wp2_with fail)
    all_goals go_ret2
    all_goals exact ⟨rfl, Has.queue ((HR3.out.qput HJ.out c23 HM3.out (Keep.refl _ _) (fun k e => .inl (by simpa [Value.ownBlock] using e))).keep0 (Keep.drew [] _)) HQ.out⟩
/-- Poll, whatever is asked. -/
theorem qpoll (i N E : Int) (ws' : List Int) (Ls' : List (List Int)) (w : World) (h : Has w0 F0 (queueA qb hb ws kd ds Ls) w) (hT : PollT kd ws Ls i N E ws' Ls') :
    Calls Try.prog 12 #[.pointer (some ⟨qb, 0, none⟩), .int .i64 i] w fun e w' => e = .returned (.tuple #[.int .i64 N, .int .i64 E]) ∧ Has w0 F0 (queueA qb hb ws' kd ds Ls') w' := by
  cases hT with
  | none hi =>
    refine (qpoll_none i w h hi).mono ?_
    rintro e w' ⟨rfl, rfl⟩
    exact ⟨rfl, h⟩
  | empty j e hL =>
    subst e
    refine (qpoll_empty j w h hL).mono ?_
    rintro e w' ⟨rfl, rfl⟩
    exact ⟨rfl, h⟩
  | yes j x L ws' e hL hT =>
    subst e
    exact qpoll_yes j N L ws' w h hL hT
end

end Go.Proofs.Ytamcoejlghfleaa

/-
  Package object: what upTo, words and Refs answer.
-/
namespace Go.Proofs.Ytamcoejlghfleaa
open Go.RowKit

theorem Row.ints {w : World} {t : TypeId} {g : Nat} {L : List Int} (h : Row w t g L) (hb : ∀ i : Nat, inI (L[i]?.getD 0)) : IntsAt w (some ⟨g, 0, none⟩) L :=
  ⟨fun _ => ⟨g, 0, rfl, h.lt, fun i hi => by rw [Nat.zero_add]; exact h.cell hi⟩, fun i => (hb i).1, fun i => (hb i).2⟩
theorem upL_bd (l : Int) (hl : l ≤ 1023) : ∀ i : Nat, inI ((upL l)[i]?.getD 0) := by
  intro i
  by_cases hi : i < l.toNat
  · rw [upL_get l i hi]; unfold inI; omega
  · rw [List.getElem?_eq_none (by rw [upL_length]; omega)]; exact inI_0
/-- The fields of an object of l fields at b. -/
def wordsL (ws : List Int) (b : Nat) (l : Int) : List Int := (List.range l.toNat).map (fun i => ws[b + 1 + i]?.getD 0)
theorem wordsL_length (ws : List Int) (b : Nat) (l : Int) : (wordsL ws b l).length = l.toNat := by simp [wordsL]
theorem wordsL_get (ws : List Int) (b : Nat) (l : Int) (i : Nat) (h : i < l.toNat) : (wordsL ws b l)[i]?.getD 0 = ws[b + 1 + i]?.getD 0 := by simp [wordsL, h]
theorem wordsL_bd {ws : List Int} (h : ∀ i : Nat, inI (ws[i]?.getD 0)) (b : Nat) (l : Int) : ∀ i : Nat, inI ((wordsL ws b l)[i]?.getD 0) := by
  intro i
  by_cases hi : i < l.toNat
  · rw [wordsL_get ws b l i hi]; exact h _
  · rw [List.getElem?_eq_none (by rw [wordsL_length]; omega)]; exact inI_0

section
variable {w0 : World} {F0 : List Nat} {hb : Nat} {ws : List Int} {kd : List PK} {ds : List (Int × List Int)}
theorem two_bd : ∀ i : Nat, inI (([2] : List Int)[i]?.getD 0) := by
  intro i
  rcases i with _ | i <;> simp [inI]
end

end Go.Proofs.Ytamcoejlghfleaa

/-
  Package object: what Objects answers: a list in memory of its own.
-/
namespace Go.Proofs.Ytamcoejlghfleaa
open Go.RowKit

/-- An object: where it is, its head, its fields. -/
structure OM where
  a : Int
  k : Int
  c : Int
  l : Int
  f : Bool
  L : List Int
/-- One in memory: its fields lie in a row z. -/
structure OV where
  o : OM
  z : Nat
def OV.cells (v : OV) : List Value := [.int .i64 v.o.a, .int .i64 v.o.k, .int .i64 v.o.c, .int .i64 v.o.l, .bool v.o.f, .slice (some ⟨v.z, 0, none⟩) v.o.L.length v.o.L.length]
def flatO (vs : List OV) : List Value := vs.flatMap OV.cells
theorem flatO_app (vs us : List OV) : flatO (vs ++ us) = flatO vs ++ flatO us := by simp [flatO]
theorem flatO_one (v : OV) : flatO [v] = v.cells := by simp [flatO]
theorem flatO_length (vs : List OV) : (flatO vs).length = vs.length * 6 := by
  induction vs with
  | nil => rfl
  | cons c cs ih => simp [flatO, OV.cells] at *; omega
theorem flatO_get (vs : List OV) (i : Nat) (v : OV) (h : vs[i]? = some v) (t : Nat) (ht : t < 6) : (flatO vs)[i * 6 + t]? = v.cells[t]? := by
  induction vs generalizing i with
  | nil => simp at h
  | cons d vs ih =>
    have e : flatO (d :: vs) = d.cells ++ flatO vs := by simp [flatO]
    have hd : d.cells.length = 6 := rfl
    rw [e]
    cases i with
    | zero => simp at h; subst h; rw [List.getElem?_append_left (by omega)]; simp
    | succ i =>
      simp at h
      rw [List.getElem?_append_right (by omega), hd, show (i + 1) * 6 + t - 6 = i * 6 + t by omega]
      exact ih i h

/-- What the words say of the object at a. -/
def objOf (ws : List Int) (a : Int) : OM := ⟨a, wk (ws[a.toNat]?.getD 0), wc (ws[a.toNat]?.getD 0), wl (ws[a.toNat]?.getD 0), wf (ws[a.toNat]?.getD 0), wordsL ws a.toNat (wl (ws[a.toNat]?.getD 0))⟩
def objsK (kd : List PK) (ws : List Int) : List OM := (eachK kd).map (objOf ws)
theorem objsK_length (kd : List PK) (ws : List Int) : (objsK kd ws).length = (eachK kd).length := by simp [objsK]
theorem each_at9 {kd : List PK} {ws : List Int} {ds : List (Int × List Int)} (h : Fine ws kd ds) (j : Nat) (hj : j < (eachK kd).length) : ∃ (b m : Nat) (k c l : Int) (f : Bool), (eachK kd)[j]? = some (b : Int) ∧ At kd ws b b m k c l f ∧ l + 1 ≤ m ∧ objOf ws b = ⟨b, k, c, l, f, wordsL ws b l⟩ := by
  have hm : (eachK kd)[j] ∈ eachTo kd kd.length := List.getElem_mem hj
  obtain ⟨b, n, e, _, _, hf⟩ := h.wf.each_in kd.length _ hm
  obtain ⟨k, c, l, f, h1, h2, _⟩ := h.ob.head b n hf
  obtain ⟨_, _, e1, e2, e3, e4⟩ := h1.parts
  exact ⟨b, n, k, c, l, f, by rw [List.getElem?_eq_getElem hj, e], ⟨rfl, hf, h1⟩, h2, by unfold objOf; rw [Int.toNat_natCast, e1, e2, e3, e4]⟩

theorem oneCells6 (a k c l : Int) (f : Bool) (la : Option Addr) (n lc : Nat) : ∀ u ∈ [Value.int .i64 a, .int .i64 k, .int .i64 c, .int .i64 l, .bool f, .slice la n lc], u.oneCell' = true := by
  intro u hu
  simp at hu
  rcases hu with rfl | rfl | rfl | rfl | rfl | rfl <;> rfl

section
variable {w0 : World} {F0 : List Nat} {hb : Nat} {ws : List Int} {kd : List PK} {ds : List (Int × List Int)}
end

end Go.Proofs.Ytamcoejlghfleaa

/-
  Room: where all pages from one on are free a block is had, and those behind it stay free. Plain facts.
-/
namespace Go.Proofs.Ytamcoejlghfleaa
open Go.RowKit

def FreeFrom (kd : List PK) (s : Nat) : Prop := ∀ t, s ≤ t → kat kd t = .free
theorem FreeFrom.fresh (n : Nat) (h : 1 ≤ n) : FreeFrom (freshK n) 1 := fun t ht => by rw [freshK_at n t h, if_neg (by omega)]
theorem FreeFrom.mono {kd : List PK} {s t : Nat} (h : FreeFrom kd s) (hs : s ≤ t) : FreeFrom kd t := fun u hu => h u (by omega)
theorem run_low {kd : List PK} {s k : Nat} {p : Int} (hk : 1 ≤ k) (hf : FreeFrom kd s) (hs : s + k ≤ kd.length) (h : runR (takenL kd) 0 k = p) : ∃ q : Nat, p = q ∧ q ≤ s := by
  have hc : Clear (takenL kd) s k := ⟨by rw [takenL_length]; omega, fun t a b => by rw [takenL_get, hf t a]; rfl⟩
  rcases runR_spec (takenL kd) k hk _ 0 rfl with ⟨_, h1⟩ | ⟨j, h1, h2⟩
  · exact absurd hc (h1 s (by omega))
  · refine ⟨j, by rw [← h, h1], ?_⟩
    rcases Nat.lt_or_ge s j with h3 | h3
    · exact absurd hc (h2.2.2 s (by omega) h3)
    · exact h3
theorem alloc_from {kd : List PK} {n : Int} {s K : Nat} (hn : 1 ≤ n ∧ n ≤ 1024) (hp : pagesI n ≤ K) (hK : 1 ≤ K) (hs : s + K ≤ kd.length) (hf : FreeFrom kd s) : ∃ a kd', AllocR kd n (some (a, kd')) ∧ FreeFrom kd' (s + K) := by
  obtain ⟨r, hr⟩ := alloc_ex kd n (by have := room_ge n hn.1 hn.2; omega)
  cases r with
  | none =>
    exfalso
    cases hr with
    | full c e1 e2 e3 => obtain ⟨q, e, _⟩ := run_low (by omega) hf (by omega) e3; omega
    | over k e1 e2 e3 e4 => obtain ⟨q, e, _⟩ := run_low e3 hf (by omega) e4; omega
  | some o =>
    obtain ⟨a, kd'⟩ := o
    refine ⟨a, kd', hr, fun t ht => ?_⟩
    cases hr with
    | old c p i xs e1 e2 e3 e4 e5 =>
      rw [kat_set_other _ _ _ _ (fun e => by subst e; rw [hf t (by omega)] at e3; cases e3)]
      exact hf t (by omega)
    | new c p e1 e2 e3 =>
      obtain ⟨q, e, h⟩ := run_low (by omega) hf (by omega) e3
      rw [kat_set_other _ _ _ _ (by omega)]
      exact hf t (by omega)
    | large k p e1 e2 e3 e4 =>
      obtain ⟨q, e, h⟩ := run_low e3 hf (by omega) e4
      rw [putParts_at _ _ _ _ (by omega), if_neg (by omega)]
      exact hf t (by omega)
/-- An object is made. -/
theorem make_from {kd : List PK} {ds : List (Int × List Int)} {k c l : Int} {s K : Nat} (ws : List Int) (hw : WF kd) (hm : mayH k c l false = true) (hF : FitsT ds k c l 0) (hp : pagesI (l + 1) ≤ K) (hK : 1 ≤ K) (hs : s + K ≤ kd.length) (hf : FreeFrom kd s) :
    ∃ (a b : Nat) (kd' : List PK), MakeT kd ws ds k c l false a 0 ((fill0 ws a b).set a (putH k c l false)) kd' ∧ AllocR kd (l + 1) (some (a, kd')) ∧ blockI (l + 1) = b ∧ FreeFrom kd' (s + K) := by
  have hb := mayH_bd hm
  obtain ⟨a, kd', h1, h2⟩ := alloc_from (kd := kd) (n := l + 1) (s := s) (K := K) (by omega) hp hK hs hf
  obtain ⟨b, hb', _⟩ := h1.spec hw
  exact ⟨a, b, kd', .yes a b kd' hm rfl hF h1 hb', h1, hb', h2⟩
theorem may_data (l : Int) (h1 : 0 ≤ l) (h2 : l ≤ 1023) : mayH 3 0 l false = true := by
  rw [mayH_23 _ _ _ (by omega), inB_yes (by omega) (by omega), inB_yes h1 h2]; rfl
theorem may_refs (l : Int) (h1 : 0 ≤ l) (h2 : l ≤ 1023) : mayH 2 0 l false = true := by
  rw [mayH_23 _ _ _ (by omega), inB_yes (by omega) (by omega), inB_yes h1 h2]; rfl
/-- What there is, behind an object that was made. -/
theorem MakeT.at {kd kd' : List PK} {ws : List Int} {k c l : Int} {a b : Nat} (hw : WF kd) (hl : ws.length = 64 * kd.length) (hm : mayH k c l false = true) (hr : AllocR kd (l + 1) (some (a, kd'))) (hb : blockI (l + 1) = b) : At kd' ((fill0 ws a b).set a (putH k c l false)) a a b k c l false := by
  obtain ⟨b', hb', h1, h2, h3, h4, h5, h6, h7⟩ := hr.spec hw
  obtain rfl : b = b' := by rw [hb] at hb'; omega
  refine ⟨rfl, by rw [h7, if_pos (by omega)], ?_⟩
  rw [set_get_same _ _ _ (by rw [fill0_length _ _ _ (by omega)]; omega)]
  exact ⟨hm, rfl⟩
/-- What there was is as it was. -/
theorem At.made {kd kd' : List PK} {ws : List Int} {n x : Int} {a b p m : Nat} {k c l : Int} {f : Bool} (h : At kd ws p p m k c l f) (hw : WF kd) (hl : ws.length = 64 * kd.length) (hr : AllocR kd n (some (a, kd'))) (hb : blockI n = b) : At kd' ((fill0 ws a b).set a x) p p m k c l f ∧ (p + m ≤ a ∨ a + b ≤ p) := by
  obtain ⟨b', hb', h1, h2, h3, h4, h5, h6, h7⟩ := hr.spec hw
  obtain rfl : b = b' := by rw [hb] at hb'; omega
  obtain ⟨_, h8, h9⟩ := h
  obtain ⟨g1, g2, g3, g4, g5, g6⟩ := hw.found h8
  have hd : p + m ≤ a ∨ a + b ≤ p := by
    rcases Nat.lt_or_ge a (p + m) with e1 | e1
    · rcases Nat.lt_or_ge p (a + b) with e2 | e2
      · have := g6 (max a p) (by omega) (by omega)
        rw [h6 (max a p) (by omega) (by omega)] at this
        cases this
      · exact .inr e2
    · exact .inl e1
  refine ⟨⟨rfl, by rw [h7, if_neg (by omega)]; exact h8, ?_⟩, hd⟩
  rw [set_get_other _ _ _ _ (by omega), fill0_get _ _ _ _ (by omega), if_neg (by omega)]
  exact h9

end Go.Proofs.Ytamcoejlghfleaa

/-
  References made one behind the other in a heap that is new: what there is then. Plain facts.
-/
namespace Go.Proofs.Ytamcoejlghfleaa
open Go.RowKit

/-- The first n references: words, pages and addresses, one by one. -/
structure Chain (n : Nat) (W : Nat → List Int) (K : Nat → List PK) (A : Nat → Nat) : Prop where
  w0 : W 0 = zeros (64 * 40)
  k0 : K 0 = freshK 40
  step : ∀ i, i < n → MakeT (K i) (W i) [] 4 (1 + ((i % 3 : Nat) : Int)) 5 false (A i : Int) 0 (W (i + 1)) (K (i + 1))
  fine : ∀ i, i ≤ n → Fine (W i) (K i) [] ∧ (K i).length = 40 ∧ FreeFrom (K i) (1 + i)
  refs : ∀ i, i ≤ n → ∀ j, j < i → ∃ (m : Nat) (c : Int), At (K i) (W i) (A j : Nat) (A j) m 4 c 5 false
  only : ∀ i, i ≤ n → ∀ (a : Int) (b m : Nat) (k c l : Int) (f : Bool), At (K i) (W i) a b m k c l f → ∃ j, j < i ∧ a = (A j : Int)
  ne : ∀ i j, i < n → j < i → A i ≠ A j

theorem may_ref3 (i : Nat) : mayH 4 (1 + ((i % 3 : Nat) : Int)) 5 false = true := by
  rw [mayH_4, inB_yes (by omega) (by omega), inB_yes (by omega) (by omega)]; rfl
theorem pages6 : pagesI (5 + 1) ≤ (1 : Nat) := by decide
theorem chain_ex (n : Nat) (hn : n ≤ 30) : ∃ W K A, Chain n W K A := by
  induction n with
  | zero =>
    refine ⟨fun _ => zeros (64 * 40), fun _ => freshK 40, fun _ => 0, rfl, rfl, fun i h => by omega, fun i h => ⟨Fine.fresh 40 (by omega) (by omega), freshK_length 40, ?_⟩, fun i h j hj => by omega, fun i h a b m k c l f hA => ?_, fun i j h => by omega⟩
    · exact (FreeFrom.fresh 40 (by omega)).mono (by omega)
    · have := hA.2.1
      rw [freshK_find 40 _ (by omega)] at this
      cases this
  | succ n ih =>
    obtain ⟨W, K, A, hC⟩ := ih (by omega)
    obtain ⟨hf, hk, hfree⟩ := hC.fine n (Nat.le_refl _)
    obtain ⟨a, b, kd', t1, r1, e1, g1⟩ := make_from (kd := K n) (ds := []) (s := 1 + n) (K := 1) (W n) hf.wf (may_ref3 n) (.other (by omega)) pages6 (by omega) (by rw [hk]; omega) hfree
    obtain ⟨f1, l1⟩ := t1.fine hf
    obtain ⟨ws', hws⟩ : ∃ ws', (fill0 (W n) a b).set a (putH 4 (1 + ((n % 3 : Nat) : Int)) 5 false) = ws' := ⟨_, rfl⟩
    have hat : At kd' ws' (a : Nat) a b 4 (1 + ((n % 3 : Nat) : Int)) 5 false := by rw [← hws]; exact MakeT.at hf.wf hf.len (may_ref3 n) r1 e1
    have hold : ∀ (p m : Nat) (k c l : Int) (f : Bool), At (K n) (W n) (p : Nat) p m k c l f → At kd' ws' (p : Nat) p m k c l f ∧ (p + m ≤ a ∨ a + b ≤ p) := fun p m k c l f h => by rw [← hws]; exact h.made hf.wf hf.len r1 e1
    obtain ⟨b', hb', h1, h2, h3, h4, h5, h6, h7⟩ := r1.spec hf.wf
    obtain rfl : b = b' := by rw [e1] at hb'; omega
    rw [hws] at t1 f1
    have hnew : ∀ (x : Int) (p m : Nat) (k c l : Int) (f : Bool), At kd' ws' x p m k c l f → x = (a : Int) ∨ At (K n) (W n) x p m k c l f := by
      rintro x p m k c l f ⟨q1, q2, q3⟩
      rw [h7 p] at q2
      split at q2
      · left; cases q2; exact q1
      · right
        refine ⟨q1, q2, ?_⟩
        rw [← hws, set_get_other _ _ _ _ (by omega), fill0_get _ _ _ _ (by have := hf.len; omega), if_neg (by assumption)] at q3
        exact q3
    have hW : ∀ i, i ≤ n → (if i ≤ n then W i else ws') = W i := fun i h => if_pos h
    have hK : ∀ i, i ≤ n → (if i ≤ n then K i else kd') = K i := fun i h => if_pos h
    have hA : ∀ i, i < n → (if i < n then A i else a) = A i := fun i h => if_pos h
    refine ⟨fun i => if i ≤ n then W i else ws', fun i => if i ≤ n then K i else kd', fun i => if i < n then A i else a, ?_, ?_, ?_, ?_, ?_, ?_, ?_⟩
    · exact hC.w0
    · exact hC.k0
    · intro i hi
      show MakeT (if i ≤ n then K i else kd') (if i ≤ n then W i else ws') [] 4 _ 5 false ((if i < n then A i else a : Nat) : Int) 0 (if i + 1 ≤ n then W (i + 1) else ws') (if i + 1 ≤ n then K (i + 1) else kd')
      rcases Nat.lt_or_ge i n with h | h
      · rw [hW i (by omega), hK i (by omega), hA i h, hW (i + 1) (by omega), hK (i + 1) (by omega)]
        exact hC.step i h
      · obtain rfl : i = n := by omega
        rw [hW i (by omega), hK i (by omega), if_neg (by omega), if_neg (by omega), if_neg (by omega)]
        exact t1
    · intro i hi
      show Fine (if i ≤ n then W i else ws') (if i ≤ n then K i else kd') [] ∧ (if i ≤ n then K i else kd').length = 40 ∧ FreeFrom (if i ≤ n then K i else kd') (1 + i)
      rcases Nat.lt_or_ge n i with h | h
      · obtain rfl : i = n + 1 := by omega
        rw [if_neg (by omega), if_neg (by omega)]
        exact ⟨f1, by rw [l1, hk], g1.mono (by omega)⟩
      · rw [hW i h, hK i h]
        exact hC.fine i h
    · intro i hi j hj
      show ∃ (m : Nat) (c : Int), At (if i ≤ n then K i else kd') (if i ≤ n then W i else ws') ((if j < n then A j else a : Nat) : Int) (if j < n then A j else a) m 4 c 5 false
      rcases Nat.lt_or_ge n i with h | h
      · obtain rfl : i = n + 1 := by omega
        rw [if_neg (by omega), if_neg (by omega)]
        rcases Nat.lt_or_ge j n with hjn | hjn
        · rw [hA j hjn]
          obtain ⟨m, c, hm⟩ := hC.refs n (Nat.le_refl _) j hjn
          exact ⟨m, c, (hold _ _ _ _ _ _ hm).1⟩
        · rw [if_neg (by omega)]
          exact ⟨b, _, hat⟩
      · rw [hW i h, hK i h, hA j (by omega)]
        exact hC.refs i h j hj
    · intro i hi x p m k c l f hx
      have hx' : At (if i ≤ n then K i else kd') (if i ≤ n then W i else ws') x p m k c l f := hx
      show ∃ j, j < i ∧ x = ((if j < n then A j else a : Nat) : Int)
      rcases Nat.lt_or_ge n i with h | h
      · obtain rfl : i = n + 1 := by omega
        rw [if_neg (by omega), if_neg (by omega)] at hx'
        rcases hnew _ _ _ _ _ _ _ hx' with e | e
        · exact ⟨n, by omega, by rw [if_neg (by omega)]; exact e⟩
        · obtain ⟨j, hj, e2⟩ := hC.only n (Nat.le_refl _) _ _ _ _ _ _ _ e
          exact ⟨j, by omega, by rw [hA j hj]; exact e2⟩
      · rw [hW i h, hK i h] at hx'
        obtain ⟨j, hj, e2⟩ := hC.only i h _ _ _ _ _ _ _ hx'
        exact ⟨j, hj, by rw [hA j (by omega)]; exact e2⟩
    · intro i j hi hj
      show (if i < n then A i else a) ≠ (if j < n then A j else a)
      rw [hA j (by omega)]
      rcases Nat.lt_or_ge i n with h | h
      · rw [hA i h]; exact hC.ne i j h hj
      · obtain rfl : i = n := by omega
        rw [if_neg (by omega)]
        obtain ⟨m, c, hm⟩ := hC.refs i (Nat.le_refl _) j hj
        have h8 := (hold _ _ _ _ _ _ hm).2
        have h9 := hm.facts hf.wf
        intro e
        rw [e] at h8
        omega
/-- The addresses. -/
def aL (A : Nat → Nat) (n : Nat) : List Int := (List.range n).map (fun i => (A i : Int))
theorem aL_length (A : Nat → Nat) (n : Nat) : (aL A n).length = n := by simp [aL]
theorem aL_get (A : Nat → Nat) (n i : Nat) (h : i < n) : (aL A n)[i]?.getD 0 = (A i : Int) := by simp [aL, h]
theorem aL_snoc (A : Nat → Nat) (n : Nat) : aL A (n + 1) = aL A n ++ [(A n : Int)] := by simp [aL, List.range_succ]
theorem Chain.bd {n : Nat} {W : Nat → List Int} {K : Nat → List PK} {A : Nat → Nat} (h : Chain n W K A) (j : Nat) (hj : j < n) : 64 ≤ A j ∧ A j ≤ 2560 := by
  obtain ⟨m, c, hm⟩ := h.refs n (Nat.le_refl _) j hj
  obtain ⟨hf, hk, _⟩ := h.fine n (Nat.le_refl _)
  have := hm.facts hf.wf
  omega
theorem Chain.aBd {n : Nat} {W : Nat → List Int} {K : Nat → List PK} {A : Nat → Nat} (h : Chain n W K A) (q : Nat) (hq : q ≤ n) : ∀ i : Nat, -9223372036854775808 ≤ (aL A q)[i]?.getD 0 ∧ (aL A q)[i]?.getD 0 ≤ 9223372036854775807 := by
  intro i
  by_cases hi : i < q
  · rw [aL_get A q i hi]; have := h.bd i (by omega); omega
  · rw [List.getElem?_eq_none (by rw [aL_length]; omega)]; simp

end Go.Proofs.Ytamcoejlghfleaa

/-
  References in rows: what a push and a poll leave of the words, and of each reference. Plain facts.
-/
namespace Go.Proofs.Ytamcoejlghfleaa
open Go.RowKit

/-- A reference lies at a. -/
def RefA (kd : List PK) (ws : List Int) (a : Nat) : Prop := ∃ (m : Nat) (c : Int), At kd ws (a : Nat) a m 4 c 5 false
section
variable {kd : List PK} {ws : List Int} {ds : List (Int × List Int)} {a b : Nat} {x : Int}
theorem RefA.head (h : RefA kd ws a) : ∃ c, HeadT kd ws a 4 c 5 false 0 := by obtain ⟨m, c, h⟩ := h; exact ⟨c, .yes a m 4 c 5 false h⟩
theorem at_room {k c l : Int} {m : Nat} {f : Bool} (hf : Fine ws kd ds) (h : At kd ws (a : Nat) a m k c l f) : l + 1 ≤ m := by
  obtain ⟨k', c', l', f', g1, g2, _⟩ := hf.ob.head a m h.2.1
  obtain ⟨_, _, _, _, p3, _⟩ := g1.parts
  obtain ⟨_, _, _, _, q3, _⟩ := h.2.2.parts
  have : l = l' := by rw [← p3, ← q3]
  omega
theorem RefA.place (hf : Fine ws kd ds) (h : RefA kd ws a) : PlaceT kd ws a 2 (a + 3) 0 ∧ a + 3 < ws.length ∧ 64 ≤ a := by
  obtain ⟨m, c, h⟩ := h
  have h1 := at_room hf h
  have h2 := h.facts hf.wf
  have h3 := hf.len
  exact ⟨.yes a m 2 4 c 5 false h rfl (by omega) h1, by omega, h2.2.1⟩
theorem RefA.put (hf : Fine ws kd ds) (h : RefA kd ws a) (x : Int) : PutT kd ws a 2 x 0 (ws.set (a + 3) x) := .yes (a + 3) (h.place hf).1 (h.place hf).2.1
theorem RefA.link (hf : Fine ws kd ds) (h : RefA kd ws a) (x : Int) : LinkT kd ws a x (ws.set (a + 3) x) := by
  have hp := h.put hf x
  obtain ⟨m, c, h⟩ := h
  exact .yes a m c 5 0 false _ h hp
theorem RefA.fineSet (hf : Fine ws kd ds) (h : RefA kd ws a) (hx : inI x) : Fine (ws.set (a + 3) x) kd ds := (h.put hf x).fine hf hx
theorem RefA.field (hf : Fine ws kd ds) (h : RefA kd ws a) : FieldT kd ws a 2 (ws[a + 3]?.getD 0) 0 := .yes (a + 3) (h.place hf).1 (h.place hf).2.1
/-- What else there is stays as it was. -/
theorem at_kept {y k c l : Int} {p m : Nat} {f : Bool} (hf : Fine ws kd ds) (h : RefA kd ws a) (hA : At kd ws y p m k c l f) (x : Int) : At kd (ws.set (a + 3) x) y p m k c l f := by
  obtain ⟨m', c', h⟩ := h
  have h1 := at_room hf h
  refine ⟨hA.1, hA.2.1, ?_⟩
  rw [set_get_other _ _ _ _ (fun e => ?_)]
  · exact hA.2.2
  · obtain ⟨g1, g2, _⟩ := hf.wf.found hA.2.1
    have := hf.wf.apart h.2.1 hA.2.1 (x := p) (by omega) (by omega) g1 g2
    omega
theorem RefA.kept (hf : Fine ws kd ds) (h : RefA kd ws a) (hb : RefA kd ws b) (x : Int) : RefA kd (ws.set (a + 3) x) b := by
  obtain ⟨m, c, hb⟩ := hb
  exact ⟨m, c, at_kept hf h hb x⟩
theorem at_back {y k c l : Int} {p m : Nat} {f : Bool} (hf : Fine ws kd ds) (h : RefA kd ws a) (hA : At kd (ws.set (a + 3) x) y p m k c l f) : At kd ws y p m k c l f := by
  obtain ⟨m', c', h⟩ := h
  have h1 := at_room hf h
  refine ⟨hA.1, hA.2.1, ?_⟩
  have h3 := hA.2.2
  rw [set_get_other _ _ _ _ (fun e => ?_)] at h3
  · exact h3
  · obtain ⟨g1, g2, _⟩ := hf.wf.found hA.2.1
    have := hf.wf.apart h.2.1 hA.2.1 (x := p) (by omega) (by omega) g1 g2
    omega
theorem RefA.inI (hf : Fine ws kd ds) (h : RefA kd ws a) : inI (a : Int) := by
  obtain ⟨m, c, h⟩ := h
  have := h.facts hf.wf
  unfold Go.Proofs.Ytamcoejlghfleaa.inI
  omega
end
theorem set_back {Ls : List (List Int)} {j : Nat} {L L' : List Int} (h : Ls[j]? = some L) : (Ls.set j L').set j L = Ls := by
  rw [List.set_set]
  apply List.ext_getElem?
  intro i
  by_cases e : j = i
  · subst e
    have hj : j < Ls.length := by
      rcases Nat.lt_or_ge j Ls.length with e | e
      · exact e
      · rw [List.getElem?_eq_none e] at h; cases h
    rw [List.getElem?_set_self hj, h]
  · rw [List.getElem?_set_ne e]
theorem set_at {Ls : List (List Int)} {j : Nat} {L : List Int} (h : j < Ls.length) : (Ls.set j L)[j]? = some L := List.getElem?_set_self h

section
variable {kd : List PK} {ws : List Int} {ds : List (Int × List Int)} {Ls : List (List Int)} {a : Nat}
theorem RefA.pushFirst (hf : Fine ws kd ds) (h : RefA kd ws a) {j : Nat} (hL : Ls[j]? = some []) : PushT kd ws Ls (j : Int) (a : Int) 0 (ws.set (a + 3) 0) (Ls.set j [(a : Int)]) := by
  have hl := h.link hf 0
  obtain ⟨m, c, h⟩ := h
  exact .first j a m c 5 false _ rfl hL h hl
theorem RefA.pushMore (hf : Fine ws kd ds) (h : RefA kd ws a) {j y : Nat} {L : List Int} (hL : Ls[j]? = some (L ++ [(y : Int)])) (hy : RefA kd ws y) : PushT kd ws Ls (j : Int) (a : Int) 0 ((ws.set (y + 3) (a : Int)).set (a + 3) 0) (Ls.set j (L ++ [(y : Int)] ++ [(a : Int)])) := by
  have hl := hy.link hf (a : Int)
  have h2 := (hy.kept hf h (a : Int)).link (hy.fineSet hf (h.inI hf)) 0
  obtain ⟨m, c, h⟩ := h
  exact .more j a m c 5 (y : Int) false L _ _ rfl hL h hl h2
theorem RefA.poll (hf : Fine ws kd ds) (h : RefA kd ws a) {j : Nat} {L : List Int} (hL : Ls[j]? = some ((a : Int) :: L)) : PollT kd ws Ls (j : Int) (a : Int) 0 (ws.set (a + 3) 0) (Ls.set j L) :=
  .yes j (a : Int) L _ rfl hL (h.link hf 0)
end

end Go.Proofs.Ytamcoejlghfleaa
