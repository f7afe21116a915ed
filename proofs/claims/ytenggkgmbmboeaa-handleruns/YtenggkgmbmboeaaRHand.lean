/-
  The document's own handles: what its calls answer and leave: a block of two rows, what each slot holds and its turn less 1.
-/
import Derived.Test.YtenggkgmbmboeaaHandAll
import Derived.Test.YtenggkgmbmboeaaRet
import Derived.Deep.WholeRow
import Derived.Deep.RegionHeld3
namespace Go.Proofs.Ytenggkgmbmboeaa
open Go.RowKit

theorem Try.infoIntH : (Try.prog.info? 3).map (fun i => (i.zero, i.size, i.bytes)) = some (some (.int .i64 0), 1, 8) := by kernel_rfl

/-- Block b is the document's handles; its rows are g1 and g2. -/
structure RHandAt (w : World) (b g1 g2 : Nat) (xs ts : List Int) : Prop where
  head : w.heap[b]? = some (.cells #[.slice (some ⟨g1, 0, none⟩) 512 512, .slice (some ⟨g2, 0, none⟩) 512 512] 62 (0, 0))
  row1 : Row w 3 g1 xs
  row2 : ∃ us, Row w 3 g2 us ∧ us.length = 512 ∧ ∀ i : Nat, i < 512 → us[i]?.getD 0 + 1 = ts[i]?.getD 0
  n1 : b ≠ g1
  n2 : b ≠ g2
  n3 : g1 ≠ g2
theorem RHandAt.lt {w : World} {b g1 g2 : Nat} {xs ts : List Int} (h : RHandAt w b g1 g2 xs ts) : b < w.heap.size ∧ g1 < w.heap.size ∧ g2 < w.heap.size := by
  obtain ⟨us, h1, _⟩ := h.row2
  exact ⟨lt_of_block h.head, h.row1.lt, h1.lt⟩
theorem RHandAt.keep {S : List Nat} {w w' : World} {b g1 g2 : Nat} {xs ts : List Int} (h : RHandAt w b g1 g2 xs ts) (k : Keep S w w') (h1 : b ∉ S) (h2 : g1 ∉ S) (h3 : g2 ∉ S) : RHandAt w' b g1 g2 xs ts := by
  obtain ⟨us, r1, r2⟩ := h.row2
  exact ⟨k.blk h.head h1, h.row1.keep k h2, ⟨us, r1.keep k h3, r2⟩, h.n1, h.n2, h.n3⟩
theorem RHandAt.keep0 {w w' : World} {b g1 g2 : Nat} {xs ts : List Int} (h : RHandAt w b g1 g2 xs ts) (k : Keep [] w w') : RHandAt w' b g1 g2 xs ts := h.keep k (by simp) (by simp) (by simp)
theorem RHandAt.cells {w : World} {b g1 g2 : Nat} {xs ts : List Int} (h : RHandAt w b g1 g2 xs ts) : w.cell? ⟨b, 0, none⟩ = some (.slice (some ⟨g1, 0, none⟩) 512 512) ∧ w.cell? ⟨b, 1, none⟩ = some (.slice (some ⟨g2, 0, none⟩) 512 512) := by
  have := h.head
  exact ⟨by simp [World.cell?, this], by simp [World.cell?, this]⟩
theorem RHandAt.at {w : World} {b g1 g2 : Nat} {xs ts : List Int} (h : RHandAt w b g1 g2 xs ts) (hl : xs.length = 512) (i : Nat) (hi : i < 512) :
    w.cell? ⟨g1, i, none⟩ = some (.int .i64 (xs[i]?.getD 0)) ∧ w.cell? ⟨g2, i, none⟩ = some (.int .i64 (ts[i]?.getD 0 - 1)) ∧ w.frozen? ⟨g1, i, none⟩ = false ∧ w.frozen? ⟨g2, i, none⟩ = false := by
  obtain ⟨us, r1, r2, r3⟩ := h.row2
  refine ⟨h.row1.cell (by omega), ?_, h.row1.free _, r1.free _⟩
  rw [r1.cell (by omega), ← r3 i hi, Int.add_sub_cancel]
theorem RHandAt.putAt {w : World} {b g1 g2 : Nat} {xs ts : List Int} (h : RHandAt w b g1 g2 xs ts) (i : Nat) (a : Int) : RHandAt (w.setCell ⟨g1, i, none⟩ (.int .i64 a)) b g1 g2 (xs.set i a) ts := by
  have k : Keep [g1] w (w.setCell ⟨g1, i, none⟩ (.int .i64 a)) := Keep.setCell _ _ (by simp)
  obtain ⟨us, r1, r2⟩ := h.row2
  exact ⟨k.blk h.head (by simpa using h.n1), h.row1.put i a, ⟨us, r1.keep k (by simpa using h.n3.symm), r2⟩, h.n1, h.n2, h.n3⟩
theorem RHandAt.putTurn {w : World} {b g1 g2 : Nat} {xs ts : List Int} (h : RHandAt w b g1 g2 xs ts) (hl : ts.length = 512) (i : Nat) (hi : i < 512) (t : Int) : RHandAt (w.setCell ⟨g2, i, none⟩ (.int .i64 t)) b g1 g2 xs (ts.set i (t + 1)) := by
  have k : Keep [g2] w (w.setCell ⟨g2, i, none⟩ (.int .i64 t)) := Keep.setCell _ _ (by simp)
  obtain ⟨us, r1, r2, r3⟩ := h.row2
  refine ⟨k.blk h.head (by simpa using h.n2), h.row1.keep k (by simpa using h.n3), ⟨_, r1.put i t, by rw [List.length_set]; exact r2, fun j hj => ?_⟩, h.n1, h.n2, h.n3⟩
  by_cases e : i = j
  · subst e; rw [set_get_same _ _ _ (by omega), set_get_same _ _ _ (by omega)]
  · rw [set_get_other _ _ _ _ e, set_get_other _ _ _ _ e]; exact r3 j hj

theorem three_rows (w : World) (zs : Array Value) (hz : zs = madeCells #[.int .i64 0] 512) (d : Array Value) (t s : TypeId) :
    Row (((w.alloc (.cells zs t)).alloc (.cells zs t)).alloc (.cells d s)).drew t w.heap.size (zeros 512) ∧ Row (((w.alloc (.cells zs t)).alloc (.cells zs t)).alloc (.cells d s)).drew t (w.heap.size + 1) (zeros 512) ∧
      (((w.alloc (.cells zs t)).alloc (.cells zs t)).alloc (.cells d s)).drew.heap[w.heap.size + 1 + 1]? = some (.cells d s (0, 0)) ∧ Keep [] w (((w.alloc (.cells zs t)).alloc (.cells zs t)).alloc (.cells d s)).drew := by
  subst hz
  have k1 := Keep.alloc [] w (.cells (madeCells #[.int .i64 0] 512) t)
  have k2 := Keep.alloc [] (w.alloc (.cells (madeCells #[.int .i64 0] 512) t)) (.cells (madeCells #[.int .i64 0] 512) t)
  have k3 := (Keep.alloc [] ((w.alloc (.cells (madeCells #[.int .i64 0] 512) t)).alloc (.cells (madeCells #[.int .i64 0] 512) t)) (.cells d s)).trans (Keep.drew [] _)
  have r1 := Row.made w t 512
  have r2 := Row.made (w.alloc (.cells (madeCells #[.int .i64 0] 512) t)) t 512
  have e2 : (w.alloc (.cells (madeCells #[.int .i64 0] 512) t)).heap.size = w.heap.size + 1 := by simp
  have e3 : ((w.alloc (.cells (madeCells #[.int .i64 0] 512) t)).alloc (.cells (madeCells #[.int .i64 0] 512) t)).heap.size = w.heap.size + 1 + 1 := by simp
  have r3 := heap_alloc_new ((w.alloc (.cells (madeCells #[.int .i64 0] 512) t)).alloc (.cells (madeCells #[.int .i64 0] 512) t)) (.cells d s)
  rw [e3] at r3
  rw [e2] at r2
  exact ⟨(r1.keep k2 (by simp)).keep k3 (by simp), r2.keep k3 (by simp), r3, (k1.trans k2).trans k3⟩

set_option maxRecDepth 100000 in
set_option maxHeartbeats 1600000 in
theorem rhnew (w : World) :
    Calls Try.prog 10 #[] w fun e w' => ∃ b g1 g2, e = .returned (.pointer (some ⟨b, 0, none⟩)) ∧ RHandAt w' b g1 g2 (zeros 512) onesL ∧ Keep [] w w' ∧ w.heap.size ≤ b ∧ w.heap.size ≤ g1 ∧ w.heap.size ≤ g2 := by
  have hmk : ∀ w, (Instr.makeSlice 46 (.int .i64 512) (.int .i64 512)).run Try.prog w = .ok (.slice (some ⟨w.heap.size, 0, none⟩) 512 512) (w.alloc (.cells (madeCells #[.int .i64 0] 512) 3)) := by
    intro w
    exact run_make_row' (P := Try.prog) 46 3 (.int .i64 0) 8 Try.underlying46 Try.infoIntH rfl .i64 .i64 512 (by omega) (by omega) w
  obtain ⟨zs, hzs⟩ : ∃ zs, madeCells #[.int .i64 0] 512 = zs := ⟨_, rfl⟩
  rw [hzs] at hmk
  have HZ := (show Hid (zs = madeCells #[.int .i64 0] 512) from hzs.symm)
  clear hzs
  go_enter Try.func10, Try.ntmps10
  go_wp2
  go_region
  all_goals (go_wp2_with fail)
  · go_ret
    obtain ⟨h1, h2, h3, hK⟩ := three_rows w zs HZ.out #[.slice (some ⟨w.heap.size, 0, none⟩) 512 512, .slice (some ⟨w.heap.size + 1, 0, none⟩) 512 512] 3 62
    exact ⟨w.heap.size + 1 + 1, w.heap.size, w.heap.size + 1, rfl, ⟨h3, h1, ⟨_, h2, zeros_length _, fun i hi => by rw [zeros_get, onesL_get i hi]; rfl⟩, by omega, by omega, by omega⟩, hK, by omega, by omega, by omega⟩
  · go_ret
    obtain ⟨h1, h2, h3, hK⟩ := three_rows w zs HZ.out #[.slice (some ⟨w.heap.size + 1, 0, none⟩) 512 512, .slice (some ⟨w.heap.size, 0, none⟩) 512 512] 3 62
    exact ⟨w.heap.size + 1 + 1, w.heap.size + 1, w.heap.size, rfl, ⟨h3, h2, ⟨_, h1, zeros_length _, fun i hi => by rw [zeros_get, onesL_get i hi]; rfl⟩, by omega, by omega, by omega⟩, hK, by omega, by omega, by omega⟩

/-- The box of an answer of two numbers. -/
theorem got_put {w : World} {b : Nat} {t : TypeId} {x y : Value} (h : w.heap[b]? = some (.cells #[x, y] t (0, 0))) (N E : Value) :
    ((w.setCell ⟨b, 0, none⟩ N).setCell ⟨b, 1, none⟩ E).heap[b]? = some (.cells #[N, E] t (0, 0)) ∧ Keep [b] w ((w.setCell ⟨b, 0, none⟩ N).setCell ⟨b, 1, none⟩ E) := by
  have z1 := heap_setCell_same w b 0 _ _ N h
  have z2 := heap_setCell_same _ b 1 _ _ E z1
  exact ⟨by simpa using z2, (Keep.setCell _ _ (by simp)).trans (Keep.setCell _ _ (by simp))⟩
theorem two_cells {w : World} {b : Nat} {t : TypeId} {x y : Value} (h : w.heap[b]? = some (.cells #[x, y] t (0, 0))) :
    w.cell? ⟨b, 0, none⟩ = some x ∧ w.cell? ⟨b, 1, none⟩ = some y ∧ w.frozen? ⟨b, 0, none⟩ = false ∧ w.frozen? ⟨b, 1, none⟩ = false :=
  ⟨by simp [World.cell?, h], by simp [World.cell?, h], by simp [World.frozen?, h], by simp [World.frozen?, h]⟩

set_option maxRecDepth 100000 in
set_option maxHeartbeats 3200000 in
theorem rhold {B : Nat} (b g1 g2 : Nat) (a N E : Int) (xs ts xs' : List Int) (w : World) (h : RHandAt w b g1 g2 xs ts) (hk : HOK B xs ts) (hB : B ≤ 1000000) (hr : HoldT xs ts a N E xs') :
    Calls Try.prog 13 #[.pointer (some ⟨b, 0, none⟩), .int .i64 a] w fun e w' => e = .returned (.agg #[.int .i64 N, .int .i64 E]) ∧ RHandAt w' b g1 g2 xs' ts ∧ Keep [g1] w w' := by
  have hK1 := Keep.alloc [] w (.cells #[.int .i64 0, .int .i64 0] 38)
  have hx1 := heap_alloc_new w (.cells #[.int .i64 0, .int .i64 0] 38)
  have hl := h.lt
  have h1 := h.keep0 hK1
  have HK := (show Hid (HOK B xs ts) from hk)
  have hn1 := h.n1
  have hn2 := h.n2
  have hn3 := h.n3
  by_cases ha : a < 1
  · have hT : N = 0 ∧ E = 1 ∧ xs' = xs := by
      rcases hr with ⟨_, r⟩ | ⟨r, _⟩ | ⟨r, _⟩
      · exact r
      · omega
      · omega
    obtain ⟨rfl, rfl, rfl⟩ := hT
    have HH := (show Hid (RHandAt w b g1 g2 xs' ts) from h)
    clear h hk hr h1
    go_enter Try.func13, Try.ntmps13
    go_wp2
    refine bodyPost_ret (results_cell_row rfl _ _ w.heap.size 38 #[.int .i64 0, .int .i64 1] (0, 0) _ rfl (heap_alloc_new w _) Try.underlying38 rfl (by kernel_rfl)) rfl ?_
    exact ⟨rfl, HH.out.keep0 (Keep.alloc [] w _), (Keep.alloc [] w _).mono (by simp)⟩
  · have HH := (show Hid (RHandAt _ b g1 g2 xs ts) from h1)
    have HR := (show Hid (HoldT xs ts a N E xs') from hr)
    have hd : decide (a < 1) = false := by rw [decide_eq_false_iff_not]; omega
    have ha1 : 1 ≤ a := by omega
    obtain ⟨d0, d1⟩ := h1.cells
    clear h hk hr h1
    go_enter Try.func13, Try.ntmps13
    go_wp2
    generalize w.alloc (.cells #[.int .i64 0, .int .i64 0] 38) = w1 at *
    obtain ⟨bx, hbx⟩ : ∃ bx, w.heap.size = bx := ⟨_, rfl⟩
    rw [hbx] at hx1 hl ⊢
    go_loop [5] (fun i => ∃ j : Nat, i = .int .i64 j ∧ j ≤ 512 ∧ Hid (∀ k, k < j → xs[k]?.getD 0 ≠ 0)) (fun i => 512 - (intOf i).toNat)
    case atStart => exact ⟨0, rfl, by omega, fun k hk => by omega⟩
    case round =>
      obtain ⟨j, rfl, hj, HJ⟩ := hrel
      by_cases hlt : j < 512
      · obtain ⟨e0, e1, e2, e3⟩ := HH.out.at HK.out.lx j hlt
        by_cases hx : xs[j]?.getD 0 = 0
        · rw [hx] at e0
          have htj := HK.out.t j hlt
          obtain ⟨t1, ht1⟩ : ∃ t1, ts[j]?.getD 0 - 1 = t1 := ⟨_, rfl⟩
          have hT : N = (j : Int) + 512 * (t1 + 1) ∧ E = 0 ∧ xs' = xs.set j a := by
            rcases HR.out with ⟨r, _⟩ | ⟨_, r, _⟩ | ⟨_, i, r1, r2, r3, r4⟩
            · omega
            · exact absurd hx (r j hlt)
            · obtain rfl := r1.same (show FreeAt xs j from ⟨hlt, hx, HJ.out⟩)
              exact ⟨by omega, r3, r4⟩
          rw [ht1] at e1
          have q0 : 0 ≤ t1 := by omega
          have q1 : t1 ≤ 1000000 := by omega
          obtain ⟨rfl, rfl, rfl⟩ := hT
          have hk2 : Keep [g1] w1 (w1.setCell ⟨g1, j, none⟩ (.int .i64 a)) := Keep.setCell _ _ (by simp)
          have HP := (show Hid (RHandAt (w1.setCell ⟨g1, j, none⟩ (.int .i64 a)) b g1 g2 (xs.set j a) ts) from HH.out.putAt j a)
          have hx2 := hk2.blk hx1 (by simp; omega)
          obtain ⟨c0, c1, f0, f1⟩ := two_cells hx2
          obtain ⟨p0, p1⟩ := HP.out.cells
          have p2 := (HP.out.at (by rw [List.length_set]; exact HK.out.lx) j hlt).2.1
          rw [ht1] at p2
          clear ht1 htj hx
          go_wp2
          obtain ⟨z, hk4⟩ := got_put hx2 (.int .i64 ((j : Int) + 512 * (t1 + 1))) (.int .i64 0)
          refine bodyPost_ret (results_cell_row rfl _ _ bx 38 #[.int .i64 ((j : Int) + 512 * (t1 + 1)), .int .i64 0] (0, 0) _ rfl z Try.underlying38 rfl (by kernel_rfl)) rfl ?_
          exact ⟨rfl, HP.out.keep hk4 (by simp; omega) (by simp; omega) (by simp; omega), (((hK1.mono (T := [g1, bx]) (by simp)).trans (hk2.mono (by simp))).trans (hk4.mono (by simp))).drop (by simp; omega)⟩
        · have HJ2 := (show Hid (∀ k, k < j + 1 → xs[k]?.getD 0 ≠ 0) from fun k hk => by
            rcases Nat.lt_or_ge k j with e | e
            · exact HJ.out k e
            · obtain rfl : k = j := by omega
              exact hx)
          generalize xs[j]?.getD 0 = x at e0 hx
          have hb : (x == 0) = false := by rw [beq_eq_false_iff_ne]; exact hx
          clear hx
          go_wp2
          go_round
          case rel => exact ⟨j + 1, by go_num, by omega, HJ2⟩
          case measure => simp [intOf]; omega
      · have hj5 : j = 512 := by omega
        have hT : N = 0 ∧ E = 3 ∧ xs' = xs := by
          rcases HR.out with ⟨r, _⟩ | ⟨_, _, r⟩ | ⟨_, i, r1, _⟩
          · omega
          · exact r
          · exact absurd r1.2.1 (HJ.out i (by rw [hj5]; exact r1.1))
        obtain ⟨rfl, rfl, rfl⟩ := hT
        obtain ⟨c0, c1, f0, f1⟩ := two_cells hx1
        go_wp2
        obtain ⟨z, hk4⟩ := got_put hx1 (.int .i64 0) (.int .i64 3)
        refine bodyPost_ret (results_cell_row rfl _ _ bx 38 #[.int .i64 0, .int .i64 3] (0, 0) _ rfl z Try.underlying38 rfl (by kernel_rfl)) rfl ?_
        exact ⟨rfl, HH.out.keep hk4 (by simp; omega) (by simp; omega) (by simp; omega), ((hK1.mono (T := [g1, bx]) (by simp)).trans (hk4.mono (by simp))).drop (by simp; omega)⟩

set_option maxRecDepth 100000 in
set_option maxHeartbeats 3200000 in
theorem rheld_low (v : Value) (x : Int) (w : World) (hx : x < 512) :
    Calls Try.prog 18 #[v, .int .i64 x] w fun e w' => e = .returned (.agg #[.int .i64 0, .int .i64 6]) ∧ Keep [] w w' := by
  go_enter Try.func18, Try.ntmps18
  go_wp2
  refine bodyPost_ret (results_cell_row rfl _ _ w.heap.size 38 #[.int .i64 0, .int .i64 6] (0, 0) _ rfl (heap_alloc_new w _) Try.underlying38 rfl (by kernel_rfl)) rfl ?_
  exact ⟨rfl, Keep.alloc [] w _⟩
set_option maxRecDepth 100000 in
set_option maxHeartbeats 3200000 in
theorem rheld_core {B : Nat} (b g1 g2 i q : Nat) (x N E : Int) (xs ts : List Int) (w : World) (h : RHandAt w b g1 g2 xs ts) (hk : HOK B xs ts) (hB : B ≤ 1000000) (hi : i < 512) (hx : 512 ≤ x) (hq9 : (q : Int) ≤ 9223372036854775807) (hm : x.tmod 512 = i) (hq : x.tdiv 512 = q)
    (hr : (xs[i]?.getD 0 ≠ 0 ∧ (q : Int) = ts[i]?.getD 0 ∧ N = xs[i]?.getD 0 ∧ E = 0) ∨ (¬ (xs[i]?.getD 0 ≠ 0 ∧ (q : Int) = ts[i]?.getD 0) ∧ N = 0 ∧ E = 6)) :
    Calls Try.prog 18 #[.pointer (some ⟨b, 0, none⟩), .int .i64 x] w fun e w' => e = .returned (.agg #[.int .i64 N, .int .i64 E]) ∧ Keep [] w w' := by
  have hK1 := Keep.alloc [] w (.cells #[.int .i64 0, .int .i64 0] 38)
  have hx1 := heap_alloc_new w (.cells #[.int .i64 0, .int .i64 0] 38)
  have h1 := h.keep0 hK1
  obtain ⟨d0, d1⟩ := h1.cells
  obtain ⟨e0, e1, _, _⟩ := h1.at hk.lx i hi
  obtain ⟨c0, c1, f0, f1⟩ := two_cells hx1
  have hd : decide (x < 512) = false := by rw [decide_eq_false_iff_not]; omega
  have ht := hk.t i hi
  clear h hk h1
  generalize xs[i]?.getD 0 = x0 at *
  generalize ts[i]?.getD 0 = t0 at *
  by_cases hz : x0 = 0
  · have hT : N = 0 ∧ E = 6 := by
      rcases hr with ⟨r, _⟩ | ⟨_, r⟩
      · exact absurd hz r
      · exact r
    obtain ⟨rfl, rfl⟩ := hT
    subst hz
    clear hr
    go_enter Try.func18, Try.ntmps18
    go_wp2
    refine bodyPost_ret (results_cell_row rfl _ _ w.heap.size 38 #[.int .i64 0, .int .i64 6] (0, 0) _ rfl (heap_alloc_new w _) Try.underlying38 rfl (by kernel_rfl)) rfl ?_
    exact ⟨rfl, Keep.alloc [] w _⟩
  · have hb : (x0 == 0) = false := by rw [beq_eq_false_iff_ne]; exact hz
    obtain ⟨u0, hu⟩ : ∃ u0, t0 - 1 = u0 := ⟨_, rfl⟩
    rw [hu] at e1
    obtain rfl : t0 = u0 + 1 := by omega
    have q0 : 0 ≤ u0 := by omega
    have q1 : u0 ≤ 1000000 := by omega
    by_cases he : (q : Int) = u0 + 1
    · have hT : N = x0 ∧ E = 0 := by
        rcases hr with ⟨_, _, r⟩ | ⟨r, _⟩
        · exact r
        · exact absurd ⟨hz, he⟩ r
      obtain ⟨hT, rfl⟩ := hT
      subst hT
      have hqb : ((q : Int) == u0 + 1) = true := by rw [beq_iff_eq]; exact he
      clear hr hz he hu ht
      go_enter Try.func18, Try.ntmps18
      go_wp2
      refine bodyPost_ret (results_cell_row rfl _ _ w.heap.size 38 #[.int .i64 N, .int .i64 0] (0, 0) _ rfl (heap_alloc_new w _) Try.underlying38 rfl (by kernel_rfl)) rfl ?_
      exact ⟨rfl, Keep.alloc [] w _⟩
    · have hT : N = 0 ∧ E = 6 := by
        rcases hr with ⟨_, r, _⟩ | ⟨_, r⟩
        · exact absurd r he
        · exact r
      obtain ⟨rfl, rfl⟩ := hT
      have hqb : ((q : Int) == u0 + 1) = false := by rw [beq_eq_false_iff_ne]; exact he
      clear hr hz he hu ht
      go_enter Try.func18, Try.ntmps18
      go_wp2
      refine bodyPost_ret (results_cell_row rfl _ _ w.heap.size 38 #[.int .i64 0, .int .i64 6] (0, 0) _ rfl (heap_alloc_new w _) Try.underlying38 rfl (by kernel_rfl)) rfl ?_
      exact ⟨rfl, Keep.alloc [] w _⟩
theorem rheld {B : Nat} (b g1 g2 : Nat) (x N E : Int) (xs ts : List Int) (w : World) (h : RHandAt w b g1 g2 xs ts) (hk : HOK B xs ts) (hB : B ≤ 1000000) (hx : x ≤ 9223372036854775807) (hr : HeldT xs ts x N E) :
    Calls Try.prog 18 #[.pointer (some ⟨b, 0, none⟩), .int .i64 x] w fun e w' => e = .returned (.agg #[.int .i64 N, .int .i64 E]) ∧ Keep [] w w' := by
  by_cases h5 : x < 512
  · rcases hr with ⟨_, rfl, rfl⟩ | ⟨i, h1, _⟩
    · exact rheld_low _ x w h5
    · exact absurd h1 (stale_low hk h5 i)
  · obtain ⟨i, q, hi, he, hm, hq, hiff, hall⟩ := held_slot hk (show 512 ≤ x by omega)
    refine rheld_core b g1 g2 i q x N E xs ts w h hk hB hi (by omega) (by omega) hm hq ?_
    rcases hr with ⟨h1, rfl, rfl⟩ | ⟨k, h1, rfl, rfl⟩
    · exact .inr ⟨fun g => h1 i (hiff.2 g), rfl, rfl⟩
    · obtain rfl := hall k h1
      exact .inl ⟨(hiff.1 h1).1, (hiff.1 h1).2, rfl, rfl⟩

set_option maxRecDepth 100000 in
set_option maxHeartbeats 3200000 in
theorem rdrop {B : Nat} (b g1 g2 : Nat) (x E : Int) (xs ts xs' ts' : List Int) (w : World) (h : RHandAt w b g1 g2 xs ts) (hk : HOK B xs ts) (hB : B ≤ 1000000) (hx : x ≤ 9223372036854775807) (hr : DropT xs ts x E xs' ts') :
    Calls Try.prog 16 #[.pointer (some ⟨b, 0, none⟩), .int .i64 x] w fun e w' => e = .returned (.int .i64 E) ∧ RHandAt w' b g1 g2 xs' ts' ∧ Keep [g1, g2] w w' := by
  have HH := (show Hid (RHandAt w b g1 g2 xs ts) from h)
  have HK := (show Hid (HOK B xs ts) from hk)
  rcases hr with ⟨h1, rfl, rfl, rfl⟩ | ⟨i, h1, rfl, rfl, rfl⟩
  · have HS := (show Hid (Stale xs' ts' x) from h1)
    clear h hk h1
    go_enter Try.func16, Try.ntmps16
    go_wp2_with (first | (go_at_call 18; refine (rheld b g1 g2 x 0 6 xs' ts' _ HH.out HK.out hB hx (.inl ⟨HS.out, rfl, rfl⟩)).mono ?_; rintro e w1 ⟨rfl, hK1⟩; have hx1 := heap_alloc_new w1 (.cells #[.int .i64 0, .int .i64 6] 38); obtain ⟨c0, c1, f0, f1⟩ := two_cells hx1))
    go_ret
    exact ⟨rfl, HH.out.keep0 (hK1.trans (Keep.alloc [] w1 _)), (hK1.trans (Keep.alloc [] w1 _)).mono (by simp)⟩
  · have hi := h1.1
    have h5 : 512 ≤ x := by have := hk.t i hi; have := h1.2.2; omega
    have hm : x.tmod 512 = i := by
      obtain ⟨k, q, _, _, g1, _, _, g2⟩ := held_slot hk h5
      rw [g1, g2 i h1]
    have htt := hk.t i hi
    have HS := (show Hid (HeldAt xs ts x i) from h1)
    obtain ⟨x0, hx0⟩ : ∃ x0, xs[i]?.getD 0 = x0 := ⟨_, rfl⟩
    obtain ⟨t1, ht1⟩ : ∃ t1, ts[i]?.getD 0 - 1 = t1 := ⟨_, rfl⟩
    have HX0 := (show Hid (xs[i]?.getD 0 = x0) from hx0)
    have HT0 := (show Hid (ts[i]?.getD 0 - 1 = t1) from ht1)
    have q0 : 0 ≤ t1 := by omega
    have q1 : t1 ≤ 1000000 := by omega
    have e4 : ts[i]?.getD 0 + 1 = t1 + 1 + 1 := by omega
    rw [e4]
    have n1 := h.n1
    have n2 := h.n2
    have n3 := h.n3
    clear h hk h1 hx0 ht1 htt e4
    go_enter Try.func16, Try.ntmps16
    go_wp2_with (first | (go_at_call 18; refine (rheld b g1 g2 x x0 0 xs ts _ HH.out HK.out hB hx (.inr ⟨i, HS.out, HX0.out.symm, rfl⟩)).mono ?_; rintro e w1 ⟨rfl, hK1⟩; have hx1 := heap_alloc_new w1 (.cells #[.int .i64 x0, .int .i64 0] 38); obtain ⟨c0, c1, f0, f1⟩ := two_cells hx1; have hh1 := HH.out.keep0 (hK1.trans (Keep.alloc [] w1 (.cells #[.int .i64 x0, .int .i64 0] 38))); obtain ⟨d0, d1⟩ := hh1.cells; obtain ⟨a0, a1, a2, a3⟩ := hh1.at HK.out.lx i hi; rw [HX0.out] at a0; rw [HT0.out] at a1; have hh2 := (hh1.putAt i 0).putTurn HK.out.lt i hi (t1 + 1); have HH2 := (show Hid (RHandAt _ b g1 g2 (xs.set i 0) (ts.set i (t1 + 1 + 1))) from hh2); clear hh1 hh2; have hl := HH.out.lt; have hs1 := hK1.size; have hw1 : w1.heap.size ≠ g1 := (by omega); have hw2 : w1.heap.size ≠ g2 := (by omega); clear hl hs1))
    go_ret
    exact ⟨rfl, HH2.out, ((hK1.trans (Keep.alloc [] w1 _)).mono (by simp)).trans ((Keep.setCell _ _ (by simp)).trans (Keep.setCell _ _ (by simp)))⟩

set_option maxRecDepth 100000 in
set_option maxHeartbeats 3200000 in
theorem rall {B : Nat} (b g1 g2 : Nat) (xs ts : List Int) (w : World) (h : RHandAt w b g1 g2 xs ts) (hk : HOK B xs ts) (hB : B ≤ 1000000) :
    Calls Try.prog 11 #[.pointer (some ⟨b, 0, none⟩)] w fun e w' => ∃ va vc, e = .returned (.slice va (allH xs ts).length vc) ∧ HeldsAt w w' va (allH xs ts).length vc (allH xs ts) ∧ Keep [] w w' := by
  obtain ⟨i0, hi, hz0, hz1, hz2⟩ := info_parts Try.infoHeld
  have hI : Hid (Try.prog.info? 33 = some i0 ∧ i0.zero = some (.agg #[.int .i64 0, .int .i64 0]) ∧ i0.size = 2 ∧ i0.bytes = 16) := ⟨hi, hz0, hz1, hz2⟩
  clear hi hz0 hz1 hz2
  have HH := (show Hid (RHandAt w b g1 g2 xs ts) from h)
  have HK := (show Hid (HOK B xs ts) from hk)
  clear h hk
  go_enter Try.func11, Try.ntmps11
  go_wp2
  go_loopw [3, 4] (fun v i wr => ∃ (j q : Nat) (va : Option Addr) (vc : Nat), v = .slice va q vc ∧ i = .int .i64 j ∧ j ≤ 512 ∧ q ≤ j ∧ Hid (HeldsAt w wr va q vc (allTo xs ts j)) ∧ Keep [] w wr) (fun _ i _ => 512 - (intOf i).toNat)
  case atStart => exact ⟨0, 0, none, 0, rfl, rfl, by omega, by omega, HeldsAt.nil _ _, Keep.refl _ _⟩
  case round =>
    obtain ⟨j, q, va, vc, rfl, rfl, hj, hq, HO, hK⟩ := hrel
    obtain ⟨d0, d1⟩ := (HH.out.keep0 hK).cells
    by_cases hlt : j < 512
    · obtain ⟨c0, c1, _, _⟩ := (HH.out.keep0 hK).at HK.out.lx j hlt
      by_cases hx : xs[j]?.getD 0 = 0
      · rw [hx] at c0
        have HO2 := (show Hid (HeldsAt w wr va q vc (allTo xs ts (j + 1))) from by rw [allTo_no hx]; exact HO.out)
        clear hx HO
        go_wp2_with fail
        go_roundw
        case rel => exact ⟨j + 1, q, va, vc, rfl, by go_num, by omega, by omega, HO2, hK⟩
        case measure => simp [intOf]; omega
      · have hAT := allTo_yes (ts := ts) hx
        have htj := HK.out.t j hlt
        obtain ⟨x, hxe⟩ : ∃ x, xs[j]?.getD 0 = x := ⟨_, rfl⟩
        obtain ⟨t1, ht1⟩ : ∃ t1, ts[j]?.getD 0 - 1 = t1 := ⟨_, rfl⟩
        obtain ⟨N, hN⟩ : ∃ N, (j : Int) + 512 * (t1 + 1) = N := ⟨_, rfl⟩
        have hN2 : (j : Int) + 512 * ts[j]?.getD 0 = N := by omega
        rw [hxe, hN2] at hAT
        rw [hxe] at c0 hx
        rw [ht1] at c1
        have HAT := (show Hid (allTo xs ts (j + 1) = allTo xs ts j ++ [(N, x)]) from hAT)
        have HN := (show Hid ((j : Int) + 512 * (t1 + 1) = N) from hN)
        have q0 : 0 ≤ t1 := by omega
        have q1 : t1 ≤ 1000000 := by omega
        have hb : (x == 0) = false := by rw [beq_eq_false_iff_ne]; exact hx
        have y0 : wr.drew.cell? ⟨b, 0, none⟩ = some (.slice (some ⟨g1, 0, none⟩) 512 512) := d0
        have y1 : wr.drew.cell? ⟨b, 1, none⟩ = some (.slice (some ⟨g2, 0, none⟩) 512 512) := d1
        have y2 : wr.drew.cell? ⟨g1, j, none⟩ = some (.int .i64 x) := c0
        have y3 : wr.drew.cell? ⟨g2, j, none⟩ = some (.int .i64 t1) := c1
        have hw1 : IntKind.i64.wrap (t1 + 1) = t1 + 1 := IntWalk.i64_in _ (by omega)
        have hw2 : IntKind.i64.wrap (512 * (t1 + 1)) = 512 * (t1 + 1) := IntWalk.i64_in _ (by omega)
        have hw3 : IntKind.i64.wrap ((j : Int) + 512 * (t1 + 1)) = (j : Int) + 512 * (t1 + 1) := IntWalk.i64_in _ (by omega)
        clear hxe hAT hN hN2 hx ht1 htj
        go_wp2_with fail
        have HO5 := (show Hid (HeldsAt w wr.drew va q vc (allTo xs ts j)) from HO.out.keep (Keep.drew [] wr) (by simp))
        have HK5 := (show Hid (Keep [] w wr.drew) from hK.trans (Keep.drew [] wr))
        clear HO
        go_region_law (refine step_append_lies _ rfl (.tmp 22) (.tmp 42) 30 rfl w.heap.size 33 i0 (.agg #[.int .i64 0, .int .i64 0]) 2 16 Try.underlying30 hI.out.1 hI.out.2.1 hI.out.2.2.1 hI.out.2.2.2 rfl (by decide) (.slice va q vc) q (flatH (allTo xs ts j)) rfl (HO5.out.keep (Keep.alloc [] wr.drew _) (by simp)).own ⟨wr.drew.heap.size, 0, none⟩ 1 1 [.int .i64 ((j : Int) + 512 * (t1 + 1)), .int .i64 x] rfl rfl (World.news_of_block (heap_alloc_new wr.drew _)) (oneCells2 _ x) (by omega) (by unfold maxLen; omega) (by omega) (by have := hK.size; simp; omega) (wr.drew.heap.size + 1) (by simp) ?_; intro g cap w7 hown hgrow hat hltg; have HADD := (show Hid (HeldsAt w w7 (some ⟨g, 0, none⟩) (q + 1) cap (allTo xs ts (j + 1)) ∧ Keep [] w w7) from ⟨⟨by rw [HAT.out, flatH_snoc, ← HN.out]; exact hown, by rw [HAT.out, List.length_append, HO5.out.len]; rfl⟩, HO5.out.grow HK5.out hgrow⟩); clear hown hgrow hat hltg)
        all_goals (go_wp2_with fail)
        all_goals go_roundw
        all_goals first
          | exact ⟨j + 1, q + 1, _, _, rfl, by go_num, by omega, by omega, (show Hid _ from HADD.out.1), HADD.out.2⟩
          | (simp [intOf]; omega)
    · obtain rfl : j = 512 := by omega
      have hql : (allH xs ts).length = q := HO.out.len
      have HO2 := (show Hid (HeldsAt w wr va q vc (allH xs ts)) from HO.out)
      clear HO
      go_wp2_with fail
      go_ret
      exact ⟨va, vc, by rw [hql]; rfl, by rw [hql]; exact HO2.out, hK⟩

set_option maxHeartbeats 1600000 in
theorem rroom {B : Nat} (b g1 g2 : Nat) (xs ts : List Int) (w : World) (h : RHandAt w b g1 g2 xs ts) (hk : HOK B xs ts) (hB : B ≤ 1000000) :
    Calls Try.prog 20 #[.pointer (some ⟨b, 0, none⟩)] w fun e w' => e = .returned (.int .i64 (512 - ((allH xs ts).length : Int))) ∧ Keep [] w w' := by
  have HH := (show Hid (RHandAt w b g1 g2 xs ts) from h)
  have HK := (show Hid (HOK B xs ts) from hk)
  have hl := allH_len xs ts
  obtain ⟨n, hn⟩ : ∃ n, (allH xs ts).length = n := ⟨_, rfl⟩
  have HN := (show Hid ((allH xs ts).length = n) from hn)
  rw [hn] at hl ⊢
  clear h hk hn
  go_enter Try.func20, Try.ntmps20
  go_wp2_with (first | (go_at_call 11; refine (rall b g1 g2 xs ts _ HH.out HK.out hB).mono ?_; rw [HN.out]; rintro e w1 ⟨va, vc, rfl, hA, hK⟩))
  go_ret
  exact ⟨rfl, hK⟩

set_option maxRecDepth 100000 in
set_option maxHeartbeats 1600000 in
theorem same_held {w1 w2 : World} {va vb : Option Addr} {n ca cb : Nat} {l : List (Int × Int)} (w : World) (hA : HeldsAt w1 w va n ca l) (hB : HeldsAt w2 w vb n cb l) (hn : n ≤ 1000000) :
    Calls Try.prog 21 #[.slice va n ca, .slice vb n cb] w fun e w' => e = .returned (.bool true) ∧ Keep [] w w' := by
  have HA := (show Hid (HeldsAt w1 w va n ca l) from hA)
  have HB := (show Hid (HeldsAt w2 w vb n cb l) from hB)
  clear hA hB
  go_enter Try.func21, Try.ntmps21
  go_wp2
  go_loopw [5] (fun i wr => ∃ j : Nat, i = .int .i64 j ∧ j ≤ n ∧ Hid (∃ m, wr = w.drewN m)) (fun i _ => n - (intOf i).toNat)
  case atStart => exact ⟨0, rfl, by omega, 0, rfl⟩
  case round =>
    obtain ⟨j, rfl, hj, hD⟩ := hrel
    have hK : Keep [] w wr := by obtain ⟨m, e⟩ := hD.out; rw [e]; exact Keep.drewN _ _ _
    by_cases hlt : j < n
    · obtain ⟨p, hp⟩ : ∃ p, l[j]? = some p := ⟨_, List.getElem?_eq_getElem (by rw [HA.out.len]; exact hlt)⟩
      obtain ⟨b1, rfl, _, hb1, hc1⟩ := (HA.out.keep hK (by simp)).cells (by omega)
      obtain ⟨b2, rfl, _, hb2, hc2⟩ := (HB.out.keep hK (by simp)).cells (by omega)
      obtain ⟨y0, y1⟩ := hc1 j p hp
      obtain ⟨z0, z1⟩ := hc2 j p hp
      obtain ⟨p1, p2⟩ := p
      simp only at y0 y1 z0 z1
      clear hc1 hc2 hp
      go_wp2_with fail
      go_quiet (fail)
      go_wp2_with fail
      go_roundw
      case rel =>
        refine ⟨j + 1, by go_num, by omega, ?_⟩
        obtain ⟨m, e⟩ := hD.out
        exact ⟨m + nq, by rw [e, World.drewN_drewN]⟩
      case measure => simp [intOf]; omega
    · obtain rfl : j = n := by omega
      go_wp2
      go_ret
      exact ⟨rfl, hK⟩

end Go.Proofs.Ytenggkgmbmboeaa
