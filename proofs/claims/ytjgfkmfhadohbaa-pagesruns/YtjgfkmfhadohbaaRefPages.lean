/-
  What the document's own pages (a plain list of bools) do: NewPages, Take, Give.
-/
import Derived.Test.YtjgfkmfhadohbaaPagesOps
import Derived.Test.YtjgfkmfhadohbaaRefBits
namespace Go.Proofs.Ytjgfkmfhadohbaa
open Go.RowKit

set_option maxHeartbeats 400000 in
theorem rnew_ok (n : Nat) (w : World) (h1 : 1 ≤ n) (h2 : n ≤ 16384) :
    Calls Try.prog 11 #[.int .i64 n] w fun e w' => ∃ g, e = .returned (.slice (some ⟨g, 0, none⟩) n n) ∧ BRow w' 4 g (fresh n) ∧ Keep [] w w' ∧ w.heap.size ≤ g := by
  have hmk : ∀ w, (Instr.makeSlice 33 (.int .i64 (n : Int)) (.int .i64 (n : Int))).run Try.prog w = .ok (.slice (some ⟨w.heap.size, 0, none⟩) n n) (w.alloc (.cells (madeCells #[.bool false] n) 4)) :=
    fun w => run_make_row' (P := Try.prog) 33 4 (.bool false) 1 Try.underlying33 Try.infoBool rfl .i64 .i64 n (by omega) (by omega) w
  have hR := BRow.made w 4 n
  have hK := Keep.alloc [] w (.cells (madeCells #[.bool false] n) 4)
  have y1 := hR.cell (i := 0) (by rw [offs_length]; omega)
  have y2 := hR.free 0
  go_enter Try.func11, Try.ntmps11
  go_wp2
  go_ret
  have he : (madeCells #[.bool false] n).setIfInBounds 0 (.bool true) = (bools (fresh n)).toArray := by
    rw [bools_made, fresh, ← bools_set]; simp
  rw [he]
  exact ⟨w.heap.size, rfl, heap_alloc_new w _, Keep.alloc [] _ _, by omega⟩

set_option maxHeartbeats 400000 in
theorem rtake_low (x : Value) (k : Int) (w : World) (h : k < 1) :
    Calls Try.prog 15 #[x, .int .i64 k] w fun e w' => e = .returned (.agg #[.int .i64 0, .int .i64 1]) ∧ Keep [] w w' := by
  go_enter Try.func15, Try.ntmps15
  go_wp2
  refine bodyPost_ret (results_cell_row rfl _ _ w.heap.size 42 #[.int .i64 0, .int .i64 1] (0, 0) _ rfl (heap_alloc_new w _) Try.underlying42 rfl (by kernel_rfl)) rfl ?_
  exact ⟨rfl, Keep.alloc [] _ _⟩

theorem run_dn (g n c k : Nat) (xs : List Bool) (w : World) (hr : BRow w 4 g xs) (hxn : xs.length = n) (hn : n ≤ 16384) (hk1 : 1 ≤ k) :
    Calls Try.prog 27 #[.slice (some ⟨g, 0, none⟩) n c, .int .i64 0, .int .i64 k] w fun e w' => e = .returned (.int .i64 (runR xs 0 k)) ∧ w = w' := by
  have := rrun_any g n c 0 k xs w hr hxn hn (by omega)
  unfold runI at this
  rw [if_neg (by omega), Int.toNat_natCast] at this
  exact this

set_option maxHeartbeats 400000 in
theorem rtake_no (g n c k : Nat) (xs : List Bool) (w : World) (hr : BRow w 4 g xs) (hxn : xs.length = n) (hn : n ≤ 16384) (hk1 : 1 ≤ k) (h : runR xs 0 k = -1) :
    Calls Try.prog 15 #[.slice (some ⟨g, 0, none⟩) n c, .int .i64 k] w fun e w' => e = .returned (.agg #[.int .i64 0, .int .i64 3]) ∧ Keep [] w w' := by
  have hkd : decide ((k : Int) < 1) = false := by rw [decide_eq_false_iff_not]; omega
  have hr1 := hr.keep (Keep.alloc [] w (.cells #[.int .i64 0, .int .i64 0] 42)) (by simp)
  have HX := (show Hid (xs.length = n) from hxn)
  have HR := (show Hid (runR xs 0 k = -1) from h)
  clear hr hxn h
  go_enter Try.func15, Try.ntmps15
  go_wp2_with (go_at_call 27; refine (run_dn _ _ _ k _ _ hr1 HX.out hn hk1).mono ?_; rw [HR.out]; rintro e w' ⟨rfl, rfl⟩)
  refine bodyPost_ret (results_cell_row rfl _ _ w.heap.size 42 #[.int .i64 0, .int .i64 3] (0, 0) _ rfl (heap_alloc_new w _) Try.underlying42 rfl (by kernel_rfl)) rfl ?_
  exact ⟨rfl, Keep.alloc [] _ _⟩

set_option maxHeartbeats 800000 in
theorem rtake_yes (g n c k p : Nat) (xs : List Bool) (w : World) (hr : BRow w 4 g xs) (hxn : xs.length = n) (hn : n ≤ 16384) (hk1 : 1 ≤ k) (h : runR xs 0 k = p) (hl : p + k ≤ n) :
    Calls Try.prog 15 #[.slice (some ⟨g, 0, none⟩) n c, .int .i64 k] w fun e w' => e = .returned (.agg #[.int .i64 p, .int .i64 0]) ∧ BRow w' 4 g (putR xs p k true) ∧ Keep [g] w w' := by
  have hkd : decide ((k : Int) < 1) = false := by rw [decide_eq_false_iff_not]; omega
  have hpd : decide ((p : Int) < 0) = false := by rw [decide_eq_false_iff_not]; omega
  have hK1 := Keep.alloc [] w (.cells #[.int .i64 0, .int .i64 0] 42)
  have hr1 := hr.keep hK1 (by simp)
  have hx1 := heap_alloc_new w (.cells #[.int .i64 0, .int .i64 0] 42)
  have hlt := hr.lt
  have HX := (show Hid (xs.length = n) from hxn)
  have HR := (show Hid (runR xs 0 k = p) from h)
  clear hr hxn h
  go_enter Try.func15, Try.ntmps15
  go_wp2_with (go_at_call 27; refine (run_dn _ _ _ k _ _ hr1 HX.out hn hk1).mono ?_; rw [HR.out]; rintro e w' ⟨rfl, rfl⟩)
  generalize w.alloc (.cells #[.int .i64 0, .int .i64 0] 42) = w1 at *
  obtain ⟨bx, hbx⟩ : ∃ bx, w.heap.size = bx := ⟨_, rfl⟩
  rw [hbx] at hx1 ⊢
  go_loopw [6] (fun i wr => ∃ j : Nat, i = .int .i64 ((p + j : Nat) : Int) ∧ j ≤ k ∧ BRow wr 4 g (putR xs p j true) ∧ wr.heap[bx]? = some (.cells #[.int .i64 0, .int .i64 0] 42 (0, 0)) ∧ Keep [g] w wr) (fun i _ => p + k - (intOf i).toNat)
  case atStart => exact ⟨0, rfl, by omega, hr1, hx1, hK1.mono (by simp)⟩
  case round =>
    obtain ⟨j, rfl, hj, hR2, hx2, hK2⟩ := hrel
    clear hr1 hx1 hK1
    by_cases hlt2 : j < k
    · have hlen := (putR_length xs p j true).trans HX.out
      have y1 := hR2.cell (i := p + j) (by omega)
      have y2 := hR2.free (p + j)
      have HB := (show Hid (BRow (wr.setCell ⟨g, p + j, none⟩ (.bool true)) 4 g (putR xs p (j + 1) true)) from by rw [putR_succ]; exact hR2.put (p + j) true)
      have hK3 : Keep [g] wr (wr.setCell ⟨g, p + j, none⟩ (.bool true)) := Keep.setCell _ _ (by simp)
      have HK := (show Hid (Keep [g] w (wr.setCell ⟨g, p + j, none⟩ (.bool true))) from hK2.trans hK3)
      have HV := (show Hid ((wr.setCell ⟨g, p + j, none⟩ (.bool true)).heap[bx]? = some (.cells #[.int .i64 0, .int .i64 0] 42 (0, 0))) from hK3.blk hx2 (by simp; omega))
      clear hR2 hK2 hK3 hx2 hlen
      generalize hpj : p + j = pj at *
      go_wp2
      go_roundw
      case rel => exact ⟨j + 1, by rw [← hpj]; go_num, by omega, HB.out, HV.out, HK.out⟩
      case measure => simp [intOf] <;> omega
    · obtain rfl : j = k := by omega
      have HB := (show Hid (BRow wr 4 g (putR xs p j true)) from hR2)
      have c0 : wr.cell? ⟨bx, 0, none⟩ = some (.int .i64 0) := by simp [World.cell?, hx2]
      have c1 : wr.cell? ⟨bx, 1, none⟩ = some (.int .i64 0) := by simp [World.cell?, hx2]
      have f0 : wr.frozen? ⟨bx, 0, none⟩ = false := by simp [World.frozen?, hx2]
      have f1 : wr.frozen? ⟨bx, 1, none⟩ = false := by simp [World.frozen?, hx2]
      clear hR2
      go_wp2
      have z1 := heap_setCell_same wr bx 0 _ _ (.int .i64 p) hx2
      have z2 := heap_setCell_same _ bx 1 _ _ (.int .i64 0) z1
      have k1 : Keep [bx] wr ((wr.setCell ⟨bx, 0, none⟩ (.int .i64 p)).setCell ⟨bx, 1, none⟩ (.int .i64 0)) := (Keep.setCell _ _ (by simp)).trans (Keep.setCell _ _ (by simp))
      refine bodyPost_ret (results_cell_row rfl _ _ bx 42 #[.int .i64 p, .int .i64 0] (0, 0) _ rfl (by simpa using z2) Try.underlying42 rfl (by kernel_rfl)) rfl ?_
      exact ⟨rfl, HB.out.keep k1 (by simp; omega), ((hK2.mono (T := [g, bx]) (by simp)).trans (k1.mono (by simp))).drop (by simp; omega)⟩
theorem rtake_any (g n c : Nat) (k : Int) (xs : List Bool) (w : World) (hr : BRow w 4 g xs) (hxn : xs.length = n) (hn : n ≤ 16384) :
    Calls Try.prog 15 #[.slice (some ⟨g, 0, none⟩) n c, .int .i64 k] w fun e w' => e = .returned (.agg #[.int .i64 (takeN xs k), .int .i64 (takeE xs k)]) ∧ BRow w' 4 g (takeR xs k) ∧ Keep [g] w w' := by
  by_cases h : k < 1
  · obtain ⟨e1, e2, e3⟩ := take_low xs k h
    rw [e1, e2, e3]
    refine (rtake_low _ k w h).mono ?_
    rintro e w' ⟨rfl, hK⟩
    exact ⟨rfl, hr.keep hK (by simp), hK.mono (by simp)⟩
  · obtain ⟨m, rfl⟩ := Int.eq_ofNat_of_zero_le (show 0 ≤ k by omega)
    rcases runR_spec xs m (by omega) _ 0 rfl with ⟨hq, _⟩ | ⟨j, hq, _, hcl, _⟩
    · obtain ⟨e1, e2, e3⟩ := take_no xs m (by omega) hq
      rw [e1, e2, e3]
      refine (rtake_no g n c m xs w hr hxn hn (by omega) hq).mono ?_
      rintro e w' ⟨rfl, hK⟩
      exact ⟨rfl, hr.keep hK (by simp), hK.mono (by simp)⟩
    · obtain ⟨e1, e2, e3⟩ := take_yes xs m j (by omega) hq
      rw [e1, e2, e3]
      exact rtake_yes g n c m j xs w hr hxn hn (by omega) hq (by rw [← hxn]; exact hcl.1)

set_option maxHeartbeats 400000 in
theorem rgive_arg (x : Value) (a k : Int) (w : World) (h : k < 1 ∨ a < 1) :
    Calls Try.prog 13 #[x, .int .i64 a, .int .i64 k] w fun e w' => e = .returned (.int .i64 1) ∧ w = w' := by
  rcases (show k < 1 ∨ 1 ≤ k ∧ a < 1 by omega) with h1 | ⟨h0, h1⟩
  all_goals
    go_enter Try.func13, Try.ntmps13
    go_wp2
    go_ret
    exact ⟨rfl, rfl⟩
set_option maxHeartbeats 400000 in
theorem rgive_out (g n c a k : Nat) (w : World) (hn : n ≤ 16384) (ha1 : 1 ≤ a) (ha : (a : Int) ≤ 9223372036854775807) (hk1 : 1 ≤ k) (h : n < a + k) :
    Calls Try.prog 13 #[.slice (some ⟨g, 0, none⟩) n c, .int .i64 a, .int .i64 k] w fun e w' => e = .returned (.int .i64 2) ∧ w = w' := by
  have hkd : decide ((k : Int) < 1) = false := by rw [decide_eq_false_iff_not]; omega
  have had : decide ((a : Int) < 1) = false := by rw [decide_eq_false_iff_not]; omega
  rcases (show n ≤ a ∨ a < n ∧ n < a + k by omega) with h1 | ⟨h0, h1⟩
  · go_enter Try.func13, Try.ntmps13
    go_wp2
    go_ret
    exact ⟨rfl, rfl⟩
  · have hd1 : decide (n ≤ a) = false := by rw [decide_eq_false_iff_not]; omega
    have hd2 : decide ((n : Int) - a < (k : Int)) = true := by rw [decide_eq_true_iff]; omega
    go_enter Try.func13, Try.ntmps13
    go_wp2
    go_ret
    exact ⟨rfl, rfl⟩
set_option maxHeartbeats 800000 in
theorem rgive_in (g n c a k : Nat) (xs : List Bool) (w : World) (hr : BRow w 4 g xs) (hxn : xs.length = n) (hn : n ≤ 16384) (ha1 : 1 ≤ a) (hk1 : 1 ≤ k) (hl : a + k ≤ n) :
    Calls Try.prog 13 #[.slice (some ⟨g, 0, none⟩) n c, .int .i64 a, .int .i64 k] w fun e w' => e = .returned (.int .i64 (giveE xs a k)) ∧ BRow w' 4 g (giveR xs a k) ∧ Keep [g] w w' := by
  have hkd : decide ((k : Int) < 1) = false := by rw [decide_eq_false_iff_not]; omega
  have had : decide ((a : Int) < 1) = false := by rw [decide_eq_false_iff_not]; omega
  have hd1 : decide (n ≤ a) = false := by rw [decide_eq_false_iff_not]; omega
  have hd2 : decide ((n : Int) - a < (k : Int)) = false := by rw [decide_eq_false_iff_not]; omega
  have HX := (show Hid (xs.length = n) from hxn)
  have HR := (show Hid (BRow w 4 g xs) from hr)
  clear hr hxn
  go_enter Try.func13, Try.ntmps13
  go_wp2
  go_loop [7] (fun i => ∃ j : Nat, i = .int .i64 ((a + j : Nat) : Int) ∧ j ≤ k ∧ Hid (∀ t, a ≤ t → t < a + j → t < xs.length ∧ xs[t]?.getD false = true)) (fun i => a + k - (intOf i).toNat)
  case atStart => exact ⟨0, rfl, by omega, fun t h => by omega⟩
  case round =>
    obtain ⟨j, rfl, hj, HJ⟩ := hrel
    by_cases hlt : j < k
    · have hc := HR.out.cell (i := a + j) (by rw [HX.out]; omega)
      cases hv : xs[a + j]?.getD false
      · have HF := (show Hid (giveE xs a k = 2 ∧ giveR xs a k = xs) from give_no xs a k ha1 hk1 (fullB_no xs a k (a + j) (by omega) (by omega) (.inr hv)))
        rw [hv] at hc
        clear hv HJ
        generalize hpj : a + j = pj at *
        go_wp2
        go_ret
        rw [HF.out.1, HF.out.2]
        exact ⟨rfl, HR.out, Keep.refl _ _⟩
      · have HK := (show Hid (∀ t, a ≤ t → t < a + (j + 1) → t < xs.length ∧ xs[t]?.getD false = true) from fun t p q => by
          by_cases e : t = a + j
          · subst e; exact ⟨by rw [HX.out]; omega, hv⟩
          · exact HJ.out t p (by omega))
        rw [hv] at hc
        clear hv HJ
        generalize hpj : a + j = pj at *
        go_wp2
        go_round
        case rel => exact ⟨j + 1, by rw [← Nat.add_assoc, hpj]; go_num, by omega, HK⟩
        case measure => simp [intOf] <;> omega
    · obtain rfl : j = k := by omega
      have HF := (show Hid (giveE xs a j = 0 ∧ giveR xs a j = putR xs a j false) from give_yes xs a j ha1 hk1 ((fullB_iff xs a j hk1).2 HJ.out))
      clear HJ
      go_wp2
      go_loopw [8] (fun i wr => ∃ q : Nat, i = .int .i64 ((a + q : Nat) : Int) ∧ q ≤ j ∧ BRow wr 4 g (putR xs a q false) ∧ Keep [g] w wr) (fun i _ => a + j - (intOf i).toNat)
      case atStart => exact ⟨0, rfl, by omega, HR.out, Keep.refl _ _⟩
      case round =>
        obtain ⟨q, rfl, hq, hR2, hK2⟩ := hrel
        by_cases hlt2 : q < j
        · have hlen := (putR_length xs a q false).trans HX.out
          have y1 := hR2.cell (i := a + q) (by omega)
          have y2 := hR2.free (a + q)
          have HB := (show Hid (BRow (wr.setCell ⟨g, a + q, none⟩ (.bool false)) 4 g (putR xs a (q + 1) false)) from by rw [putR_succ]; exact hR2.put (a + q) false)
          have hK3 : Keep [g] wr (wr.setCell ⟨g, a + q, none⟩ (.bool false)) := Keep.setCell _ _ (by simp)
          have HK := (show Hid (Keep [g] w (wr.setCell ⟨g, a + q, none⟩ (.bool false))) from hK2.trans hK3)
          clear hR2 hK2 hK3 hlen
          generalize hpj : a + q = pj at *
          go_wp2
          go_roundw
          case rel => exact ⟨q + 1, by rw [← Nat.add_assoc, hpj]; go_num, by omega, HB.out, HK.out⟩
          case measure => simp [intOf] <;> omega
        · obtain rfl : q = j := by omega
          have HB := (show Hid (BRow wr 4 g (putR xs a q false)) from hR2)
          clear hR2
          go_wp2
          go_ret
          rw [HF.out.1, HF.out.2]
          exact ⟨rfl, HB.out, hK2⟩
theorem rgive_any (g n c : Nat) (a k : Int) (xs : List Bool) (w : World) (hr : BRow w 4 g xs) (hxn : xs.length = n) (hn : n ≤ 16384) (ha2 : a ≤ 9223372036854775807) :
    Calls Try.prog 13 #[.slice (some ⟨g, 0, none⟩) n c, .int .i64 a, .int .i64 k] w fun e w' => e = .returned (.int .i64 (giveE xs a k)) ∧ BRow w' 4 g (giveR xs a k) ∧ Keep [g] w w' := by
  by_cases h : k < 1 ∨ a < 1
  · obtain ⟨e1, e2⟩ := give_arg xs a k h
    rw [e1, e2]
    refine (rgive_arg _ a k w h).mono ?_
    rintro e w' ⟨rfl, rfl⟩
    exact ⟨rfl, hr, Keep.refl _ _⟩
  · obtain ⟨m, rfl⟩ := Int.eq_ofNat_of_zero_le (show 0 ≤ k by omega)
    obtain ⟨q, rfl⟩ := Int.eq_ofNat_of_zero_le (show 0 ≤ a by omega)
    by_cases hl : q + m ≤ n
    · exact rgive_in g n c q m xs w hr hxn hn (by omega) (by omega) hl
    · obtain ⟨e1, e2⟩ := give_no xs q m (by omega) (by omega) (fullB_no xs q m (max q xs.length) (by omega) (by omega) (.inl (by omega)))
      rw [e1, e2]
      refine (rgive_out g n c q m w hn (by omega) ha2 (by omega) (by omega)).mono ?_
      rintro e w' ⟨rfl, rfl⟩
      exact ⟨rfl, hr, Keep.refl _ _⟩

end Go.Proofs.Ytjgfkmfhadohbaa
