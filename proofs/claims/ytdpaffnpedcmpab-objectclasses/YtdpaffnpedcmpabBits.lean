/-
  What each call of package bits does, said of Bits in memory: its block, the block of its places, its places.
-/
import Derived.Test.YtdpaffnpedcmpabRows
import Derived.Test.YtdpaffnpedcmpabBools
namespace Go.Proofs.Ytdpaffnpedcmpab
open Go.RowKit

theorem Try.infoBool : (Try.prog.info? 4).map (fun i => (i.zero, i.size, i.bytes)) = some (some (.bool false), 1, 1) := by kernel_rfl

/-- Block b is Bits whose places xs lie in block g. -/
structure IsBits (w : World) (b g : Nat) (xs : List Bool) : Prop where
  ne : b ≠ g
  head : w.heap[b]? = some (.cells #[.slice (some ⟨g, 0, none⟩) xs.length xs.length] 115 (0, 0))
  row : BRow w 4 g xs
  len : xs.length ≤ 16384

theorem IsBits.cell {w : World} {b g : Nat} {xs : List Bool} (h : IsBits w b g xs) : w.cell? ⟨b, 0, none⟩ = some (.slice (some ⟨g, 0, none⟩) xs.length xs.length) := cell_of_one h.head
theorem IsBits.keep {S : List Nat} {w w' : World} {b g : Nat} {xs : List Bool} (h : IsBits w b g xs) (k : Keep S w w') (hb : b ∉ S) (hg : g ∉ S) : IsBits w' b g xs :=
  ⟨h.ne, k.blk h.head hb, h.row.keep k hg, h.len⟩
theorem IsBits.other {w w' : World} {b g : Nat} {xs ys : List Bool} (h : IsBits w b g xs) (k : Keep [g] w w') (hl : ys.length = xs.length) (r : BRow w' 4 g ys) : IsBits w' b g ys :=
  ⟨h.ne, by rw [hl]; exact k.blk h.head (by simpa using h.ne), r, by rw [hl]; exact h.len⟩
theorem IsBits.lt {w : World} {b g : Nat} {xs : List Bool} (h : IsBits w b g xs) : b < w.heap.size ∧ g < w.heap.size := ⟨lt_of_block h.head, h.row.lt⟩
theorem IsBits.drewN {w : World} {b g : Nat} {xs : List Bool} (h : IsBits w b g xs) (k : Nat) : IsBits (w.drewN k) b g xs := h.keep (Keep.drewN [] w k) (by simp) (by simp)

set_option maxHeartbeats 400000 in
theorem bsize_core (b n : Nat) (ao : Option Addr) (w : World) (hb : w.cell? ⟨b, 0, none⟩ = some (.slice ao n n)) :
    Calls Try.prog 73 #[.pointer (some ⟨b, 0, none⟩)] w fun e w' => e = .returned (.int .i64 n) ∧ w = w' := by
  go_enter Try.func73, Try.ntmps73
  go_wp2
  go_ret
  exact ⟨rfl, rfl⟩
theorem bsize_any (b g : Nat) (xs : List Bool) (w : World) (ha : IsBits w b g xs) :
    Calls Try.prog 73 #[.pointer (some ⟨b, 0, none⟩)] w fun e w' => e = .returned (.int .i64 xs.length) ∧ w = w' := bsize_core b _ _ w ha.cell
set_option maxHeartbeats 400000 in
theorem bsize_nil (w : World) :
    Calls Try.prog 73 #[.pointer none] w fun e w' => e = .returned (.int .i64 0) ∧ w = w' := by
  go_enter Try.func73, Try.ntmps73
  go_wp2
  go_ret
  exact ⟨rfl, rfl⟩

/-- Is i a place of n? -/
def isPl (n : Nat) (i : Int) : Bool := decide (0 ≤ i) && decide (i < (n : Int))
theorem isPl_true {n : Nat} {i : Int} (h : 0 ≤ i ∧ i < (n : Int)) : isPl n i = true := by unfold isPl; simp; omega
theorem isPl_false {n : Nat} {i : Int} (h : ¬ (0 ≤ i ∧ i < (n : Int))) : isPl n i = false := by unfold isPl; simp; omega

set_option maxHeartbeats 400000 in
theorem isPlace_core (b n : Nat) (ao : Option Addr) (i : Int) (w : World) (hb : w.cell? ⟨b, 0, none⟩ = some (.slice ao n n)) :
    Calls Try.prog 72 #[.pointer (some ⟨b, 0, none⟩), .int .i64 i] w fun e w' => e = .returned (.bool (isPl n i)) ∧ w = w' := by
  by_cases h0 : 0 ≤ i
  · by_cases h1 : i < (n : Int)
    · rw [isPl_true ⟨h0, h1⟩]
      go_enter Try.func72, Try.ntmps72
      go_wp2_with (go_at_call 73; refine (bsize_core _ _ _ _ hb).mono ?_; rintro e w' ⟨rfl, rfl⟩)
      go_ret
      exact ⟨rfl, rfl⟩
    · rw [isPl_false (by omega)]
      have hd : decide (i < (n : Int)) = false := by rw [decide_eq_false_iff_not]; exact h1
      go_enter Try.func72, Try.ntmps72
      go_wp2_with (go_at_call 73; refine (bsize_core _ _ _ _ hb).mono ?_; rintro e w' ⟨rfl, rfl⟩)
      go_ret
      exact ⟨rfl, rfl⟩
  · rw [isPl_false (by omega)]
    go_enter Try.func72, Try.ntmps72
    go_wp2_with (go_at_call 73; refine (bsize_core _ _ _ _ hb).mono ?_; rintro e w' ⟨rfl, rfl⟩)
    go_ret
    exact ⟨rfl, rfl⟩

set_option maxHeartbeats 400000 in
theorem isPlace_nil (i : Int) (w : World) :
    Calls Try.prog 72 #[.pointer none, .int .i64 i] w fun e w' => e = .returned (.bool false) ∧ w = w' := by
  by_cases h0 : 0 ≤ i
  · have hd : decide (i < 0) = false := by rw [decide_eq_false_iff_not]; omega
    go_enter Try.func72, Try.ntmps72
    go_wp2_with (go_at_call 73; refine (bsize_nil _).mono ?_; rintro e w' ⟨rfl, rfl⟩)
    go_ret
    exact ⟨rfl, rfl⟩
  · go_enter Try.func72, Try.ntmps72
    go_wp2_with (go_at_call 73; refine (bsize_nil _).mono ?_; rintro e w' ⟨rfl, rfl⟩)
    go_ret
    exact ⟨rfl, rfl⟩

/-- Is i a place that is so? -/
def hasR (xs : List Bool) (i : Int) : Bool := isPl xs.length i && xs[i.toNat]?.getD false

set_option maxHeartbeats 400000 in
theorem bhas_core (b g n : Nat) (i : Nat) (x : Bool) (w : World) (hb : w.cell? ⟨b, 0, none⟩ = some (.slice (some ⟨g, 0, none⟩) n n)) (h : i < n) (hc : w.cell? ⟨g, i, none⟩ = some (.bool x)) :
    Calls Try.prog 63 #[.pointer (some ⟨b, 0, none⟩), .int .i64 i] w fun e w' => e = .returned (.bool x) ∧ w = w' := by
  have hd : isPl n (i : Int) = true := isPl_true (by omega)
  go_enter Try.func63, Try.ntmps63
  go_wp2_with (go_at_call 72; refine (isPlace_core _ _ _ _ _ hb).mono ?_; rw [hd]; rintro e w' ⟨rfl, rfl⟩)
  go_ret
  exact ⟨rfl, rfl⟩
set_option maxHeartbeats 400000 in
theorem bhas_no (b g n : Nat) (i : Int) (w : World) (hb : w.cell? ⟨b, 0, none⟩ = some (.slice (some ⟨g, 0, none⟩) n n)) (h : ¬ (0 ≤ i ∧ i < (n : Int))) :
    Calls Try.prog 63 #[.pointer (some ⟨b, 0, none⟩), .int .i64 i] w fun e w' => e = .returned (.bool false) ∧ w = w' := by
  have hd : isPl n i = false := isPl_false h
  go_enter Try.func63, Try.ntmps63
  go_wp2_with (go_at_call 72; refine (isPlace_core _ _ _ _ _ hb).mono ?_; rw [hd]; rintro e w' ⟨rfl, rfl⟩)
  go_ret
  exact ⟨rfl, rfl⟩
theorem bhas_any (b g : Nat) (i : Int) (xs : List Bool) (w : World) (ha : IsBits w b g xs) :
    Calls Try.prog 63 #[.pointer (some ⟨b, 0, none⟩), .int .i64 i] w fun e w' => e = .returned (.bool (hasR xs i)) ∧ w = w' := by
  by_cases h : 0 ≤ i ∧ i < (xs.length : Int)
  · obtain ⟨k, rfl⟩ := Int.eq_ofNat_of_zero_le h.1
    rw [show hasR xs (k : Int) = xs[k]?.getD false from by unfold hasR; rw [isPl_true h]; simp]
    exact bhas_core b g _ k _ w ha.cell (by omega) (ha.row.cell (by omega))
  · rw [show hasR xs i = false from by unfold hasR; rw [isPl_false h]; rfl]
    exact bhas_no b g _ i w ha.cell h
set_option maxHeartbeats 400000 in
theorem bhas_nil (i : Int) (w : World) :
    Calls Try.prog 63 #[.pointer none, .int .i64 i] w fun e w' => e = .returned (.bool false) ∧ w = w' := by
  go_enter Try.func63, Try.ntmps63
  go_wp2_with (go_at_call 72; refine (isPlace_nil _ _).mono ?_; rintro e w' ⟨rfl, rfl⟩)
  go_ret
  exact ⟨rfl, rfl⟩

set_option maxHeartbeats 400000 in
theorem bnew_no (n : Int) (w : World) (h : ¬ (0 ≤ n ∧ n ≤ 16384)) :
    Calls Try.prog 55 #[.int .i64 n] w fun e w' => e = .returned (.tuple #[.pointer none, .int .i64 1]) ∧ w = w' := by
  by_cases h1 : n < 0
  · go_enter Try.func55, Try.ntmps55
    go_wp2
    go_ret2
    exact ⟨rfl, rfl⟩
  · have h2 : 16384 < n := by omega
    go_enter Try.func55, Try.ntmps55
    go_wp2
    go_ret2
    exact ⟨rfl, rfl⟩
set_option maxHeartbeats 400000 in
theorem bnew_core (n : Nat) (w : World) (h2 : n ≤ 16384) :
    Calls Try.prog 55 #[.int .i64 n] w fun e w' => e = .returned (.tuple #[.pointer (some ⟨w.heap.size + 1, 0, none⟩), .int .i64 0]) ∧
      w' = (w.alloc (.cells (madeCells #[.bool false] n) 4)).alloc (.cells #[.slice (some ⟨w.heap.size, 0, none⟩) n n] 115) := by
  have hmk : ∀ w, (Instr.makeSlice 113 (.int .i64 (n : Int)) (.int .i64 (n : Int))).run Try.prog w = .ok (.slice (some ⟨w.heap.size, 0, none⟩) n n) (w.alloc (.cells (madeCells #[.bool false] n) 4)) :=
    fun w => run_make_row' (P := Try.prog) 113 4 (.bool false) 1 Try.underlying113 Try.infoBool rfl .i64 .i64 n (by omega) (by omega) w
  go_enter Try.func55, Try.ntmps55
  go_wp2
  go_ret2
  exact ⟨rfl, rfl⟩
/-- The blocks are new ones; which, nobody need know. -/
theorem bnew_ok (n : Nat) (w : World) (h2 : n ≤ 16384) :
    Calls Try.prog 55 #[.int .i64 n] w fun e w' => ∃ b g, e = .returned (.tuple #[.pointer (some ⟨b, 0, none⟩), .int .i64 0]) ∧
      IsBits w' b g (offs n) ∧ Keep [] w w' ∧ w.heap.size ≤ b ∧ w.heap.size ≤ g := by
  refine (bnew_core n w h2).mono ?_
  rintro e w' ⟨rfl, rfl⟩
  refine ⟨w.heap.size + 1, w.heap.size, rfl, ⟨by omega, ?_, ?_, by rw [offs_length]; exact h2⟩, (Keep.alloc _ _ _).trans (Keep.alloc _ _ _), by omega, by omega⟩
  · have := heap_alloc_new (w.alloc (.cells (madeCells #[.bool false] n) 4)) (.cells #[.slice (some ⟨w.heap.size, 0, none⟩) n n] 115)
    simpa [offs_length] using this
  · exact (BRow.made w 4 n).keep (Keep.alloc [] _ _) (by simp)

theorem has_nat (xs : List Bool) (k : Nat) (h : k < xs.length) : hasR xs k = xs[k]?.getD false := by
  unfold hasR; rw [isPl_true (by omega)]; simp
theorem max0_nat (f : Int) (h : 0 ≤ f) : max f 0 = f := by omega
theorem max0_neg (f : Int) (h : f < 0) : max f 0 = 0 := by omega

set_option maxHeartbeats 400000 in
theorem bnext_any (b g : Nat) (f : Int) (v : Bool) (xs : List Bool) (w : World) (ha : IsBits w b g xs) (hf : f ≤ 9223372036854775807) :
    Calls Try.prog 65 #[.pointer (some ⟨b, 0, none⟩), .int .i64 f, .bool v] w fun e w' => e = .returned (.int .i64 (nextR xs f.toNat v)) ∧ w = w' := by
  have hb := ha.cell
  have hn := ha.len
  have hr := ha.row
  have HR := (show Hid (∀ i : Nat, i < xs.length → w.cell? ⟨g, i, none⟩ = some (.bool (xs[i]?.getD false))) from fun i hi => hr.cell hi)
  clear ha hr
  generalize hN : nextR xs f.toNat v = r
  obtain ⟨i0, hi0, hi1⟩ : ∃ i0 : Nat, i0 = f.toNat ∧ (i0 : Int) ≤ 9223372036854775807 := ⟨_, rfl, by omega⟩
  rw [← hi0] at hN
  have HN := (show Hid (nextR xs i0 v = r) from hN)
  clear hN
  rcases (show f = i0 ∨ f < 0 ∧ i0 = 0 by omega) with rfl | ⟨hneg, rfl⟩
  all_goals
    clear hi0
    go_enter Try.func65, Try.ntmps65
    go_wp2
    go_loop [7] (fun i => ∃ j : Nat, i = .int .i64 j ∧ (j : Int) ≤ 9223372036854775807 ∧ Hid (nextR xs j v = r)) (fun i => xs.length - (intOf i).toNat)
    case atStart => first | exact ⟨i0, rfl, hi1, HN⟩ | exact ⟨0, rfl, by omega, HN⟩
    case round =>
      obtain ⟨j, rfl, hj, HJ⟩ := hrel
      by_cases hlt : j < xs.length
      · have hc := HR.out j hlt
        by_cases hv : xs[j]?.getD false = v
        · have HF := (show Hid ((j : Int) = r) from (nextR_yes xs j v hlt hv).symm.trans HJ.out)
          rw [hv] at hc
          clear hv
          go_wp2_with (go_at_call 73; refine (bsize_core _ _ _ _ hb).mono ?_; rintro e w' ⟨rfl, rfl⟩)
          go_ret
          exact ⟨by rw [← HF.out]; rfl, rfl⟩
        · have HK := (show Hid (nextR xs (j + 1) v = r) from (nextR_no xs j v hlt hv).symm.trans HJ.out)
          obtain ⟨y, hy⟩ : ∃ y, xs[j]?.getD false = y := ⟨_, rfl⟩
          rw [hy] at hc hv
          have hbq : (y == v) = false := by rw [beq_eq_false_iff_ne]; exact hv
          clear hy hv
          go_wp2_with (go_at_call 73; refine (bsize_core _ _ _ _ hb).mono ?_; rintro e w' ⟨rfl, rfl⟩)
          go_round
          case rel => exact ⟨j + 1, by go_num, by omega, HK⟩
          case measure => simp [intOf]; omega
      · have HF := (show Hid (-1 = r) from (nextR_end xs j v (by omega)).symm.trans HJ.out)
        have hd : decide ((j : Int) < xs.length) = false := by rw [decide_eq_false_iff_not]; omega
        go_wp2_with (go_at_call 73; refine (bsize_core _ _ _ _ hb).mono ?_; rintro e w' ⟨rfl, rfl⟩)
        go_ret
        exact ⟨by rw [← HF.out]; rfl, rfl⟩
set_option maxHeartbeats 400000 in
theorem bnext_nil (f : Int) (v : Bool) (w : World) :
    Calls Try.prog 65 #[.pointer none, .int .i64 f, .bool v] w fun e w' => e = .returned (.int .i64 (-1)) ∧ w = w' := by
  by_cases h0 : 0 ≤ f
  all_goals
    go_enter Try.func65, Try.ntmps65
    go_wp2
    go_loop [7] (fun i => ∃ j : Int, i = .int .i64 j ∧ 0 ≤ j) (fun _ => 0)
    case atStart => first | exact ⟨f, rfl, h0⟩ | exact ⟨0, rfl, by omega⟩
    case round =>
      obtain ⟨j, rfl, hj⟩ := hrel
      have hd : decide (j < 0) = false := by rw [decide_eq_false_iff_not]; omega
      go_wp2_with (go_at_call 73; refine (bsize_nil _).mono ?_; rintro e w' ⟨rfl, rfl⟩)
      go_ret
      exact ⟨rfl, rfl⟩

/-- What Run answers. -/
def runI (xs : List Bool) (f k : Int) : Int := if k < 1 then -1 else runR xs f.toNat k.toNat

set_option maxHeartbeats 400000 in
theorem brun_low (p : Option Addr) (f k : Int) (w : World) (h : k < 1) :
    Calls Try.prog 76 #[.pointer p, .int .i64 f, .int .i64 k] w fun e w' => e = .returned (.int .i64 (-1)) ∧ w = w' := by
  go_enter Try.func76, Try.ntmps76
  go_wp2
  go_ret
  exact ⟨rfl, rfl⟩
set_option maxHeartbeats 400000 in
theorem brun_nil (f k : Int) (w : World) :
    Calls Try.prog 76 #[.pointer none, .int .i64 f, .int .i64 k] w fun e w' => e = .returned (.int .i64 (-1)) ∧ w = w' := by
  by_cases h : k < 1
  · exact brun_low none f k w h
  · have hk : decide (k < 1) = false := by rw [decide_eq_false_iff_not]; exact h
    by_cases h0 : 0 ≤ f
    all_goals
      go_enter Try.func76, Try.ntmps76
      go_wp2
      go_loop [8] (fun i => ∃ j : Int, i = .int .i64 j ∧ 0 ≤ j) (fun _ => 0)
      case atStart => first | exact ⟨f, rfl, h0⟩ | exact ⟨0, rfl, by omega⟩
      case round =>
        obtain ⟨j, rfl, hj⟩ := hrel
        have hd : decide (j < 0) = false := by rw [decide_eq_false_iff_not]; omega
        go_wp2_with (go_at_call 73; refine (bsize_nil _).mono ?_; rintro e w' ⟨rfl, rfl⟩)
        go_ret
        exact ⟨rfl, rfl⟩

/-- c places ahead of j are not so, and no run begins ahead of them. -/
structure Runs (xs : List Bool) (k j c : Nat) (r : Int) : Prop where
  le : c ≤ j
  off : ∀ t, j - c ≤ t → t < j → xs[t]?.getD false = false
  eq : runR xs (j - c) k = r
theorem Runs.hit {xs : List Bool} {k j c : Nat} {r : Int} (h : Runs xs k j c r) (hk : c < k) (hj : xs[j]?.getD false = true) : Runs xs k (j + 1) 0 r :=
  ⟨by omega, fun t a b => by omega, by rw [← h.eq]; exact (runR_bar xs (j - c) j k (by omega) (by have := h.le; omega) hj).symm⟩
theorem Runs.miss {xs : List Bool} {k j c : Nat} {r : Int} (h : Runs xs k j c r) (hj : xs[j]?.getD false = false) : Runs xs k (j + 1) (c + 1) r := by
  refine ⟨by have := h.le; omega, fun t a b => ?_, by rw [show j + 1 - (c + 1) = j - c by omega]; exact h.eq⟩
  by_cases e : t = j
  · subst e; exact hj
  · exact h.off t (by omega) (by omega)
theorem Runs.found {xs : List Bool} {k j c : Nat} {r : Int} (h : Runs xs k j c r) (hl : j < xs.length) (hk : c + 1 = k) (hj : xs[j]?.getD false = false) : (j : Int) - k + 1 = r := by
  have h2 := h.miss hj
  have h3 := h.le
  rw [← h2.eq, show j + 1 - (c + 1) = j - c by omega, runR_yes xs (j - c) k (by omega) ⟨by omega, fun t a b => h2.off t (by omega) (by omega)⟩]
  omega
theorem Runs.over {xs : List Bool} {k j c : Nat} {r : Int} (h : Runs xs k j c r) (hl : xs.length ≤ j) (hk : c < k) : -1 = r := by
  rw [← h.eq, runR_end xs (j - c) k (by have := h.le; omega)]

set_option maxHeartbeats 800000 in
theorem brun_core (b g k : Nat) (f : Int) (xs : List Bool) (w : World) (ha : IsBits w b g xs) (hf : f ≤ 9223372036854775807) (hk1 : 1 ≤ k) (hk2 : (k : Int) ≤ 9223372036854775807) :
    Calls Try.prog 76 #[.pointer (some ⟨b, 0, none⟩), .int .i64 f, .int .i64 k] w fun e w' => e = .returned (.int .i64 (runR xs f.toNat k)) ∧ w = w' := by
  have hb := ha.cell
  have hn := ha.len
  have hr := ha.row
  have HR := (show Hid (∀ i : Nat, i < xs.length → w.cell? ⟨g, i, none⟩ = some (.bool (xs[i]?.getD false))) from fun i hi => hr.cell hi)
  clear ha hr
  generalize hN : runR xs f.toNat k = r
  obtain ⟨i0, hi0, hi1⟩ : ∃ i0 : Nat, i0 = f.toNat ∧ (i0 : Int) ≤ 9223372036854775807 := ⟨_, rfl, by omega⟩
  rw [← hi0] at hN
  have HN := (show Hid (Runs xs k i0 0 r) from ⟨by omega, fun t a b => by omega, hN⟩)
  clear hN
  have hkd : decide ((k : Int) < 1) = false := by rw [decide_eq_false_iff_not]; omega
  have hk0 : ((0 : Int) == (k : Int)) = false := by rw [beq_eq_false_iff_ne]; omega
  rcases (show f = i0 ∨ f < 0 ∧ i0 = 0 by omega) with rfl | ⟨hneg, rfl⟩
  all_goals
    clear hi0
    go_enter Try.func76, Try.ntmps76
    go_wp2
    go_loop [7, 8] (fun c i => ∃ j q : Nat, i = .int .i64 j ∧ c = .int .i64 q ∧ (j : Int) ≤ 9223372036854775807 ∧ q < k ∧ q ≤ j ∧ Hid (Runs xs k j q r)) (fun _ i => xs.length - (intOf i).toNat)
    case atStart => first | exact ⟨i0, 0, rfl, rfl, hi1, by omega, by omega, HN⟩ | exact ⟨0, 0, rfl, rfl, by omega, by omega, by omega, HN⟩
    case round =>
      obtain ⟨j, q, rfl, rfl, hj, hq, hqj, HJ⟩ := hrel
      clear HN
      by_cases hlt : j < xs.length
      · have hc := HR.out j hlt
        by_cases hv : xs[j]?.getD false = true
        · have HK := (show Hid (Runs xs k (j + 1) 0 r) from HJ.out.hit hq hv)
          rw [hv] at hc
          clear hv HJ
          go_wp2_with (go_at_call 73; refine (bsize_core _ _ _ _ hb).mono ?_; rintro e w' ⟨rfl, rfl⟩)
          go_round
          case rel => exact ⟨j + 1, 0, by go_num, rfl, by omega, by omega, by omega, HK⟩
          case measure => simp [intOf]; omega
        · have hv' : xs[j]?.getD false = false := by simpa using hv
          rw [hv'] at hc
          by_cases hk : q + 1 = k
          · have HF := (show Hid ((j : Int) - k + 1 = r) from HJ.out.found hlt hk hv')
            have hkq : ((q : Int) + 1 == (k : Int)) = true := by rw [beq_iff_eq]; omega
            have hk16 : (k : Int) ≤ 16384 := by omega
            clear hv hv' hk HJ
            go_wp2_with (go_at_call 73; refine (bsize_core _ _ _ _ hb).mono ?_; rintro e w' ⟨rfl, rfl⟩)
            go_ret
            exact ⟨by rw [← HF.out]; rfl, rfl⟩
          · have HK := (show Hid (Runs xs k (j + 1) (q + 1) r) from HJ.out.miss hv')
            have hkq : ((q : Int) + 1 == (k : Int)) = false := by rw [beq_eq_false_iff_ne]; omega
            clear hv hv' HJ
            go_wp2_with (go_at_call 73; refine (bsize_core _ _ _ _ hb).mono ?_; rintro e w' ⟨rfl, rfl⟩)
            go_round
            case rel => exact ⟨j + 1, q + 1, by go_num, by go_num, by omega, by omega, by omega, HK⟩
            case measure => simp [intOf]; omega
      · have HF := (show Hid (-1 = r) from HJ.out.over (by omega) hq)
        have hd : decide ((j : Int) < xs.length) = false := by rw [decide_eq_false_iff_not]; omega
        go_wp2_with (go_at_call 73; refine (bsize_core _ _ _ _ hb).mono ?_; rintro e w' ⟨rfl, rfl⟩)
        go_ret
        exact ⟨by rw [← HF.out]; rfl, rfl⟩
theorem brun_any (b g : Nat) (f k : Int) (xs : List Bool) (w : World) (ha : IsBits w b g xs) (hf : f ≤ 9223372036854775807) (hk2 : k ≤ 9223372036854775807) :
    Calls Try.prog 76 #[.pointer (some ⟨b, 0, none⟩), .int .i64 f, .int .i64 k] w fun e w' => e = .returned (.int .i64 (runI xs f k)) ∧ w = w' := by
  unfold runI
  by_cases h : k < 1
  · rw [if_pos h]; exact brun_low _ f k w h
  · rw [if_neg h]
    obtain ⟨m, rfl⟩ := Int.eq_ofNat_of_zero_le (show 0 ≤ k by omega)
    exact brun_core b g m f xs w ha hf (by omega) hk2

set_option maxHeartbeats 400000 in
theorem arePlaces_any (b g n c : Nat) (ao : Option Addr) (L : List Int) (w : World) (hb : w.cell? ⟨b, 0, none⟩ = some (.slice (some ⟨g, 0, none⟩) n n)) (hL : IntsAt w ao L) (hl : L.length ≤ 9223372036854775807) :
    Calls Try.prog 68 #[.pointer (some ⟨b, 0, none⟩), .slice ao L.length c] w fun e w' => e = .returned (.bool (fitsB n L)) ∧ w = w' := by
  generalize hN : fitsB n L = r
  have HN := (show Hid (fitsB n L = r) from hN)
  have HL := (show Hid (IntsAt w ao L) from hL)
  clear hN hL
  go_enter Try.func68, Try.ntmps68
  go_wp2
  go_loop [9] (fun i => ∃ j : Nat, i = .int .i64 j ∧ j ≤ L.length ∧ Hid (∀ t, t < j → 0 ≤ L[t]?.getD 0 ∧ L[t]?.getD 0 < (n : Int))) (fun i => L.length - (intOf i).toNat)
  case atStart => exact ⟨0, rfl, by omega, fun t h => by omega⟩
  case round =>
    obtain ⟨j, rfl, hj, HJ⟩ := hrel
    by_cases hlt : j < L.length
    · obtain ⟨ab, off, rfl, hab, hcs⟩ := HL.out.cells (by omega)
      have hc := hcs j hlt
      clear hcs
      by_cases hin : 0 ≤ L[j]?.getD 0 ∧ L[j]?.getD 0 < (n : Int)
      · have HK := (show Hid (∀ t, t < j + 1 → 0 ≤ L[t]?.getD 0 ∧ L[t]?.getD 0 < (n : Int)) from fun t ht => by
          by_cases e : t = j
          · subst e; exact hin
          · exact HJ.out t (by omega))
        have hp : isPl n (L[j]?.getD 0) = true := isPl_true hin
        generalize L[j]?.getD 0 = x at *
        clear HJ hin
        go_wp2_with (go_at_call 72; refine (isPlace_core _ _ _ _ _ hb).mono ?_; rw [hp]; rintro e w' ⟨rfl, rfl⟩)
        go_round
        case rel => exact ⟨j + 1, by go_num, by omega, HK⟩
        case measure => simp [intOf]; omega
      · have hp : isPl n (L[j]?.getD 0) = false := isPl_false hin
        have HF := (show Hid (false = r) from (fitsB_false n L j hlt hin).symm.trans HN.out)
        generalize L[j]?.getD 0 = x at *
        clear HJ hin
        go_wp2_with (go_at_call 72; refine (isPlace_core _ _ _ _ _ hb).mono ?_; rw [hp]; rintro e w' ⟨rfl, rfl⟩)
        go_ret
        exact ⟨by rw [← HF.out]; rfl, rfl⟩
    · have HF := (show Hid (true = r) from (fitsB_true n L (fun t ht => HJ.out t (by omega))).symm.trans HN.out)
      have hd : decide ((j : Int) < L.length) = false := by rw [decide_eq_false_iff_not]; omega
      go_wp2
      go_ret
      exact ⟨by rw [← HF.out]; rfl, rfl⟩

set_option maxHeartbeats 400000 in
theorem bset_nil (v : Bool) (x : Value) (w : World) :
    Calls Try.prog 56 #[.pointer none, .bool v, x] w fun e w' => e = .returned (.int .i64 2) ∧ w = w' := by
  go_enter Try.func56, Try.ntmps56
  go_wp2
  go_ret
  exact ⟨rfl, rfl⟩
set_option maxHeartbeats 400000 in
theorem bset_no (b g c : Nat) (v : Bool) (xs : List Bool) (ao : Option Addr) (L : List Int) (w : World) (ha : IsBits w b g xs) (hL : IntsAt w ao L) (hl : L.length ≤ 9223372036854775807) (hf : fitsB xs.length L = false) :
    Calls Try.prog 56 #[.pointer (some ⟨b, 0, none⟩), .bool v, .slice ao L.length c] w fun e w' => e = .returned (.int .i64 2) ∧ w = w' := by
  have hb := ha.cell
  go_enter Try.func56, Try.ntmps56
  go_wp2_with (go_at_call 68; refine (arePlaces_any _ _ _ _ _ _ _ hb hL hl).mono ?_; rw [hf]; rintro e w' ⟨rfl, rfl⟩)
  go_ret
  exact ⟨rfl, rfl⟩
theorem bset_no' (b g c ln : Nat) (v : Bool) (xs : List Bool) (ao : Option Addr) (L : List Int) (w : World) (hln : L.length = ln) (ha : IsBits w b g xs) (hL : IntsAt w ao L) (hl : ln ≤ 9223372036854775807) (hf : fitsB xs.length L = false) :
    Calls Try.prog 56 #[.pointer (some ⟨b, 0, none⟩), .bool v, .slice ao ln c] w fun e w' => e = .returned (.int .i64 2) ∧ w = w' := by
  subst hln; exact bset_no b g c v xs ao L w ha hL hl hf
set_option maxHeartbeats 800000 in
theorem bset_yes (b g c : Nat) (v : Bool) (xs : List Bool) (ao : Option Addr) (L : List Int) (w : World) (ha : IsBits w b g xs) (hL : IntsAt w ao L) (ho : 0 < L.length → Off ao [g]) (hl : L.length ≤ 9223372036854775807) (hf : fitsB xs.length L = true) :
    Calls Try.prog 56 #[.pointer (some ⟨b, 0, none⟩), .bool v, .slice ao L.length c] w fun e w' => e = .returned (.int .i64 0) ∧ IsBits w' b g (setAll xs v L) ∧ Keep [g] w w' := by
  have hb := ha.cell
  have HA := (show Hid (IsBits w b g xs) from ha)
  have HL := (show Hid (IntsAt w ao L) from hL)
  have HO := (show Hid (0 < L.length → Off ao [g]) from ho)
  have HF := (show Hid (∀ j, j < L.length → 0 ≤ L[j]?.getD 0 ∧ L[j]?.getD 0 < (xs.length : Int)) from fitsB_get _ _ hf)
  go_enter Try.func56, Try.ntmps56
  go_wp2_with (go_at_call 68; refine (arePlaces_any _ _ _ _ _ _ _ hb hL hl).mono ?_; rw [hf]; rintro e w' ⟨rfl, rfl⟩)
  clear ha hL ho hf
  go_loopw [19] (fun i wr => ∃ j : Nat, i = .int .i64 j ∧ j ≤ L.length ∧ IsBits wr b g (setAll xs v (L.take j)) ∧ Keep [g] w wr) (fun i _ => L.length - (intOf i).toNat)
  case atStart => exact ⟨0, rfl, by omega, HA.out, Keep.refl _ _⟩
  case round =>
    obtain ⟨j, rfl, hj, hA, hK⟩ := hrel
    by_cases hlt : j < L.length
    · have hL2 := HL.out.keep hK HO.out
      obtain ⟨ab, off, rfl, hab, hcs⟩ := hL2.cells (by omega)
      have hc := hcs j hlt
      have hin := HF.out j hlt
      have HS := (show Hid (setAll xs v (L.take (j + 1)) = (setAll xs v (L.take j)).set (L[j]?.getD 0).toNat v) from setAll_step xs v L j hlt)
      have hlen := setAll_length xs v (L.take j)
      clear hcs hL2
      generalize L[j]?.getD 0 = x at *
      obtain ⟨k, rfl⟩ := Int.eq_ofNat_of_zero_le hin.1
      rw [Int.toNat_natCast] at HS
      have hk : k < (setAll xs v (L.take j)).length := by omega
      have hR := hA.row.put k v
      have y1 := hA.row.cell hk
      have y2 := hA.row.free k
      have y3 := hA.cell
      rw [hlen] at y3
      have HA2 := (show Hid (IsBits wr b g (setAll xs v (L.take j))) from hA)
      have HR2 := (show Hid (BRow (wr.setCell ⟨g, k, none⟩ (.bool v)) 4 g ((setAll xs v (L.take j)).set k v)) from hR)
      clear hA hR hlen hk
      generalize (setAll xs v (L.take j)) = ys at *
      go_wp2
      go_roundw
      case rel =>
        have hK2 : Keep [g] wr (wr.setCell ⟨g, k, none⟩ (.bool v)) := Keep.setCell _ _ (by simp)
        exact ⟨j + 1, by go_num, by omega, by rw [HS.out]; exact HA2.out.other hK2 (by simp) HR2.out, hK.trans hK2⟩
      case measure => simp [intOf]; omega
    · have HT := (show Hid (L.take j = L) from List.take_of_length_le (by omega))
      rw [HT.out] at hA
      have hd : decide ((j : Int) < L.length) = false := by rw [decide_eq_false_iff_not]; omega
      go_wp2
      go_ret
      exact ⟨rfl, hA, hK⟩

/-- What Set leaves, and what it answers, whatever it is given. -/
def setR (xs : List Bool) (v : Bool) (L : List Int) : List Bool := if fitsB xs.length L = true then setAll xs v L else xs
def setE (n : Nat) (L : List Int) : Int := if fitsB n L = true then 0 else 2
theorem setR_length (xs : List Bool) (v : Bool) (L : List Int) : (setR xs v L).length = xs.length := by
  unfold setR; split
  · exact setAll_length _ _ _
  · rfl
theorem bset_any (b g c : Nat) (v : Bool) (xs : List Bool) (ao : Option Addr) (L : List Int) (w : World) (ha : IsBits w b g xs) (hL : IntsAt w ao L) (ho : 0 < L.length → Off ao [g]) (hl : L.length ≤ 9223372036854775807) :
    Calls Try.prog 56 #[.pointer (some ⟨b, 0, none⟩), .bool v, .slice ao L.length c] w fun e w' => e = .returned (.int .i64 (setE xs.length L)) ∧ IsBits w' b g (setR xs v L) ∧ Keep [g] w w' := by
  unfold setE setR
  by_cases hf : fitsB xs.length L = true
  · simp only [if_pos hf]; exact bset_yes b g c v xs ao L w ha hL ho hl hf
  · simp only [if_neg hf]
    refine (bset_no b g c v xs ao L w ha hL hl (by simpa using hf)).mono ?_
    rintro e w' ⟨rfl, rfl⟩
    exact ⟨rfl, ha, Keep.refl _ _⟩

theorem IntsAt.one (w : World) (t : TypeId) (x : Int) (h1 : -9223372036854775808 ≤ x) (h2 : x ≤ 9223372036854775807) : IntsAt (w.alloc (.cells #[.int .i64 x] t)) (some ⟨w.heap.size, 0, none⟩) [x] := by
  refine ⟨fun _ => ⟨w.heap.size, 0, rfl, by simp, fun i hi => ?_⟩, fun i => ?_, fun i => ?_⟩
  · obtain rfl : i = 0 := by simpa using hi
    exact cell_of_one (heap_alloc_new w _)
  · rcases i with _ | i <;> simp; omega
  · rcases i with _ | i <;> simp; omega
/-- One place is set, told by a list that is new. -/
theorem bset_one (b g j : Nat) (v : Bool) (xs : List Bool) (w : World) (ha : IsBits w b g xs) (hj : j < xs.length) :
    Calls Try.prog 56 #[.pointer (some ⟨b, 0, none⟩), .bool v, .slice (some ⟨w.heap.size, 0, none⟩) 1 1] (w.alloc (.cells #[.int .i64 j] 3)) fun e w' => e = .returned (.int .i64 0) ∧ IsBits w' b g (xs.set j v) ∧ Keep [g] w w' := by
  have hk := Keep.alloc [] w (.cells #[.int .i64 j] 3)
  have hl := ha.lt
  have hn := ha.len
  refine (bset_yes b g 1 v xs _ [(j : Int)] _ (ha.keep hk (by simp) (by simp)) (IntsAt.one w 3 j (by omega) (by omega)) (fun _ a e => by cases e; simp; omega) (by simp) ?_).mono ?_
  · rw [fitsB_iff]; intro i hi; obtain rfl := List.mem_singleton.1 hi; omega
  · rintro e w' ⟨rfl, h1, h2⟩
    exact ⟨rfl, h1, (hk.mono (by simp)).trans h2⟩
theorem bset_one' (b g j z : Nat) (v : Bool) (xs : List Bool) (w : World) (hz : w.heap.size = z) (ha : IsBits w b g xs) (hj : j < xs.length) :
    Calls Try.prog 56 #[.pointer (some ⟨b, 0, none⟩), .bool v, .slice (some ⟨z, 0, none⟩) 1 1] (w.alloc (.cells #[.int .i64 j] 3)) fun e w' => e = .returned (.int .i64 0) ∧ IsBits w' b g (xs.set j v) ∧ Keep [g] w w' := by
  subst hz; exact bset_one b g j v xs w ha hj

end Go.Proofs.Ytdpaffnpedcmpab
