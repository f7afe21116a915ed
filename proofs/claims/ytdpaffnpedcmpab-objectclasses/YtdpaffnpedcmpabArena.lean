/-
  What each call of package arena does, said of an arena in memory: its block, the block of its words, its words.
-/
import Derived.Test.YtdpaffnpedcmpabRows
import Derived.Test.YtdpaffnpedcmpabBase
namespace Go.Proofs.Ytdpaffnpedcmpab
open Go.RowKit

theorem Try.infoInt : (Try.prog.info? 3).map (fun i => (i.zero, i.size, i.bytes)) = some (some (.int .i64 0), 1, 8) := by kernel_rfl

/-- Block b is an arena whose words xs lie in block g. -/
structure IsArena (w : World) (b g : Nat) (xs : List Int) : Prop where
  ne : b ≠ g
  head : w.heap[b]? = some (.cells #[.slice (some ⟨g, 0, none⟩) xs.length xs.length] 99 (0, 0))
  row : Row w 3 g xs

theorem IsArena.cell {w : World} {b g : Nat} {xs : List Int} (h : IsArena w b g xs) : w.cell? ⟨b, 0, none⟩ = some (.slice (some ⟨g, 0, none⟩) xs.length xs.length) := cell_of_one h.head
theorem IsArena.keep {S : List Nat} {w w' : World} {b g : Nat} {xs : List Int} (h : IsArena w b g xs) (k : Keep S w w') (hb : b ∉ S) (hg : g ∉ S) : IsArena w' b g xs :=
  ⟨h.ne, k.blk h.head hb, h.row.keep k hg⟩
theorem IsArena.other {w w' : World} {b g : Nat} {xs ys : List Int} (h : IsArena w b g xs) (k : Keep [g] w w') (hl : ys.length = xs.length) (r : Row w' 3 g ys) : IsArena w' b g ys :=
  ⟨h.ne, by rw [hl]; exact k.blk h.head (by simpa using h.ne), r⟩

set_option maxHeartbeats 400000 in
theorem has_any (b : Nat) (i : Int) (sp : Option Addr) (n c : Nat) (w : World) (hb : w.cell? ⟨b, 0, none⟩ = some (.slice sp n c)) :
    Calls Try.prog 46 #[.pointer (some ⟨b, 0, none⟩), .int .i64 i] w fun e w' => e = .returned (.bool (decide (0 ≤ i) && decide (i < n))) ∧ w = w' := by
  by_cases h0 : 0 ≤ i
  · go_enter Try.func46, Try.ntmps46
    go_wp2
    go_ret
    exact ⟨by simp [h0], rfl⟩
  · go_enter Try.func46, Try.ntmps46
    go_wp2
    go_ret
    exact ⟨by simp; omega, rfl⟩

set_option maxHeartbeats 400000 in
theorem len_any (b g : Nat) (xs : List Int) (w : World) (h : IsArena w b g xs) :
    Calls Try.prog 47 #[.pointer (some ⟨b, 0, none⟩)] w fun e w' => e = .returned (.int .i64 xs.length) ∧ w = w' := by
  have hb := h.cell
  go_enter Try.func47, Try.ntmps47
  go_wp2
  go_ret
  exact ⟨rfl, rfl⟩

set_option maxHeartbeats 400000 in
theorem len_nil (w : World) :
    Calls Try.prog 47 #[.pointer none] w fun e w' => e = .returned (.int .i64 0) ∧ w = w' := by
  go_enter Try.func47, Try.ntmps47
  go_wp2
  go_ret
  exact ⟨rfl, rfl⟩

set_option maxHeartbeats 400000 in
theorem load_no (b g : Nat) (i : Int) (xs : List Int) (w : World) (ha : IsArena w b g xs) (h : ¬ (0 ≤ i ∧ i < xs.length)) :
    Calls Try.prog 32 #[.pointer (some ⟨b, 0, none⟩), .int .i64 i] w fun e w' => e = .returned (.tuple #[.int .i64 0, .int .i64 2]) ∧ w = w' := by
  have hd : (decide (0 ≤ i) && decide (i < (xs.length : Int))) = false := by simp; omega
  have hb := ha.cell
  go_enter Try.func32, Try.ntmps32
  go_wp2_with (go_at_call 46; refine (has_any _ _ _ _ _ _ hb).mono ?_; rw [hd]; rintro e w' ⟨rfl, rfl⟩)
  go_ret2
  exact ⟨rfl, rfl⟩

set_option maxHeartbeats 400000 in
theorem load_yes (b g i : Nat) (xs : List Int) (w : World) (ha : IsArena w b g xs) (h : i < xs.length) :
    Calls Try.prog 32 #[.pointer (some ⟨b, 0, none⟩), .int .i64 i] w fun e w' => e = .returned (.tuple #[.int .i64 (xs[i]?.getD 0), .int .i64 0]) ∧ w = w' := by
  have hd : (decide ((0 : Int) ≤ (i : Int)) && decide ((i : Int) < (xs.length : Int))) = true := by simp; omega
  have hb := ha.cell
  obtain ⟨x, hx⟩ : ∃ x, x = xs[i]?.getD 0 := ⟨_, rfl⟩
  have hc := ha.row.cell h
  rw [← hx] at hc ⊢
  clear hx
  generalize xs.length = n at *
  go_enter Try.func32, Try.ntmps32
  go_wp2_with (go_at_call 46; refine (has_any _ _ _ _ _ _ hb).mono ?_; rw [hd]; rintro e w' ⟨rfl, rfl⟩)
  go_ret2
  exact ⟨rfl, rfl⟩

set_option maxHeartbeats 400000 in
theorem load_nil (i : Int) (w : World) :
    Calls Try.prog 32 #[.pointer none, .int .i64 i] w fun e w' => e = .returned (.tuple #[.int .i64 0, .int .i64 2]) ∧ w = w' := by
  go_enter Try.func32, Try.ntmps32
  go_wp2
  go_ret2
  exact ⟨rfl, rfl⟩

set_option maxHeartbeats 400000 in
theorem store_no (b g : Nat) (i x : Int) (xs : List Int) (w : World) (ha : IsArena w b g xs) (h : ¬ (0 ≤ i ∧ i < xs.length)) :
    Calls Try.prog 27 #[.pointer (some ⟨b, 0, none⟩), .int .i64 i, .int .i64 x] w fun e w' => e = .returned (.int .i64 2) ∧ w = w' := by
  have hd : (decide (0 ≤ i) && decide (i < (xs.length : Int))) = false := by simp; omega
  have hb := ha.cell
  go_enter Try.func27, Try.ntmps27
  go_wp2_with (go_at_call 46; refine (has_any _ _ _ _ _ _ hb).mono ?_; rw [hd]; rintro e w' ⟨rfl, rfl⟩)
  go_ret
  exact ⟨rfl, rfl⟩

set_option maxHeartbeats 400000 in
theorem store_nil (i x : Int) (w : World) :
    Calls Try.prog 27 #[.pointer none, .int .i64 i, .int .i64 x] w fun e w' => e = .returned (.int .i64 2) ∧ w = w' := by
  go_enter Try.func27, Try.ntmps27
  go_wp2
  go_ret
  exact ⟨rfl, rfl⟩

set_option maxHeartbeats 400000 in
theorem store_core (b g i n : Nat) (x : Int) (y : Value) (w : World) (hb : w.cell? ⟨b, 0, none⟩ = some (.slice (some ⟨g, 0, none⟩) n n)) (h : i < n) (hx : w.cell? ⟨g, i, none⟩ = some y) (hf : w.frozen? ⟨g, i, none⟩ = false) :
    Calls Try.prog 27 #[.pointer (some ⟨b, 0, none⟩), .int .i64 i, .int .i64 x] w fun e w' => e = .returned (.int .i64 0) ∧ w.setCell ⟨g, i, none⟩ (.int .i64 x) = w' := by
  have hd : (decide ((0 : Int) ≤ (i : Int)) && decide ((i : Int) < n)) = true := by simp; omega
  go_enter Try.func27, Try.ntmps27
  go_wp2_with (go_at_call 46; refine (has_any _ _ _ _ _ _ hb).mono ?_; rw [hd]; rintro e w' ⟨rfl, rfl⟩)
  go_ret
  exact ⟨rfl, rfl⟩

theorem store_yes (b g i : Nat) (x : Int) (xs : List Int) (w : World) (ha : IsArena w b g xs) (h : i < xs.length) :
    Calls Try.prog 27 #[.pointer (some ⟨b, 0, none⟩), .int .i64 i, .int .i64 x] w fun e w' => e = .returned (.int .i64 0) ∧ IsArena w' b g (xs.set i x) ∧ Keep [g] w w' := by
  refine (store_core b g i xs.length x _ w ha.cell h (ha.row.cell h) (ha.row.free i)).mono ?_
  rintro e w' ⟨rfl, rfl⟩
  have hk : Keep [g] w (w.setCell ⟨g, i, none⟩ (.int .i64 x)) := Keep.setCell w _ (by simp)
  exact ⟨rfl, ha.other hk (by simp) (ha.row.put i x), hk⟩

set_option maxHeartbeats 400000 in
theorem new_no (n : Int) (w : World) (h : ¬ (1 ≤ n ∧ n ≤ 256)) :
    Calls Try.prog 39 #[.int .i64 n] w fun e w' => e = .returned (.tuple #[.pointer none, .int .i64 1]) ∧ w = w' := by
  by_cases h1 : n < 1
  · go_enter Try.func39, Try.ntmps39
    go_wp2
    go_ret2
    exact ⟨rfl, rfl⟩
  · have h2 : 256 < n := by omega
    go_enter Try.func39, Try.ntmps39
    go_wp2
    go_ret2
    exact ⟨rfl, rfl⟩

set_option maxHeartbeats 400000 in
theorem new_core (n : Nat) (w : World) (h1 : 1 ≤ n) (h2 : n ≤ 256) :
    Calls Try.prog 39 #[.int .i64 n] w fun e w' => e = .returned (.tuple #[.pointer (some ⟨w.heap.size + 1, 0, none⟩), .int .i64 0]) ∧
      w' = (w.alloc (.cells (madeCells #[.int .i64 0] (n * 64)) 3)).alloc (.cells #[.slice (some ⟨w.heap.size, 0, none⟩) (n * 64) (n * 64)] 99) := by
  have hmk : ∀ w, (Instr.makeSlice 46 (.int .i64 ((n : Int) * 64)) (.int .i64 ((n : Int) * 64))).run Try.prog w = .ok (.slice (some ⟨w.heap.size, 0, none⟩) (n * 64) (n * 64)) (w.alloc (.cells (madeCells #[.int .i64 0] (n * 64)) 3)) := by
    intro w
    have := run_make_row' (P := Try.prog) 46 3 (.int .i64 0) 8 Try.underlying46 Try.infoInt rfl .i64 .i64 (n * 64) (by omega) (by omega) w
    rw [show ((n * 64 : Nat) : Int) = (n : Int) * 64 from by omega] at this
    exact this
  go_enter Try.func39, Try.ntmps39
  go_wp2
  go_ret2
  exact ⟨rfl, rfl⟩

theorem new_yes (n : Nat) (w : World) (h1 : 1 ≤ n) (h2 : n ≤ 256) :
    Calls Try.prog 39 #[.int .i64 n] w fun e w' => e = .returned (.tuple #[.pointer (some ⟨w.heap.size + 1, 0, none⟩), .int .i64 0]) ∧
      IsArena w' (w.heap.size + 1) w.heap.size (zeros (n * 64)) ∧ Keep [] w w' ∧ w'.heap.size = w.heap.size + 2 := by
  refine (new_core n w h1 h2).mono ?_
  rintro e w' ⟨rfl, rfl⟩
  refine ⟨rfl, ⟨by omega, ?_, ?_⟩, (Keep.alloc _ _ _).trans (Keep.alloc _ _ _), by simp⟩
  · have := heap_alloc_new (w.alloc (.cells (madeCells #[.int .i64 0] (n * 64)) 3)) (.cells #[.slice (some ⟨w.heap.size, 0, none⟩) (n * 64) (n * 64)] 99)
    simpa [zeros_length] using this
  · exact (Row.made w 3 (n * 64)).keep (Keep.alloc [] _ _) (by simp)

theorem IsArena.lt {w : World} {b g : Nat} {xs : List Int} (h : IsArena w b g xs) : b < w.heap.size ∧ g < w.heap.size := ⟨lt_of_block h.head, h.row.lt⟩

/-- The blocks are new ones; which, nobody need know. -/
theorem new_ok (n : Nat) (w : World) (h1 : 1 ≤ n) (h2 : n ≤ 256) :
    Calls Try.prog 39 #[.int .i64 n] w fun e w' => ∃ b g, e = .returned (.tuple #[.pointer (some ⟨b, 0, none⟩), .int .i64 0]) ∧
      IsArena w' b g (zeros (n * 64)) ∧ Keep [] w w' ∧ w.heap.size ≤ b ∧ w.heap.size ≤ g := by
  refine (new_yes n w h1 h2).mono ?_
  rintro e w' ⟨rfl, hA, hK, _⟩
  exact ⟨_, _, rfl, hA, hK, by omega, by omega⟩

set_option maxHeartbeats 400000 in
theorem from_in (b i g n : Nat) (w : World) (hb : w.cell? ⟨b, 0, none⟩ = some (.slice (some ⟨g, 0, none⟩) n n)) (h : i < n) :
    Calls Try.prog 62 #[.pointer (some ⟨b, 0, none⟩), .int .i64 i] w fun e w' => e = .returned (.slice (some ⟨g, i, none⟩) (n - i) (n - i)) ∧ ∃ k, w.drewN k = w' := by
  go_enter Try.func62, Try.ntmps62
  go_wp2
  go_quiet (fail)
  go_wp2
  go_ret
  exact ⟨rfl, _, rfl⟩

set_option maxHeartbeats 400000 in
theorem from_out (b i g n : Nat) (w : World) (hb : w.cell? ⟨b, 0, none⟩ = some (.slice (some ⟨g, 0, none⟩) n n)) (h : n ≤ i) :
    Calls Try.prog 62 #[.pointer (some ⟨b, 0, none⟩), .int .i64 i] w fun e w' => e = .returned (.slice (some ⟨g, 0, none⟩) 0 0) ∧ ∃ k, w.drewN k = w' := by
  go_enter Try.func62, Try.ntmps62
  go_wp2
  go_quiet (fail)
  go_wp2
  all_goals (go_ret; exact ⟨rfl, _, rfl⟩)

set_option maxHeartbeats 400000 in
theorem fill_neg (b : Nat) (i n : Int) (w : World) (h : n < 0) :
    Calls Try.prog 44 #[.pointer (some ⟨b, 0, none⟩), .int .i64 i, .int .i64 n] w fun e w' => e = .returned (.int .i64 1) ∧ w = w' := by
  go_enter Try.func44, Try.ntmps44
  go_wp2
  go_ret
  exact ⟨rfl, rfl⟩

set_option maxHeartbeats 400000 in
theorem fill_at (b : Nat) (i n : Int) (w : World) (h : 0 ≤ n) (hi : i < 0) :
    Calls Try.prog 44 #[.pointer (some ⟨b, 0, none⟩), .int .i64 i, .int .i64 n] w fun e w' => e = .returned (.int .i64 2) ∧ w = w' := by
  go_enter Try.func44, Try.ntmps44
  go_wp2
  go_ret
  exact ⟨rfl, rfl⟩

set_option maxHeartbeats 400000 in
theorem fill_big (b g i n : Nat) (xs : List Int) (w : World) (ha : IsArena w b g xs) (h : 0 < n) (hn : xs.length < i + n) :
    Calls Try.prog 44 #[.pointer (some ⟨b, 0, none⟩), .int .i64 i, .int .i64 n] w fun e w' => e = .returned (.int .i64 2) ∧ ∃ k, w.drewN k = w' := by
  have hb := ha.cell
  generalize xs.length = m at *
  by_cases him : i < m
  · go_enter Try.func44, Try.ntmps44
    go_wp2_with (go_at_call 62; refine (from_in _ _ _ _ _ hb him).mono ?_; rintro e w' ⟨rfl, nq, rfl⟩)
    go_ret
    exact ⟨rfl, _, rfl⟩
  · go_enter Try.func44, Try.ntmps44
    go_wp2_with (go_at_call 62; refine (from_out _ _ _ _ _ hb (by omega)).mono ?_; rintro e w' ⟨rfl, nq, rfl⟩)
    go_ret
    exact ⟨rfl, _, rfl⟩

set_option maxHeartbeats 400000 in
theorem fill_core (b g i n m : Nat) (w : World) (cs : Array Value) (hb : w.cell? ⟨b, 0, none⟩ = some (.slice (some ⟨g, 0, none⟩) m m)) (him : i < m) (hn : n ≤ m - i)
    (hcl : ∀ k c, (Builtin.clear_ #[46] 0 #[.slice (some ⟨g, i, none⟩) n c]).run Try.prog (w.drewN k) = .ok (.tuple #[]) ((w.drewN k).setRow g cs)) :
    Calls Try.prog 44 #[.pointer (some ⟨b, 0, none⟩), .int .i64 i, .int .i64 n] w fun e w' => e = .returned (.int .i64 0) ∧ ∃ k, w' = (w.drewN k).setRow g cs := by
  go_enter Try.func44, Try.ntmps44
  go_wp2_with (go_at_call 62; refine (from_in _ _ _ _ _ hb him).mono ?_; rintro e w' ⟨rfl, nq, rfl⟩)
  go_ret
  exact ⟨rfl, _, rfl⟩

/-- Words that lie there wholly are 0 behind a fill, the others as they were. -/
theorem fill_yes (b g i n : Nat) (xs : List Int) (w : World) (ha : IsArena w b g xs) (him : i < xs.length) (hn : n ≤ xs.length - i) :
    Calls Try.prog 44 #[.pointer (some ⟨b, 0, none⟩), .int .i64 i, .int .i64 n] w fun e w' => e = .returned (.int .i64 0) ∧ IsArena w' b g (fill0 xs i n) ∧ Keep [g] w w' := by
  have hr : ∀ k, Row (w.drewN k) 3 g xs := fun k => ha.row
  refine (fill_core b g i n xs.length w (ints (fill0 xs i n)).toArray ha.cell him hn (fun k c => ((hr k).cleared 46 0 3 3 Try.underlying46 Try.infoInt (by omega)).1)).mono ?_
  rintro e w' ⟨rfl, k, rfl⟩
  have hk : Keep [g] w ((w.drewN k).setRow g (ints (fill0 xs i n)).toArray) := (Keep.drewN [g] w k).trans (Keep.setRow _ _ (by simp))
  refine ⟨rfl, ha.other hk (fill0_length xs i n (by omega)) ?_, hk⟩
  exact ((hr k).cleared (P := Try.prog) (c := 0) 46 0 3 3 Try.underlying46 Try.infoInt (by omega)).2

set_option maxHeartbeats 400000 in
theorem fill_none (b g i : Nat) (xs : List Int) (w : World) (ha : IsArena w b g xs) (him : xs.length ≤ i) :
    Calls Try.prog 44 #[.pointer (some ⟨b, 0, none⟩), .int .i64 i, .int .i64 0] w fun e w' => e = .returned (.int .i64 0) ∧ ∃ k, w.drewN k = w' := by
  have hcl : ∀ (w' : World) c, (Builtin.clear_ #[46] 0 #[.slice (some ⟨g, 0, none⟩) 0 c]).run Try.prog w' = .ok (.tuple #[]) w' := by
    intro w' c; simp [Builtin.clear_, run_underlying Try.underlying46]
  have hb := ha.cell
  generalize xs.length = m at *
  go_enter Try.func44, Try.ntmps44
  go_wp2_with (go_at_call 62; refine (from_out _ _ _ _ _ hb him).mono ?_; rintro e w' ⟨rfl, nq, rfl⟩)
  go_ret
  exact ⟨rfl, _, rfl⟩

/-- The same at any integer that is a place. -/
theorem load_in (b g : Nat) (i : Int) (xs : List Int) (w : World) (ha : IsArena w b g xs) (h0 : 0 ≤ i) (h : i < xs.length) :
    Calls Try.prog 32 #[.pointer (some ⟨b, 0, none⟩), .int .i64 i] w fun e w' => e = .returned (.tuple #[.int .i64 (xs[i.toNat]?.getD 0), .int .i64 0]) ∧ w = w' := by
  obtain ⟨k, rfl⟩ := Int.eq_ofNat_of_zero_le h0
  exact load_yes b g k xs w ha (by omega)
theorem store_in (b g : Nat) (i x : Int) (xs : List Int) (w : World) (ha : IsArena w b g xs) (h0 : 0 ≤ i) (h : i < xs.length) :
    Calls Try.prog 27 #[.pointer (some ⟨b, 0, none⟩), .int .i64 i, .int .i64 x] w fun e w' => e = .returned (.int .i64 0) ∧ IsArena w' b g (xs.set i.toNat x) ∧ Keep [g] w w' := by
  obtain ⟨k, rfl⟩ := Int.eq_ofNat_of_zero_le h0
  exact store_yes b g k x xs w ha (by omega)

/-- All of fill, at places and numbers from 0 on. -/
theorem fill_tot (b g i n : Nat) (xs : List Int) (w : World) (ha : IsArena w b g xs) :
    Calls Try.prog 44 #[.pointer (some ⟨b, 0, none⟩), .int .i64 i, .int .i64 n] w fun e w' => ∃ (c : Int) (ys : List Int), e = .returned (.int .i64 c) ∧ IsArena w' b g ys ∧ Keep [g] w w' ∧ ys.length = xs.length ∧
      (((n = 0 ∨ i + n ≤ xs.length) ∧ c = 0 ∧ ∀ t, ys[t]?.getD 0 = if i ≤ t ∧ t < i + n then 0 else xs[t]?.getD 0) ∨ (0 < n ∧ xs.length < i + n) ∧ c = 2 ∧ ys = xs) := by
  by_cases h : 0 < n ∧ xs.length < i + n
  · refine (fill_big b g i n xs w ha h.1 h.2).mono ?_
    rintro e w' ⟨rfl, k, rfl⟩
    exact ⟨2, xs, rfl, ha.keep (Keep.drewN [] w k) (by simp) (by simp), Keep.drewN _ w k, rfl, .inr ⟨h, rfl, rfl⟩⟩
  · by_cases hi : i < xs.length
    · refine (fill_yes b g i n xs w ha hi (by omega)).mono ?_
      rintro e w' ⟨rfl, hA, hK⟩
      exact ⟨0, _, rfl, hA, hK, fill0_length _ _ _ (by omega), .inl ⟨by omega, rfl, fun t => fill0_get xs i n t (by omega)⟩⟩
    · obtain rfl : n = 0 := by omega
      refine (fill_none b g i xs w ha (by omega)).mono ?_
      rintro e w' ⟨rfl, k, rfl⟩
      refine ⟨0, xs, rfl, ha.keep (Keep.drewN [] w k) (by simp) (by simp), Keep.drewN _ w k, rfl, .inl ⟨.inl rfl, rfl, fun t => ?_⟩⟩
      rw [if_neg (by omega)]

end Go.Proofs.Ytdpaffnpedcmpab
