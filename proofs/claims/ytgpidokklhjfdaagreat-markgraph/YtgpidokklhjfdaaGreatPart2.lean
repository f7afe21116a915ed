/-
  Contracts of what the statement calls, one text behind the other (Arena, PagesOps, SpaceAt, SpaceFind, Own, Lists, SpaceEach, Head, Ret, HeadGet).
-/
import Derived.Test.YtgpidokklhjfdaaGreatRows
import Derived.Test.YtgpidokklhjfdaaGreatPart1
import Derived.OwnWalk
import Derived.Laws.AppendOwnNone
import Derived.ProofKit
import Derived.OpenShut
import Derived.Deep.Slices
import Derived.Deep.RegionHeld3
import Derived.Deep.RegionLaw
import Derived.Deep.CutRange

/-
  What each call of package arena does, said of an arena in memory: its block, the block of its words, its words.
-/
namespace Go.Proofs.YtgpidokklhjfdaaGreat
open Go.RowKit

theorem Tryz.infoInt : (Tryz.prog.info? 3).map (fun i => (i.zero, i.size, i.bytes)) = some (some (.int .i64 0), 1, 8) := by kernel_rfl

/-- Block b is an arena whose words xs lie in block g. -/
structure IsArena (w : World) (b g : Nat) (xs : List Int) : Prop where
  ne : b ≠ g
  head : w.heap[b]? = some (.cells #[.slice (some ⟨g, 0, none⟩) xs.length xs.length] 155 (0, 0))
  row : Row w 3 g xs

theorem IsArena.cell {w : World} {b g : Nat} {xs : List Int} (h : IsArena w b g xs) : w.cell? ⟨b, 0, none⟩ = some (.slice (some ⟨g, 0, none⟩) xs.length xs.length) := cell_of_one h.head
theorem IsArena.keep {S : List Nat} {w w' : World} {b g : Nat} {xs : List Int} (h : IsArena w b g xs) (k : Keep S w w') (hb : b ∉ S) (hg : g ∉ S) : IsArena w' b g xs :=
  ⟨h.ne, k.blk h.head hb, h.row.keep k hg⟩
theorem IsArena.other {w w' : World} {b g : Nat} {xs ys : List Int} (h : IsArena w b g xs) (k : Keep [g] w w') (hl : ys.length = xs.length) (r : Row w' 3 g ys) : IsArena w' b g ys :=
  ⟨h.ne, by rw [hl]; exact k.blk h.head (by simpa using h.ne), r⟩

set_option maxHeartbeats 400000 in
theorem has_any (b : Nat) (i : Int) (sp : Option Addr) (n c : Nat) (w : World) (hb : w.cell? ⟨b, 0, none⟩ = some (.slice sp n c)) :
    Calls Tryz.prog 88 #[.pointer (some ⟨b, 0, none⟩), .int .i64 i] w fun e w' => e = .returned (.bool (decide (0 ≤ i) && decide (i < n))) ∧ w = w' := by
  by_cases h0 : 0 ≤ i
  · go_enter Tryz.func88, Tryz.ntmps88
    go_wp2
    go_ret
    exact ⟨by simp [h0], rfl⟩
  · go_enter Tryz.func88, Tryz.ntmps88
    go_wp2
    go_ret
    exact ⟨by simp; omega, rfl⟩

set_option maxHeartbeats 400000 in
theorem len_any (b g : Nat) (xs : List Int) (w : World) (h : IsArena w b g xs) :
    Calls Tryz.prog 64 #[.pointer (some ⟨b, 0, none⟩)] w fun e w' => e = .returned (.int .i64 xs.length) ∧ w = w' := by
  have hb := h.cell
  go_enter Tryz.func64, Tryz.ntmps64
  go_wp2
  go_ret
  exact ⟨rfl, rfl⟩

set_option maxHeartbeats 400000 in
theorem len_nil (w : World) :
    Calls Tryz.prog 64 #[.pointer none] w fun e w' => e = .returned (.int .i64 0) ∧ w = w' := by
  go_enter Tryz.func64, Tryz.ntmps64
  go_wp2
  go_ret
  exact ⟨rfl, rfl⟩

set_option maxHeartbeats 400000 in
theorem load_no (b g : Nat) (i : Int) (xs : List Int) (w : World) (ha : IsArena w b g xs) (h : ¬ (0 ≤ i ∧ i < xs.length)) :
    Calls Tryz.prog 75 #[.pointer (some ⟨b, 0, none⟩), .int .i64 i] w fun e w' => e = .returned (.tuple #[.int .i64 0, .int .i64 2]) ∧ w = w' := by
  have hd : (decide (0 ≤ i) && decide (i < (xs.length : Int))) = false := by simp; omega
  have hb := ha.cell
  go_enter Tryz.func75, Tryz.ntmps75
  go_wp2_with (go_at_call 88; refine (has_any _ _ _ _ _ _ hb).mono ?_; rw [hd]; rintro e w' ⟨rfl, rfl⟩)
  go_ret2
  exact ⟨rfl, rfl⟩

set_option maxHeartbeats 400000 in
theorem load_yes (b g i : Nat) (xs : List Int) (w : World) (ha : IsArena w b g xs) (h : i < xs.length) :
    Calls Tryz.prog 75 #[.pointer (some ⟨b, 0, none⟩), .int .i64 i] w fun e w' => e = .returned (.tuple #[.int .i64 (xs[i]?.getD 0), .int .i64 0]) ∧ w = w' := by
  have hd : (decide ((0 : Int) ≤ (i : Int)) && decide ((i : Int) < (xs.length : Int))) = true := by simp; omega
  have hb := ha.cell
  obtain ⟨x, hx⟩ : ∃ x, x = xs[i]?.getD 0 := ⟨_, rfl⟩
  have hc := ha.row.cell h
  rw [← hx] at hc ⊢
  clear hx
  generalize xs.length = n at *
  go_enter Tryz.func75, Tryz.ntmps75
  go_wp2_with (go_at_call 88; refine (has_any _ _ _ _ _ _ hb).mono ?_; rw [hd]; rintro e w' ⟨rfl, rfl⟩)
  go_ret2
  exact ⟨rfl, rfl⟩

set_option maxHeartbeats 400000 in
theorem load_nil (i : Int) (w : World) :
    Calls Tryz.prog 75 #[.pointer none, .int .i64 i] w fun e w' => e = .returned (.tuple #[.int .i64 0, .int .i64 2]) ∧ w = w' := by
  go_enter Tryz.func75, Tryz.ntmps75
  go_wp2
  go_ret2
  exact ⟨rfl, rfl⟩

set_option maxHeartbeats 400000 in
theorem store_no (b g : Nat) (i x : Int) (xs : List Int) (w : World) (ha : IsArena w b g xs) (h : ¬ (0 ≤ i ∧ i < xs.length)) :
    Calls Tryz.prog 58 #[.pointer (some ⟨b, 0, none⟩), .int .i64 i, .int .i64 x] w fun e w' => e = .returned (.int .i64 2) ∧ w = w' := by
  have hd : (decide (0 ≤ i) && decide (i < (xs.length : Int))) = false := by simp; omega
  have hb := ha.cell
  go_enter Tryz.func58, Tryz.ntmps58
  go_wp2_with (go_at_call 88; refine (has_any _ _ _ _ _ _ hb).mono ?_; rw [hd]; rintro e w' ⟨rfl, rfl⟩)
  go_ret
  exact ⟨rfl, rfl⟩

set_option maxHeartbeats 400000 in
theorem store_nil (i x : Int) (w : World) :
    Calls Tryz.prog 58 #[.pointer none, .int .i64 i, .int .i64 x] w fun e w' => e = .returned (.int .i64 2) ∧ w = w' := by
  go_enter Tryz.func58, Tryz.ntmps58
  go_wp2
  go_ret
  exact ⟨rfl, rfl⟩

set_option maxHeartbeats 400000 in
theorem store_core (b g i n : Nat) (x : Int) (y : Value) (w : World) (hb : w.cell? ⟨b, 0, none⟩ = some (.slice (some ⟨g, 0, none⟩) n n)) (h : i < n) (hx : w.cell? ⟨g, i, none⟩ = some y) (hf : w.frozen? ⟨g, i, none⟩ = false) :
    Calls Tryz.prog 58 #[.pointer (some ⟨b, 0, none⟩), .int .i64 i, .int .i64 x] w fun e w' => e = .returned (.int .i64 0) ∧ w.setCell ⟨g, i, none⟩ (.int .i64 x) = w' := by
  have hd : (decide ((0 : Int) ≤ (i : Int)) && decide ((i : Int) < n)) = true := by simp; omega
  go_enter Tryz.func58, Tryz.ntmps58
  go_wp2_with (go_at_call 88; refine (has_any _ _ _ _ _ _ hb).mono ?_; rw [hd]; rintro e w' ⟨rfl, rfl⟩)
  go_ret
  exact ⟨rfl, rfl⟩

theorem store_yes (b g i : Nat) (x : Int) (xs : List Int) (w : World) (ha : IsArena w b g xs) (h : i < xs.length) :
    Calls Tryz.prog 58 #[.pointer (some ⟨b, 0, none⟩), .int .i64 i, .int .i64 x] w fun e w' => e = .returned (.int .i64 0) ∧ IsArena w' b g (xs.set i x) ∧ Keep [g] w w' := by
  refine (store_core b g i xs.length x _ w ha.cell h (ha.row.cell h) (ha.row.free i)).mono ?_
  rintro e w' ⟨rfl, rfl⟩
  have hk : Keep [g] w (w.setCell ⟨g, i, none⟩ (.int .i64 x)) := Keep.setCell w _ (by simp)
  exact ⟨rfl, ha.other hk (by simp) (ha.row.put i x), hk⟩

set_option maxHeartbeats 400000 in
theorem new_no (n : Int) (w : World) (h : ¬ (1 ≤ n ∧ n ≤ 256)) :
    Calls Tryz.prog 78 #[.int .i64 n] w fun e w' => e = .returned (.tuple #[.pointer none, .int .i64 1]) ∧ w = w' := by
  by_cases h1 : n < 1
  · go_enter Tryz.func78, Tryz.ntmps78
    go_wp2
    go_ret2
    exact ⟨rfl, rfl⟩
  · have h2 : 256 < n := by omega
    go_enter Tryz.func78, Tryz.ntmps78
    go_wp2
    go_ret2
    exact ⟨rfl, rfl⟩

set_option maxHeartbeats 400000 in
theorem new_core (n : Nat) (w : World) (h1 : 1 ≤ n) (h2 : n ≤ 256) :
    Calls Tryz.prog 78 #[.int .i64 n] w fun e w' => e = .returned (.tuple #[.pointer (some ⟨w.heap.size + 1, 0, none⟩), .int .i64 0]) ∧
      w' = (w.alloc (.cells (madeCells #[.int .i64 0] (n * 64)) 3)).alloc (.cells #[.slice (some ⟨w.heap.size, 0, none⟩) (n * 64) (n * 64)] 155) := by
  have hmk : ∀ w, (Instr.makeSlice 25 (.int .i64 ((n : Int) * 64)) (.int .i64 ((n : Int) * 64))).run Tryz.prog w = .ok (.slice (some ⟨w.heap.size, 0, none⟩) (n * 64) (n * 64)) (w.alloc (.cells (madeCells #[.int .i64 0] (n * 64)) 3)) := by
    intro w
    have := run_make_row' (P := Tryz.prog) 25 3 (.int .i64 0) 8 Tryz.underlying25 Tryz.infoInt rfl .i64 .i64 (n * 64) (by omega) (by omega) w
    rw [show ((n * 64 : Nat) : Int) = (n : Int) * 64 from by omega] at this
    exact this
  go_enter Tryz.func78, Tryz.ntmps78
  go_wp2
  go_ret2
  exact ⟨rfl, rfl⟩

theorem new_yes (n : Nat) (w : World) (h1 : 1 ≤ n) (h2 : n ≤ 256) :
    Calls Tryz.prog 78 #[.int .i64 n] w fun e w' => e = .returned (.tuple #[.pointer (some ⟨w.heap.size + 1, 0, none⟩), .int .i64 0]) ∧
      IsArena w' (w.heap.size + 1) w.heap.size (zeros (n * 64)) ∧ Keep [] w w' ∧ w'.heap.size = w.heap.size + 2 := by
  refine (new_core n w h1 h2).mono ?_
  rintro e w' ⟨rfl, rfl⟩
  refine ⟨rfl, ⟨by omega, ?_, ?_⟩, (Keep.alloc _ _ _).trans (Keep.alloc _ _ _), by simp⟩
  · have := heap_alloc_new (w.alloc (.cells (madeCells #[.int .i64 0] (n * 64)) 3)) (.cells #[.slice (some ⟨w.heap.size, 0, none⟩) (n * 64) (n * 64)] 155)
    simpa [zeros_length] using this
  · exact (Row.made w 3 (n * 64)).keep (Keep.alloc [] _ _) (by simp)

theorem IsArena.lt {w : World} {b g : Nat} {xs : List Int} (h : IsArena w b g xs) : b < w.heap.size ∧ g < w.heap.size := ⟨lt_of_block h.head, h.row.lt⟩

/-- The blocks are new ones; which, nobody need know. -/
theorem new_ok (n : Nat) (w : World) (h1 : 1 ≤ n) (h2 : n ≤ 256) :
    Calls Tryz.prog 78 #[.int .i64 n] w fun e w' => ∃ b g, e = .returned (.tuple #[.pointer (some ⟨b, 0, none⟩), .int .i64 0]) ∧
      IsArena w' b g (zeros (n * 64)) ∧ Keep [] w w' ∧ w.heap.size ≤ b ∧ w.heap.size ≤ g := by
  refine (new_yes n w h1 h2).mono ?_
  rintro e w' ⟨rfl, hA, hK, _⟩
  exact ⟨_, _, rfl, hA, hK, by omega, by omega⟩

set_option maxHeartbeats 400000 in
theorem from_in (b i g n : Nat) (w : World) (hb : w.cell? ⟨b, 0, none⟩ = some (.slice (some ⟨g, 0, none⟩) n n)) (h : i < n) :
    Calls Tryz.prog 108 #[.pointer (some ⟨b, 0, none⟩), .int .i64 i] w fun e w' => e = .returned (.slice (some ⟨g, i, none⟩) (n - i) (n - i)) ∧ ∃ k, w.drewN k = w' := by
  go_enter Tryz.func108, Tryz.ntmps108
  go_wp2
  go_quiet (fail)
  go_wp2
  go_ret
  exact ⟨rfl, _, rfl⟩

set_option maxHeartbeats 400000 in
theorem from_out (b i g n : Nat) (w : World) (hb : w.cell? ⟨b, 0, none⟩ = some (.slice (some ⟨g, 0, none⟩) n n)) (h : n ≤ i) :
    Calls Tryz.prog 108 #[.pointer (some ⟨b, 0, none⟩), .int .i64 i] w fun e w' => e = .returned (.slice (some ⟨g, 0, none⟩) 0 0) ∧ ∃ k, w.drewN k = w' := by
  go_enter Tryz.func108, Tryz.ntmps108
  go_wp2
  go_quiet (fail)
  go_wp2
  all_goals (go_ret; exact ⟨rfl, _, rfl⟩)

set_option maxHeartbeats 400000 in
theorem fill_neg (b : Nat) (i n : Int) (w : World) (h : n < 0) :
    Calls Tryz.prog 86 #[.pointer (some ⟨b, 0, none⟩), .int .i64 i, .int .i64 n] w fun e w' => e = .returned (.int .i64 1) ∧ w = w' := by
  go_enter Tryz.func86, Tryz.ntmps86
  go_wp2
  go_ret
  exact ⟨rfl, rfl⟩

set_option maxHeartbeats 400000 in
theorem fill_at (b : Nat) (i n : Int) (w : World) (h : 0 ≤ n) (hi : i < 0) :
    Calls Tryz.prog 86 #[.pointer (some ⟨b, 0, none⟩), .int .i64 i, .int .i64 n] w fun e w' => e = .returned (.int .i64 2) ∧ w = w' := by
  go_enter Tryz.func86, Tryz.ntmps86
  go_wp2
  go_ret
  exact ⟨rfl, rfl⟩

set_option maxHeartbeats 400000 in
theorem fill_big (b g i n : Nat) (xs : List Int) (w : World) (ha : IsArena w b g xs) (h : 0 < n) (hn : xs.length < i + n) :
    Calls Tryz.prog 86 #[.pointer (some ⟨b, 0, none⟩), .int .i64 i, .int .i64 n] w fun e w' => e = .returned (.int .i64 2) ∧ ∃ k, w.drewN k = w' := by
  have hb := ha.cell
  generalize xs.length = m at *
  by_cases him : i < m
  · go_enter Tryz.func86, Tryz.ntmps86
    go_wp2_with (go_at_call 108; refine (from_in _ _ _ _ _ hb him).mono ?_; rintro e w' ⟨rfl, nq, rfl⟩)
    go_ret
    exact ⟨rfl, _, rfl⟩
  · go_enter Tryz.func86, Tryz.ntmps86
    go_wp2_with (go_at_call 108; refine (from_out _ _ _ _ _ hb (by omega)).mono ?_; rintro e w' ⟨rfl, nq, rfl⟩)
    go_ret
    exact ⟨rfl, _, rfl⟩

set_option maxHeartbeats 400000 in
theorem fill_core (b g i n m : Nat) (w : World) (cs : Array Value) (hb : w.cell? ⟨b, 0, none⟩ = some (.slice (some ⟨g, 0, none⟩) m m)) (him : i < m) (hn : n ≤ m - i)
    (hcl : ∀ k c, (Builtin.clear_ #[25] 0 #[.slice (some ⟨g, i, none⟩) n c]).run Tryz.prog (w.drewN k) = .ok (.tuple #[]) ((w.drewN k).setRow g cs)) :
    Calls Tryz.prog 86 #[.pointer (some ⟨b, 0, none⟩), .int .i64 i, .int .i64 n] w fun e w' => e = .returned (.int .i64 0) ∧ ∃ k, w' = (w.drewN k).setRow g cs := by
  go_enter Tryz.func86, Tryz.ntmps86
  go_wp2_with (go_at_call 108; refine (from_in _ _ _ _ _ hb him).mono ?_; rintro e w' ⟨rfl, nq, rfl⟩)
  go_ret
  exact ⟨rfl, _, rfl⟩

/-- Words that lie there wholly are 0 behind a fill, the others as they were. -/
theorem fill_yes (b g i n : Nat) (xs : List Int) (w : World) (ha : IsArena w b g xs) (him : i < xs.length) (hn : n ≤ xs.length - i) :
    Calls Tryz.prog 86 #[.pointer (some ⟨b, 0, none⟩), .int .i64 i, .int .i64 n] w fun e w' => e = .returned (.int .i64 0) ∧ IsArena w' b g (fill0 xs i n) ∧ Keep [g] w w' := by
  have hr : ∀ k, Row (w.drewN k) 3 g xs := fun k => ha.row
  refine (fill_core b g i n xs.length w (ints (fill0 xs i n)).toArray ha.cell him hn (fun k c => ((hr k).cleared 25 0 3 3 Tryz.underlying25 Tryz.infoInt (by omega)).1)).mono ?_
  rintro e w' ⟨rfl, k, rfl⟩
  have hk : Keep [g] w ((w.drewN k).setRow g (ints (fill0 xs i n)).toArray) := (Keep.drewN [g] w k).trans (Keep.setRow _ _ (by simp))
  refine ⟨rfl, ha.other hk (fill0_length xs i n (by omega)) ?_, hk⟩
  exact ((hr k).cleared (P := Tryz.prog) (c := 0) 25 0 3 3 Tryz.underlying25 Tryz.infoInt (by omega)).2

set_option maxHeartbeats 400000 in
theorem fill_none (b g i : Nat) (xs : List Int) (w : World) (ha : IsArena w b g xs) (him : xs.length ≤ i) :
    Calls Tryz.prog 86 #[.pointer (some ⟨b, 0, none⟩), .int .i64 i, .int .i64 0] w fun e w' => e = .returned (.int .i64 0) ∧ ∃ k, w.drewN k = w' := by
  have hcl : ∀ (w' : World) c, (Builtin.clear_ #[25] 0 #[.slice (some ⟨g, 0, none⟩) 0 c]).run Tryz.prog w' = .ok (.tuple #[]) w' := by
    intro w' c; simp [Builtin.clear_, run_underlying Tryz.underlying25]
  have hb := ha.cell
  generalize xs.length = m at *
  go_enter Tryz.func86, Tryz.ntmps86
  go_wp2_with (go_at_call 108; refine (from_out _ _ _ _ _ hb him).mono ?_; rintro e w' ⟨rfl, nq, rfl⟩)
  go_ret
  exact ⟨rfl, _, rfl⟩

/-- The same at any integer that is a place. -/
theorem load_in (b g : Nat) (i : Int) (xs : List Int) (w : World) (ha : IsArena w b g xs) (h0 : 0 ≤ i) (h : i < xs.length) :
    Calls Tryz.prog 75 #[.pointer (some ⟨b, 0, none⟩), .int .i64 i] w fun e w' => e = .returned (.tuple #[.int .i64 (xs[i.toNat]?.getD 0), .int .i64 0]) ∧ w = w' := by
  obtain ⟨k, rfl⟩ := Int.eq_ofNat_of_zero_le h0
  exact load_yes b g k xs w ha (by omega)
theorem store_in (b g : Nat) (i x : Int) (xs : List Int) (w : World) (ha : IsArena w b g xs) (h0 : 0 ≤ i) (h : i < xs.length) :
    Calls Tryz.prog 58 #[.pointer (some ⟨b, 0, none⟩), .int .i64 i, .int .i64 x] w fun e w' => e = .returned (.int .i64 0) ∧ IsArena w' b g (xs.set i.toNat x) ∧ Keep [g] w w' := by
  obtain ⟨k, rfl⟩ := Int.eq_ofNat_of_zero_le h0
  exact store_yes b g k x xs w ha (by omega)

/-- All of fill, at places and numbers from 0 on. -/
theorem fill_tot (b g i n : Nat) (xs : List Int) (w : World) (ha : IsArena w b g xs) :
    Calls Tryz.prog 86 #[.pointer (some ⟨b, 0, none⟩), .int .i64 i, .int .i64 n] w fun e w' => ∃ (c : Int) (ys : List Int), e = .returned (.int .i64 c) ∧ IsArena w' b g ys ∧ Keep [g] w w' ∧ ys.length = xs.length ∧
      (((n = 0 ∨ i + n ≤ xs.length) ∧ c = 0 ∧ ∀ t, ys[t]?.getD 0 = if i ≤ t ∧ t < i + n then 0 else xs[t]?.getD 0) ∨ (0 < n ∧ xs.length < i + n) ∧ c = 2 ∧ ys = xs) := by
  by_cases h : 0 < n ∧ xs.length < i + n
  · refine (fill_big b g i n xs w ha h.1 h.2).mono ?_
    rintro e w' ⟨rfl, k, rfl⟩
    exact ⟨2, xs, rfl, ha.keep (Keep.drewN [] w k) (by simp) (by simp), Keep.drewN _ w k, rfl, .inr ⟨h, rfl, rfl⟩⟩
  · by_cases hi : i < xs.length
    · refine (fill_yes b g i n xs w ha hi (by omega)).mono ?_
      rintro e w' ⟨rfl, hA, hK⟩
      exact ⟨0, _, rfl, hA, hK, fill0_length _ _ _ (by omega), .inl ⟨by omega, rfl, fun t => fill0_get xs i n t (by omega)⟩⟩
    · obtain rfl : n = 0 := by omega
      refine (fill_none b g i xs w ha (by omega)).mono ?_
      rintro e w' ⟨rfl, k, rfl⟩
      refine ⟨0, xs, rfl, ha.keep (Keep.drewN [] w k) (by simp) (by simp), Keep.drewN _ w k, rfl, .inl ⟨.inl rfl, rfl, fun t => ?_⟩⟩
      rw [if_neg (by omega)]

end Go.Proofs.YtgpidokklhjfdaaGreat

/-
  Take, Give and Left of package pages, whatever they are given.
-/
namespace Go.Proofs.YtgpidokklhjfdaaGreat
open Go.RowKit

set_option maxHeartbeats 400000 in
theorem ptake_nil (k : Int) (w : World) :
    Calls Tryz.prog 114 #[.pointer none, .int .i64 k] w fun e w' => e = .returned (.tuple #[.int .i64 0, .int .i64 2]) ∧ w = w' := by
  go_enter Tryz.func114, Tryz.ntmps114
  go_wp2
  go_ret2
  exact ⟨rfl, rfl⟩
set_option maxHeartbeats 400000 in
theorem ptake_low (pb : Nat) (k : Int) (w : World) (hk : k < 1) :
    Calls Tryz.prog 114 #[.pointer (some ⟨pb, 0, none⟩), .int .i64 k] w fun e w' => e = .returned (.tuple #[.int .i64 0, .int .i64 1]) ∧ w = w' := by
  go_enter Tryz.func114, Tryz.ntmps114
  go_wp2
  go_ret2
  exact ⟨rfl, rfl⟩
set_option maxHeartbeats 400000 in
theorem ptake_no (pb b g k : Nat) (xs : List Bool) (w : World) (hp : IsPages w pb b g xs) (hk1 : 1 ≤ k) (hk2 : (k : Int) ≤ 9223372036854775807) (h : runR xs 0 k = -1) :
    Calls Tryz.prog 114 #[.pointer (some ⟨pb, 0, none⟩), .int .i64 k] w fun e w' => e = .returned (.tuple #[.int .i64 0, .int .i64 3]) ∧ w = w' := by
  have hc := hp.cell
  have hA := hp.bits
  have HR := (show Hid (runR xs (0 : Int).toNat k = -1) from h)
  have hkd : decide ((k : Int) < 1) = false := by rw [decide_eq_false_iff_not]; omega
  clear hp h
  go_enter Tryz.func114, Tryz.ntmps114
  go_wp2_with (go_at_call 117; refine (brun_core _ _ k 0 _ _ hA (by omega) hk1 hk2).mono ?_; rw [HR.out]; rintro e w' ⟨rfl, rfl⟩)
  go_ret2
  exact ⟨rfl, rfl⟩
set_option maxHeartbeats 800000 in
theorem ptake_yes (pb b g k p : Nat) (xs : List Bool) (w : World) (hp : IsPages w pb b g xs) (hk1 : 1 ≤ k) (h : runR xs 0 k = p) (hl : p + k ≤ xs.length) :
    Calls Tryz.prog 114 #[.pointer (some ⟨pb, 0, none⟩), .int .i64 k] w fun e w' => e = .returned (.tuple #[.int .i64 p, .int .i64 0]) ∧ IsPages w' pb b g (putR xs p k true) ∧ Keep [g] w w' := by
  have hn := hp.bits.len
  have hc := hp.cell
  have hA := hp.bits
  have HR := (show Hid (runR xs (0 : Int).toNat k = p) from h)
  have hkd : decide ((k : Int) < 1) = false := by rw [decide_eq_false_iff_not]; omega
  have hpd : decide ((p : Int) < 0) = false := by rw [decide_eq_false_iff_not]; omega
  clear h
  go_enter Tryz.func114, Tryz.ntmps114
  go_wp2_with (go_at_call 117; refine (brun_core _ _ k 0 _ _ hA (by omega) hk1 (by omega)).mono ?_; rw [HR.out]; rintro e w' ⟨rfl, rfl⟩)
  have hp1 := hp.drew
  have hc1 := hp1.cell
  have hlt := hp1.lt
  have hK0 := Keep.drew [g] w
  clear hp hA
  go_region_held3 (fun wz => wz.cell? ⟨pb, 0, none⟩ = some (.pointer (some ⟨b, 0, none⟩))) (go_keep) (first | (go_at_call 118; refine (prow_any p k _ (by omega) (by omega)).mono ?_; rintro e w2 ⟨z, rfl, hI2, hK2, hz⟩; have hp2 := hp1.keep hK2 (by simp) (by simp) (by simp); have hc2 := hp2.cell) | (go_at_call 36; refine (bset_yes' b g k k true xs _ (rowL p k) _ (rowL_length p k) hp2.bits hI2 (fun _ a e => by cases e; simp; omega) (by omega) (rowL_fitsB p k _ hl)).mono ?_; rintro e w3 ⟨rfl, hA3, hK3⟩; have hp3 := hp2.other hK3 hA3; have hc3 := hp3.cell))
  have HP := (show Hid (IsPages w3 pb b g (putR xs p k true)) from hp3)
  have hK4 := (hK0.trans (hK2.mono (T := [g]) (by simp))).trans hK3
  clear hp3 hp2 hp1 hA3
  go_wp2
  go_ret2
  exact ⟨rfl, HP.out, hK4⟩
theorem ptake_any (pb b g : Nat) (k : Int) (xs : List Bool) (w : World) (hp : IsPages w pb b g xs) (hk2 : k ≤ 9223372036854775807) :
    Calls Tryz.prog 114 #[.pointer (some ⟨pb, 0, none⟩), .int .i64 k] w fun e w' => e = .returned (.tuple #[.int .i64 (takeN xs k), .int .i64 (takeE xs k)]) ∧ IsPages w' pb b g (takeR xs k) ∧ Keep [g] w w' := by
  by_cases h : k < 1
  · obtain ⟨e1, e2, e3⟩ := take_low xs k h
    rw [e1, e2, e3]
    refine (ptake_low pb k w h).mono ?_
    rintro e w' ⟨rfl, rfl⟩
    exact ⟨rfl, hp, Keep.refl _ _⟩
  · obtain ⟨m, rfl⟩ := Int.eq_ofNat_of_zero_le (show 0 ≤ k by omega)
    rcases runR_spec xs m (by omega) _ 0 rfl with ⟨hr, _⟩ | ⟨j, hr, _, hcl, _⟩
    · obtain ⟨e1, e2, e3⟩ := take_no xs m (by omega) hr
      rw [e1, e2, e3]
      refine (ptake_no pb b g m xs w hp (by omega) hk2 hr).mono ?_
      rintro e w' ⟨rfl, rfl⟩
      exact ⟨rfl, hp, Keep.refl _ _⟩
    · obtain ⟨e1, e2, e3⟩ := take_yes xs m j (by omega) hr
      rw [e1, e2, e3]
      exact ptake_yes pb b g m j xs w hp (by omega) hr hcl.1

end Go.Proofs.YtgpidokklhjfdaaGreat

/-
  A space in memory: its block, its arena, its pages, the rows of its pages of a class and of its larger blocks; and what one write leaves of it.
-/
namespace Go.Proofs.YtgpidokklhjfdaaGreat
open Go.RowKit

/-- Where its blocks lie; r tells the blocks apart. -/
structure Lay where
  ab : Nat
  ag : Nat
  pb : Nat
  b : Nat
  g : Nat
  gs : Nat
  gl : Nat
  P : Nat → Nat × Nat × Nat
  r : Nat → Nat

def PK.ptr (q : Nat) : PK → Value
  | .small _ _ => .pointer (some ⟨q, 0, none⟩)
  | _ => .pointer none
def ptrs (L : Lay) (kd : List PK) : List Value := kd.mapIdx (fun p x => x.ptr (L.P p).1)
theorem ptrs_length (L : Lay) (kd : List PK) : (ptrs L kd).length = kd.length := by simp [ptrs]
theorem ptrs_get (L : Lay) (kd : List PK) (p : Nat) (h : p < kd.length) : (ptrs L kd)[p]? = some ((kat kd p).ptr (L.P p).1) := by
  unfold ptrs; rw [List.getElem?_mapIdx, kat_get kd p h]; rfl
theorem ne_of_role {r : Nat → Nat} {a b m n : Nat} (h1 : r a = m) (h2 : r b = n) (h : m ≠ n) : a ≠ b := fun e => h (by rw [← h1, ← h2, e])

/-- Block sb is a space laid out as L, all of whose blocks are of F: its words, its taken pages, what its pages are. -/
structure SpAt (w : World) (sb : Nat) (L : Lay) (F : List Nat) (ws : List Int) (ts : List Bool) (kd : List PK) : Prop where
  head : w.heap[sb]? = some (.cells #[.pointer (some ⟨L.ab, 0, none⟩), .pointer (some ⟨L.pb, 0, none⟩), .slice (some ⟨L.gs, 0, none⟩) kd.length kd.length, .slice (some ⟨L.gl, 0, none⟩) kd.length kd.length] 112 (0, 0))
  arena : IsArena w L.ab L.ag ws
  pages : IsPages w L.pb L.b L.g ts
  rowS : w.heap[L.gs]? = some (.cells (ptrs L kd).toArray 160 (0, 0))
  rowL : Row w 3 L.gl (bigL kd)
  page : ∀ p c xs, kat kd p = .small c xs → IsPage w (L.P p).1 (L.P p).2.1 (L.P p).2.2 (wordsOf c) xs
  len : ws.length = 64 * kd.length
  r0 : L.r sb = 0
  r1 : L.r L.ab = 1
  r2 : L.r L.ag = 2
  r3 : L.r L.pb = 3
  r4 : L.r L.b = 4
  r5 : L.r L.g = 5
  r6 : L.r L.gs = 6
  r7 : L.r L.gl = 7
  rp : ∀ p c xs, kat kd p = .small c xs → L.r (L.P p).1 = 8 + 3 * p ∧ L.r (L.P p).2.1 = 9 + 3 * p ∧ L.r (L.P p).2.2 = 10 + 3 * p
  f : sb ∈ F ∧ L.ab ∈ F ∧ L.ag ∈ F ∧ L.pb ∈ F ∧ L.b ∈ F ∧ L.g ∈ F ∧ L.gs ∈ F ∧ L.gl ∈ F
  fp : ∀ p c xs, kat kd p = .small c xs → (L.P p).1 ∈ F ∧ (L.P p).2.1 ∈ F ∧ (L.P p).2.2 ∈ F
  lt : ∀ k, k ∈ F → k < w.heap.size

theorem lt_keep {S F : List Nat} {w w' : World} (h : ∀ k, k ∈ F → k < w.heap.size) (K : Keep S w w') : ∀ k, k ∈ F → k < w'.heap.size := fun k hk => Nat.lt_of_lt_of_le (h k hk) K.size

theorem SpAt.keep {S F : List Nat} {w w' : World} {sb : Nat} {L : Lay} {ws : List Int} {ts : List Bool} {kd : List PK} (h : SpAt w sb L F ws ts kd) (K : Keep S w w') (hS : ∀ k, k ∈ F → k ∉ S) : SpAt w' sb L F ws ts kd := by
  obtain ⟨f0, f1, f2, f3, f4, f5, f6, f7⟩ := h.f
  exact { h with
    head := K.blk h.head (hS _ f0), arena := h.arena.keep K (hS _ f1) (hS _ f2), pages := h.pages.keep K (hS _ f3) (hS _ f4) (hS _ f5),
    rowS := K.blk h.rowS (hS _ f6), rowL := h.rowL.keep K (hS _ f7),
    page := fun p c xs e => (h.page p c xs e).keep K (hS _ (h.fp p c xs e).1) (hS _ (h.fp p c xs e).2.1) (hS _ (h.fp p c xs e).2.2)
    lt := lt_keep h.lt K }
theorem SpAt.keep0 {F : List Nat} {w w' : World} {sb : Nat} {L : Lay} {ws : List Int} {ts : List Bool} {kd : List PK} (h : SpAt w sb L F ws ts kd) (K : Keep [] w w') : SpAt w' sb L F ws ts kd := h.keep K (by simp)

/-- The cells that are read. -/
theorem SpAt.c0 {F : List Nat} {w : World} {sb : Nat} {L : Lay} {ws : List Int} {ts : List Bool} {kd : List PK} (h : SpAt w sb L F ws ts kd) : w.cell? ⟨sb, 0, none⟩ = some (.pointer (some ⟨L.ab, 0, none⟩)) := by simp [World.cell?, h.head]
theorem SpAt.c1 {F : List Nat} {w : World} {sb : Nat} {L : Lay} {ws : List Int} {ts : List Bool} {kd : List PK} (h : SpAt w sb L F ws ts kd) : w.cell? ⟨sb, 1, none⟩ = some (.pointer (some ⟨L.pb, 0, none⟩)) := by simp [World.cell?, h.head]
theorem SpAt.c2 {F : List Nat} {w : World} {sb : Nat} {L : Lay} {ws : List Int} {ts : List Bool} {kd : List PK} (h : SpAt w sb L F ws ts kd) : w.cell? ⟨sb, 2, none⟩ = some (.slice (some ⟨L.gs, 0, none⟩) kd.length kd.length) := by simp [World.cell?, h.head]
theorem SpAt.c3 {F : List Nat} {w : World} {sb : Nat} {L : Lay} {ws : List Int} {ts : List Bool} {kd : List PK} (h : SpAt w sb L F ws ts kd) : w.cell? ⟨sb, 3, none⟩ = some (.slice (some ⟨L.gl, 0, none⟩) kd.length kd.length) := by simp [World.cell?, h.head]
theorem SpAt.cs {F : List Nat} {w : World} {sb : Nat} {L : Lay} {ws : List Int} {ts : List Bool} {kd : List PK} (h : SpAt w sb L F ws ts kd) {p : Nat} (hp : p < kd.length) : w.cell? ⟨L.gs, p, none⟩ = some ((kat kd p).ptr (L.P p).1) := by
  have := ptrs_get L kd p hp
  simp [World.cell?, h.rowS, this]
theorem SpAt.fs {F : List Nat} {w : World} {sb : Nat} {L : Lay} {ws : List Int} {ts : List Bool} {kd : List PK} (h : SpAt w sb L F ws ts kd) (p : Nat) : w.frozen? ⟨L.gs, p, none⟩ = false := by simp [World.frozen?, h.rowS]
theorem SpAt.cl {F : List Nat} {w : World} {sb : Nat} {L : Lay} {ws : List Int} {ts : List Bool} {kd : List PK} (h : SpAt w sb L F ws ts kd) {p : Nat} (hp : p < kd.length) : w.cell? ⟨L.gl, p, none⟩ = some (.int .i64 (kat kd p).big) := by
  have := h.rowL.cell (i := p) (by rw [bigL_length]; exact hp)
  rw [bigL_get] at this; exact this
theorem SpAt.fl {F : List Nat} {w : World} {sb : Nat} {L : Lay} {ws : List Int} {ts : List Bool} {kd : List PK} (h : SpAt w sb L F ws ts kd) (p : Nat) : w.frozen? ⟨L.gl, p, none⟩ = false := h.rowL.free p

/-- The arena is written. -/
theorem SpAt.words {F : List Nat} {w w' : World} {sb : Nat} {L : Lay} {ws ws' : List Int} {ts : List Bool} {kd : List PK} (h : SpAt w sb L F ws ts kd) (K : Keep [L.ag] w w') (hA : IsArena w' L.ab L.ag ws') (hl : ws'.length = ws.length) : SpAt w' sb L F ws' ts kd := by
  have n : ∀ {x m : Nat}, L.r x = m → m ≠ 2 → x ∉ [L.ag] := fun h1 h2 => by simpa using ne_of_role h1 h.r2 h2
  exact { h with
    head := K.blk h.head (n h.r0 (by omega)), arena := hA, pages := h.pages.keep K (n h.r3 (by omega)) (n h.r4 (by omega)) (n h.r5 (by omega)),
    rowS := K.blk h.rowS (n h.r6 (by omega)), rowL := h.rowL.keep K (n h.r7 (by omega)),
    page := fun p c xs e => (h.page p c xs e).keep K (n (h.rp p c xs e).1 (by omega)) (n (h.rp p c xs e).2.1 (by omega)) (n (h.rp p c xs e).2.2 (by omega))
    len := by rw [hl]; exact h.len
    lt := lt_keep h.lt K }
/-- The pages are. -/
theorem SpAt.turn {F : List Nat} {w w' : World} {sb : Nat} {L : Lay} {ws : List Int} {ts ts' : List Bool} {kd : List PK} (h : SpAt w sb L F ws ts kd) (K : Keep [L.g] w w') (hA : IsPages w' L.pb L.b L.g ts') : SpAt w' sb L F ws ts' kd := by
  have n : ∀ {x m : Nat}, L.r x = m → m ≠ 5 → x ∉ [L.g] := fun h1 h2 => by simpa using ne_of_role h1 h.r5 h2
  exact { h with
    head := K.blk h.head (n h.r0 (by omega)), arena := h.arena.keep K (n h.r1 (by omega)) (n h.r2 (by omega)), pages := hA,
    rowS := K.blk h.rowS (n h.r6 (by omega)), rowL := h.rowL.keep K (n h.r7 (by omega)),
    page := fun p c xs e => (h.page p c xs e).keep K (n (h.rp p c xs e).1 (by omega)) (n (h.rp p c xs e).2.1 (by omega)) (n (h.rp p c xs e).2.2 (by omega))
    lt := lt_keep h.lt K }
theorem ptrs_same (L : Lay) (kd kd' : List PK) (hl : kd'.length = kd.length) (h : ∀ p, p < kd.length → (kat kd' p).ptr (L.P p).1 = (kat kd p).ptr (L.P p).1) : ptrs L kd' = ptrs L kd := by
  apply List.ext_getElem?
  intro p
  rcases Nat.lt_or_ge p kd.length with hp | hp
  · rw [ptrs_get L kd p hp, ptrs_get L kd' p (by omega), h p hp]
  · rw [List.getElem?_eq_none (by rw [ptrs_length]; omega), List.getElem?_eq_none (by rw [ptrs_length]; omega)]
/-- The blocks of a page of a class are. -/
theorem SpAt.inner {F : List Nat} {w w' : World} {sb : Nat} {L : Lay} {ws : List Int} {ts : List Bool} {kd : List PK} {p c : Nat} {xs ys : List Bool} (h : SpAt w sb L F ws ts kd) (hk : kat kd p = .small c xs) (K : Keep [(L.P p).2.2] w w')
    (hA : IsPage w' (L.P p).1 (L.P p).2.1 (L.P p).2.2 (wordsOf c) ys) : SpAt w' sb L F ws ts (kd.set p (.small c ys)) := by
  have hp := kat_lt kd p (by rw [hk]; simp)
  have rp := (h.rp p c xs hk).2.2
  have n : ∀ {x m : Nat}, L.r x = m → m ≠ 10 + 3 * p → x ∉ [(L.P p).2.2] := fun h1 h2 => by simpa using ne_of_role h1 rp h2
  have back : ∀ q d zs, kat (kd.set p (.small c ys)) q = .small d zs → q = p ∧ d = c ∧ zs = ys ∨ q ≠ p ∧ kat kd q = .small d zs := by
    intro q d zs e
    rw [kat_set _ _ _ _ hp] at e
    split at e
    · cases e; exact .inl ⟨by assumption, rfl, rfl⟩
    · exact .inr ⟨by assumption, e⟩
  exact { h with
    head := by rw [List.length_set]; exact K.blk h.head (n h.r0 (by omega))
    arena := h.arena.keep K (n h.r1 (by omega)) (n h.r2 (by omega))
    pages := h.pages.keep K (n h.r3 (by omega)) (n h.r4 (by omega)) (n h.r5 (by omega))
    rowS := by
      rw [ptrs_same L kd (kd.set p (.small c ys)) (by simp) (fun q hq => by
        rw [kat_set _ _ _ _ hp]
        split
        · rename_i e; subst e; rw [hk]; rfl
        · rfl)]
      exact K.blk h.rowS (n h.r6 (by omega))
    rowL := by
      have e : bigL (kd.set p (.small c ys)) = bigL kd := by
        refine eq_of_getD (by simp [bigL]) (fun t => ?_)
        rw [bigL_get, bigL_get, kat_set _ _ _ _ hp]
        split
        · rename_i e; subst e; rw [hk]; rfl
        · rfl
      rw [e]
      exact h.rowL.keep K (n h.r7 (by omega))
    page := fun q d zs e => by
      rcases back q d zs e with ⟨rfl, rfl, rfl⟩ | ⟨hne, e'⟩
      · exact hA
      · have := h.rp q d zs e'
        exact (h.page q d zs e').keep K (n this.1 (by omega)) (n this.2.1 (by omega)) (n this.2.2 (by omega))
    len := by rw [List.length_set]; exact h.len
    rp := fun q d zs e => by
      rcases back q d zs e with ⟨rfl, rfl, rfl⟩ | ⟨_, e'⟩
      · exact h.rp q d xs hk
      · exact h.rp q d zs e'
    fp := fun q d zs e => by
      rcases back q d zs e with ⟨rfl, rfl, rfl⟩ | ⟨_, e'⟩
      · exact h.fp q d xs hk
      · exact h.fp q d zs e'
    lt := lt_keep h.lt K }
/-- A page is of no class any more. -/
theorem SpAt.drop {F : List Nat} {w : World} {sb : Nat} {L : Lay} {ws : List Int} {ts : List Bool} {kd : List PK} {p c : Nat} {xs : List Bool} (h : SpAt w sb L F ws ts kd) (hk : kat kd p = .small c xs) :
    SpAt (w.setCell ⟨L.gs, p, none⟩ (.pointer none)) sb L F ws ts (kd.set p .free) := by
  have hp := kat_lt kd p (by rw [hk]; simp)
  have K : Keep [L.gs] w (w.setCell ⟨L.gs, p, none⟩ (.pointer none)) := Keep.setCell w _ (by simp)
  have n : ∀ {x m : Nat}, L.r x = m → m ≠ 6 → x ∉ [L.gs] := fun h1 h2 => by simpa using ne_of_role h1 h.r6 h2
  have back : ∀ q d zs, kat (kd.set p .free) q = .small d zs → kat kd q = .small d zs := by
    intro q d zs e
    rw [kat_set _ _ _ _ hp] at e
    split at e
    · cases e
    · exact e
  exact { h with
    head := by rw [List.length_set]; exact K.blk h.head (n h.r0 (by omega))
    arena := h.arena.keep K (n h.r1 (by omega)) (n h.r2 (by omega))
    pages := h.pages.keep K (n h.r3 (by omega)) (n h.r4 (by omega)) (n h.r5 (by omega))
    rowS := by
      have := heap_setCell_same w L.gs p (ptrs L kd).toArray 160 (.pointer none) h.rowS
      have e : (ptrs L kd).set p (.pointer none) = ptrs L (kd.set p .free) := by
        apply List.ext_getElem?
        intro q
        rcases Nat.lt_or_ge q kd.length with hq | hq
        · rw [ptrs_get L (kd.set p .free) q (by simpa using hq), kat_set _ _ _ _ hp]
          by_cases e : q = p
          · subst e; simp [ptrs_length, hq, PK.ptr]
          · rw [if_neg e, List.getElem?_set_ne (fun e' => e e'.symm), ptrs_get L kd q hq]
        · rw [List.getElem?_eq_none (by simpa [ptrs_length] using hq), List.getElem?_eq_none (by simpa [ptrs_length] using hq)]
      rw [← e]
      simpa using this
    rowL := by
      have e : bigL (kd.set p .free) = bigL kd := by
        refine eq_of_getD (by simp [bigL]) (fun t => ?_)
        rw [bigL_get, bigL_get, kat_set _ _ _ _ hp]
        split
        · rename_i e; subst e; rw [hk]; rfl
        · rfl
      rw [e]
      exact h.rowL.keep K (n h.r7 (by omega))
    page := fun q d zs e => by
      have e' := back q d zs e
      have := h.rp q d zs e'
      exact (h.page q d zs e').keep K (n this.1 (by omega)) (n this.2.1 (by omega)) (n this.2.2 (by omega))
    len := by rw [List.length_set]; exact h.len
    rp := fun q d zs e => h.rp q d zs (back q d zs e)
    fp := fun q d zs e => h.fp q d zs (back q d zs e)
    lt := lt_keep h.lt K }
/-- The row of larger blocks is written; what the pages of a class are stays. -/
theorem SpAt.larger {F : List Nat} {w : World} {sb : Nat} {L : Lay} {ws : List Int} {ts : List Bool} {kd kd' : List PK} {p : Nat} {x : Int} (h : SpAt w sb L F ws ts kd) (hl : kd'.length = kd.length) (hb : bigL kd' = (bigL kd).set p x)
    (hs : ∀ q, kat kd' q = kat kd q ∨ (∀ c xs, kat kd' q ≠ .small c xs) ∧ (∀ c xs, kat kd q ≠ .small c xs)) : SpAt (w.setCell ⟨L.gl, p, none⟩ (.int .i64 x)) sb L F ws ts kd' := by
  have K : Keep [L.gl] w (w.setCell ⟨L.gl, p, none⟩ (.int .i64 x)) := Keep.setCell w _ (by simp)
  have n : ∀ {x m : Nat}, L.r x = m → m ≠ 7 → x ∉ [L.gl] := fun h1 h2 => by simpa using ne_of_role h1 h.r7 h2
  have back : ∀ q d zs, kat kd' q = .small d zs → kat kd q = .small d zs := by
    intro q d zs e
    rcases hs q with e' | ⟨e', _⟩
    · rw [← e']; exact e
    · exact absurd e (e' d zs)
  exact { h with
    head := by rw [hl]; exact K.blk h.head (n h.r0 (by omega))
    arena := h.arena.keep K (n h.r1 (by omega)) (n h.r2 (by omega))
    pages := h.pages.keep K (n h.r3 (by omega)) (n h.r4 (by omega)) (n h.r5 (by omega))
    rowS := by
      rw [ptrs_same L kd kd' hl (fun q _ => by
        rcases hs q with e | ⟨e1, e2⟩
        · rw [e]
        · have t : ∀ y : PK, (∀ c xs, y ≠ .small c xs) → y.ptr (L.P q).1 = .pointer none := by
            intro y hy
            cases y with
            | small c xs => exact absurd rfl (hy c xs)
            | _ => rfl
          rw [t _ e1, t _ e2])]
      exact K.blk h.rowS (n h.r6 (by omega))
    rowL := by rw [hb]; exact h.rowL.put p x
    page := fun q d zs e => by
      have e' := back q d zs e
      have := h.rp q d zs e'
      exact (h.page q d zs e').keep K (n this.1 (by omega)) (n this.2.1 (by omega)) (n this.2.2 (by omega))
    len := by rw [hl]; exact h.len
    rp := fun q d zs e => h.rp q d zs (back q d zs e)
    fp := fun q d zs e => h.fp q d zs (back q d zs e)
    lt := lt_keep h.lt K }
/-- A page is of a class from now on: three new blocks. -/
def Lay.more (L : Lay) (p q1 q2 q3 : Nat) : Lay :=
  { L with P := fun i => if i = p then (q1, q2, q3) else L.P i, r := fun k => if k = q1 then 8 + 3 * p else if k = q2 then 9 + 3 * p else if k = q3 then 10 + 3 * p else L.r k }
theorem SpAt.gain {F : List Nat} {w : World} {sb : Nat} {L : Lay} {ws : List Int} {ts : List Bool} {kd : List PK} {p c q1 q2 q3 : Nat} {xs : List Bool} (h : SpAt w sb L F ws ts kd) (hp : p < kd.length) (hk : kat kd p = .free)
    (hA : IsPage w q1 q2 q3 (wordsOf c) xs) (hn : q1 ∉ F ∧ q2 ∉ F ∧ q3 ∉ F) :
    SpAt (w.setCell ⟨L.gs, p, none⟩ (.pointer (some ⟨q1, 0, none⟩))) sb (L.more p q1 q2 q3) (q1 :: q2 :: q3 :: F) ws ts (kd.set p (.small c xs)) := by
  have K : Keep [L.gs] w (w.setCell ⟨L.gs, p, none⟩ (.pointer (some ⟨q1, 0, none⟩))) := Keep.setCell w _ (by simp)
  have n : ∀ {x m : Nat}, L.r x = m → m ≠ 6 → x ∉ [L.gs] := fun h1 h2 => by simpa using ne_of_role h1 h.r6 h2
  obtain ⟨f0, f1, f2, f3, f4, f5, f6, f7⟩ := h.f
  obtain ⟨n1, n2, n3⟩ := hn
  have nf : ∀ {x y : Nat}, x ∈ F → y ∉ F → x ≠ y := fun a b e => b (e ▸ a)
  have old : ∀ {x : Nat}, x ∈ F → (L.more p q1 q2 q3).r x = L.r x := by
    intro x hx
    show (if x = q1 then _ else if x = q2 then _ else if x = q3 then _ else L.r x) = _
    rw [if_neg (nf hx n1), if_neg (nf hx n2), if_neg (nf hx n3)]
  have m1 : (L.more p q1 q2 q3).r q1 = 8 + 3 * p := by show (if q1 = q1 then _ else _) = _; rw [if_pos rfl]
  have m2 : (L.more p q1 q2 q3).r q2 = 9 + 3 * p := by show (if q2 = q1 then _ else if q2 = q2 then _ else _) = _; rw [if_neg (fun e => hA.ne1 e.symm), if_pos rfl]
  have m3 : (L.more p q1 q2 q3).r q3 = 10 + 3 * p := by
    show (if q3 = q1 then _ else if q3 = q2 then _ else if q3 = q3 then _ else _) = _
    rw [if_neg (fun e => hA.ne2 e.symm), if_neg (fun e => hA.bits.ne e.symm), if_pos rfl]
  have Pp : (L.more p q1 q2 q3).P p = (q1, q2, q3) := if_pos rfl
  have Pq : ∀ q, q ≠ p → (L.more p q1 q2 q3).P q = L.P q := fun q e => if_neg e
  have back : ∀ q d zs, kat (kd.set p (.small c xs)) q = .small d zs → q = p ∧ d = c ∧ zs = xs ∨ q ≠ p ∧ kat kd q = .small d zs := by
    intro q d zs e
    rw [kat_set _ _ _ _ hp] at e
    split at e
    · cases e; exact .inl ⟨by assumption, rfl, rfl⟩
    · exact .inr ⟨by assumption, e⟩
  have up : ∀ {x : Nat}, x ∈ F → x ∈ q1 :: q2 :: q3 :: F := fun hx => List.mem_cons_of_mem _ (List.mem_cons_of_mem _ (List.mem_cons_of_mem _ hx))
  have hlt := hA.lt
  exact {
    head := by rw [List.length_set]; exact K.blk h.head (n h.r0 (by omega))
    arena := h.arena.keep K (n h.r1 (by omega)) (n h.r2 (by omega))
    pages := h.pages.keep K (n h.r3 (by omega)) (n h.r4 (by omega)) (n h.r5 (by omega))
    rowS := by
      have := heap_setCell_same w L.gs p (ptrs L kd).toArray 160 (.pointer (some ⟨q1, 0, none⟩)) h.rowS
      have e : (ptrs L kd).set p (.pointer (some ⟨q1, 0, none⟩)) = ptrs (L.more p q1 q2 q3) (kd.set p (.small c xs)) := by
        apply List.ext_getElem?
        intro q
        rcases Nat.lt_or_ge q kd.length with hq | hq
        · rw [ptrs_get _ (kd.set p (.small c xs)) q (by simpa using hq), kat_set _ _ _ _ hp]
          by_cases e : q = p
          · subst e; rw [if_pos rfl, Pp]; simp [ptrs_length, hq, PK.ptr]
          · rw [if_neg e, Pq q e, List.getElem?_set_ne (fun e' => e e'.symm), ptrs_get L kd q hq]
        · rw [List.getElem?_eq_none (by simpa [ptrs_length] using hq), List.getElem?_eq_none (by simpa [ptrs_length] using hq)]
      rw [← e]
      rw [show ((ptrs L kd).toArray.setIfInBounds p (.pointer (some ⟨q1, 0, none⟩))) = ((ptrs L kd).set p (.pointer (some ⟨q1, 0, none⟩))).toArray from by simp] at this
      exact this
    rowL := by
      have e : bigL (kd.set p (.small c xs)) = bigL kd := by
        refine eq_of_getD (by simp [bigL]) (fun t => ?_)
        rw [bigL_get, bigL_get, kat_set _ _ _ _ hp]
        split
        · rename_i e; subst e; rw [hk]; rfl
        · rfl
      rw [e]
      exact h.rowL.keep K (n h.r7 (by omega))
    page := fun q d zs e => by
      rcases back q d zs e with ⟨rfl, rfl, rfl⟩ | ⟨hne, e'⟩
      · rw [Pp]
        exact hA.keep K (by simpa using fun e => nf f6 n1 e.symm) (by simpa using fun e => nf f6 n2 e.symm) (by simpa using fun e => nf f6 n3 e.symm)
      · rw [Pq q hne]
        have := h.rp q d zs e'
        exact (h.page q d zs e').keep K (n this.1 (by omega)) (n this.2.1 (by omega)) (n this.2.2 (by omega))
    len := by rw [List.length_set]; exact h.len
    r0 := (old f0).trans h.r0
    r1 := (old f1).trans h.r1
    r2 := (old f2).trans h.r2
    r3 := (old f3).trans h.r3
    r4 := (old f4).trans h.r4
    r5 := (old f5).trans h.r5
    r6 := (old f6).trans h.r6
    r7 := (old f7).trans h.r7
    rp := fun q d zs e => by
      rcases back q d zs e with ⟨rfl, rfl, rfl⟩ | ⟨hne, e'⟩
      · rw [Pp]; exact ⟨m1, m2, m3⟩
      · rw [Pq q hne]
        have fq := h.fp q d zs e'
        have := h.rp q d zs e'
        exact ⟨(old fq.1).trans this.1, (old fq.2.1).trans this.2.1, (old fq.2.2).trans this.2.2⟩
    f := ⟨up f0, up f1, up f2, up f3, up f4, up f5, up f6, up f7⟩
    fp := fun q d zs e => by
      rcases back q d zs e with ⟨rfl, rfl, rfl⟩ | ⟨hne, e'⟩
      · rw [Pp]; simp
      · rw [Pq q hne]
        have fq := h.fp q d zs e'
        exact ⟨up fq.1, up fq.2.1, up fq.2.2⟩
    lt := by
      intro k hk
      have hz : (w.setCell ⟨L.gs, p, none⟩ (.pointer (some ⟨q1, 0, none⟩))).heap.size = w.heap.size := by simp [World.setCell]
      rw [hz]
      rcases List.mem_cons.1 hk with rfl | hk
      · exact hlt.1
      · rcases List.mem_cons.1 hk with rfl | hk
        · exact hlt.2.1
        · rcases List.mem_cons.1 hk with rfl | hk
          · exact hlt.2.2
          · exact h.lt k hk }

/-- A space whose pages are what they are taken for. -/
def IsSpace (w : World) (sb : Nat) (F : List Nat) (ws : List Int) (kd : List PK) : Prop := ∃ L, SpAt w sb L F ws (takenL kd) kd
theorem IsSpace.keep {S F : List Nat} {w w' : World} {sb : Nat} {ws : List Int} {kd : List PK} (h : IsSpace w sb F ws kd) (K : Keep S w w') (hS : ∀ k, k ∈ F → k ∉ S) : IsSpace w' sb F ws kd := by
  obtain ⟨L, h⟩ := h; exact ⟨L, h.keep K hS⟩
theorem IsSpace.keep0 {F : List Nat} {w w' : World} {sb : Nat} {ws : List Int} {kd : List PK} (h : IsSpace w sb F ws kd) (K : Keep [] w w') : IsSpace w' sb F ws kd := h.keep K (by simp)
theorem IsSpace.lt {F : List Nat} {w : World} {sb : Nat} {ws : List Int} {kd : List PK} (h : IsSpace w sb F ws kd) : ∀ k, k ∈ F → k < w.heap.size := by
  obtain ⟨L, h⟩ := h; exact h.lt
theorem IsSpace.len {F : List Nat} {w : World} {sb : Nat} {ws : List Int} {kd : List PK} (h : IsSpace w sb F ws kd) : ws.length = 64 * kd.length := by
  obtain ⟨L, h⟩ := h; exact h.len

end Go.Proofs.YtgpidokklhjfdaaGreat

/-
  Find and Cap of package space.
-/
namespace Go.Proofs.YtgpidokklhjfdaaGreat
open Go.RowKit

set_option maxHeartbeats 1000000 in
theorem sfs_no (sb a p n gs q1 b g s i r : Nat) (xs : List Bool) (w : World) (hc2 : w.cell? ⟨sb, 2, none⟩ = some (.slice (some ⟨gs, 0, none⟩) n n)) (hcs : w.cell? ⟨gs, p, none⟩ = some (.pointer (some ⟨q1, 0, none⟩)))
    (hP : IsPage w q1 b g s xs) (hp : p < n) (h1 : (a : Int) / 64 = p) (h2 : (a : Int).tdiv 64 = p) (h3 : (a : Int) % 64 = r) (h4 : (a : Int).tmod 64 = r) (h5 : (r : Int) / s = i) (h6 : (r : Int).tdiv s = i) (hs : (s : Int) ≠ 0) (hx : hasR xs i = false) (hb : a ≤ 20000 ∧ i ≤ 64) :
    Calls Tryz.prog 110 #[.pointer (some ⟨sb, 0, none⟩), .int .i64 a] w fun e w' => e = .returned (.tuple #[.int .i64 0, .int .i64 0, .bool false]) ∧ Keep [] w w' := by
  have HX := (show Hid (hasR xs i = false) from hx)
  have hc := hP.cell
  have hP1 : ∀ k, IsPage (w.drewN k) q1 b g s xs := fun k => hP.keep (Keep.drewN [] w k) (by simp) (by simp) (by simp)
  have hK := fun k => Keep.drewN [] w k
  have hw1 : IntKind.i64.wrap ((r : Int).tdiv s) = i := by rw [h6]; exact IntWalk.i64_in _ (by omega)
  have hw2 : IntKind.i64.wrap ((r : Int) / s) = i := by rw [h5]; exact IntWalk.i64_in _ (by omega)
  clear hP hx
  go_enter Tryz.func110, Tryz.ntmps110
  go_wp2_with fail
  go_quiet (first | (go_at_call 100; exact Calls.quiet_of_same ((kwords_any q1 b g _ _ _ (hP1 _)).mono (fun e w' h => ⟨h.1, h.2.symm⟩))) | (go_at_call 44; exact Calls.quiet_of_same ((bhas_any b g i _ _ (hP1 _).bits).mono (fun e w' h => ⟨by rw [HX.out] at h; exact h.1, h.2.symm⟩))))
  go_wp2
  go_ret3
  exact ⟨rfl, hK _⟩
set_option maxHeartbeats 1000000 in
theorem sfs_yes (sb a p n gs q1 b g s i r m : Nat) (xs : List Bool) (w : World) (hc2 : w.cell? ⟨sb, 2, none⟩ = some (.slice (some ⟨gs, 0, none⟩) n n)) (hcs : w.cell? ⟨gs, p, none⟩ = some (.pointer (some ⟨q1, 0, none⟩)))
    (hP : IsPage w q1 b g s xs) (hp : p < n) (h1 : (a : Int) / 64 = p) (h2 : (a : Int).tdiv 64 = p) (h3 : (a : Int) % 64 = r) (h4 : (a : Int).tmod 64 = r) (h5 : (r : Int) / s = i) (h6 : (r : Int).tdiv s = i) (h7 : (a : Int) % s = m) (h8 : (a : Int).tmod s = m) (hs : (s : Int) ≠ 0) (hx : hasR xs i = true) (hb : a ≤ 20000 ∧ i ≤ 64 ∧ m ≤ a) :
    Calls Tryz.prog 110 #[.pointer (some ⟨sb, 0, none⟩), .int .i64 a] w fun e w' => e = .returned (.tuple #[.int .i64 ((a : Int) - m), .int .i64 s, .bool true]) ∧ Keep [] w w' := by
  have HX := (show Hid (hasR xs i = true) from hx)
  have hc := hP.cell
  have hP1 : ∀ k, IsPage (w.drewN k) q1 b g s xs := fun k => hP.keep (Keep.drewN [] w k) (by simp) (by simp) (by simp)
  have hw1 : IntKind.i64.wrap ((r : Int).tdiv s) = i := by rw [h6]; exact IntWalk.i64_in _ (by omega)
  have hw2 : IntKind.i64.wrap ((r : Int) / s) = i := by rw [h5]; exact IntWalk.i64_in _ (by omega)
  have hw3 : IntKind.i64.wrap ((a : Int) - m) = (a : Int) - m := IntWalk.i64_in _ (by omega)
  clear hP hx
  go_enter Tryz.func110, Tryz.ntmps110
  go_wp2_with fail
  go_quiet (first | (go_at_call 100; exact Calls.quiet_of_same ((kwords_any q1 b g _ _ _ (hP1 _)).mono (fun e w' h => ⟨h.1, h.2.symm⟩))) | (go_at_call 44; exact Calls.quiet_of_same ((bhas_any b g i _ _ (hP1 _).bits).mono (fun e w' h => ⟨by rw [HX.out] at h; exact h.1, h.2.symm⟩))))
  go_wp2_with fail
  have hPq := hP1 nq
  have hKq := Keep.drewN [] w nq
  generalize w.drewN nq = wq at *
  have hP3 : ∀ k, IsPage (wq.drewN k) q1 b g s xs := fun k => hPq.keep (Keep.drewN [] wq k) (by simp) (by simp) (by simp)
  have hK3 := fun k => hKq.trans (Keep.drewN [] wq k)
  go_quiet (first | (go_at_call 100; exact Calls.quiet_of_same ((kwords_any q1 b g _ _ _ (hP3 _)).mono (fun e w' h => ⟨h.1, h.2.symm⟩))))
  go_wp2
  go_ret3
  exact ⟨rfl, hK3 _⟩

set_option maxHeartbeats 1000000 in
/-- The last page up to p where a larger block begins, or page 0. -/
theorem sfl_core (sb a p n gl : Nat) (v : Nat → Int) (q : Nat) (w : World) (hc3 : w.cell? ⟨sb, 3, none⟩ = some (.slice (some ⟨gl, 0, none⟩) n n)) (hcl : ∀ t, t < n → w.cell? ⟨gl, t, none⟩ = some (.int .i64 (v t)))
    (hp : p < n) (hpa : a / 64 = p) (hqp : q ≤ p) (hv : ∀ t, q < t → t ≤ p → v t = 0) (hq : q = 0 ∨ v q ≠ 0) (hb : a ≤ 20000) (hvb : 0 ≤ v q ∧ v q ≤ 300) :
    Calls Tryz.prog 111 #[.pointer (some ⟨sb, 0, none⟩), .int .i64 a] w fun e w' =>
      e = .returned (if (a : Int) - 64 * q < 64 * v q then .tuple #[.int .i64 (q * 64), .int .i64 (v q * 64), .bool true] else .tuple #[.int .i64 0, .int .i64 0, .bool false]) ∧ Keep [] w w' := by
  have h1 : (a : Int) / 64 = p := by omega
  have h2 : (a : Int).tdiv 64 = p := by rw [Int.tdiv_eq_ediv_of_nonneg (by omega)]; exact h1
  have HV := (show Hid (∀ t, q < t → t ≤ p → v t = 0) from hv)
  have HC := (show Hid (∀ t, t < n → w.cell? ⟨gl, t, none⟩ = some (.int .i64 (v t))) from hcl)
  have HP := (show Hid (a / 64 = p) from hpa)
  have HK := (show Hid (∀ k, Keep [] w (w.drewN k)) from fun k => Keep.drewN [] w k)
  have hx := hcl q (by omega)
  have hq' : q = 0 ∨ 0 < q ∧ v q ≠ 0 := by omega
  clear hv hcl hpa hq
  obtain ⟨y, hy⟩ : ∃ y, v q = y := ⟨_, rfl⟩
  rw [hy] at hx hvb hq' ⊢
  clear hy
  by_cases hlt : (a : Int) - 64 * q < 64 * y
  · rw [if_pos hlt]
    go_enter Tryz.func111, Tryz.ntmps111
    go_wp2
    go_loop [7] (fun i => ∃ j : Nat, i = .int .i64 j ∧ q ≤ j ∧ j ≤ p) (fun i => (intOf i).toNat)
    case atStart => exact ⟨p, rfl, hqp, by omega⟩
    case round =>
      obtain ⟨j, rfl, hqj, hjp⟩ := hrel
      by_cases hqlt : q < j
      · have hx := HC.out j (by omega)
        rw [HV.out j hqlt hjp] at hx
        go_wp2
        go_round
        case rel => exact ⟨j - 1, by go_num, by omega, by omega⟩
        case measure => simp [intOf]; omega
      · obtain rfl : j = q := by omega
        rcases hq' with rfl | ⟨hq0, hq1⟩
        · go_wp2
          go_quiet (fail)
          go_wp2
          go_ret3
          exact ⟨rfl, HK.out _⟩
        · have hyd : decide (y = 0) = false := by rw [decide_eq_false_iff_not]; exact hq1
          go_wp2
          go_quiet (fail)
          go_wp2
          go_ret3
          exact ⟨rfl, HK.out _⟩
  · rw [if_neg hlt]
    go_enter Tryz.func111, Tryz.ntmps111
    go_wp2
    go_loop [7] (fun i => ∃ j : Nat, i = .int .i64 j ∧ q ≤ j ∧ j ≤ p) (fun i => (intOf i).toNat)
    case atStart => exact ⟨p, rfl, hqp, by omega⟩
    case round =>
      obtain ⟨j, rfl, hqj, hjp⟩ := hrel
      by_cases hqlt : q < j
      · have hx := HC.out j (by omega)
        rw [HV.out j hqlt hjp] at hx
        go_wp2
        go_round
        case rel => exact ⟨j - 1, by go_num, by omega, by omega⟩
        case measure => simp [intOf]; omega
      · obtain rfl : j = q := by omega
        rcases hq' with rfl | ⟨hq0, hq1⟩
        · go_wp2
          go_quiet (fail)
          go_wp2
          go_ret3
          exact ⟨rfl, HK.out _⟩
        · have hyd : decide (y = 0) = false := by rw [decide_eq_false_iff_not]; exact hq1
          go_wp2
          go_quiet (fail)
          go_wp2
          go_ret3
          exact ⟨rfl, HK.out _⟩

/-- What Find answers. -/
def foundV : Option (Nat × Nat) → Value
  | some (s, n) => .tuple #[.int .i64 s, .int .i64 n, .bool true]
  | none => .tuple #[.int .i64 0, .int .i64 0, .bool false]

theorem big_facts {kd : List PK} (h : WF kd) (p : Nat) (hp : p < kd.length) (hs : ∀ c xs, kat kd p ≠ .small c xs) (a : Nat) (ha : a / 64 = p) :
    ∃ q, q ≤ p ∧ (∀ t, q < t → t ≤ p → (kat kd t).big = 0) ∧ (q = 0 ∨ (kat kd q).big ≠ 0) ∧ 0 ≤ (kat kd q).big ∧ (kat kd q).big ≤ 300 ∧
      (if (a : Int) - 64 * q < 64 * (kat kd q).big then Value.tuple #[.int .i64 (q * 64), .int .i64 ((kat kd q).big * 64), .bool true] else .tuple #[.int .i64 0, .int .i64 0, .bool false]) = foundV (findN kd a) := by
  have ex : ∀ m, ∃ q, q ≤ m ∧ (∀ t, q < t → t ≤ m → (kat kd t).big = 0) ∧ (q = 0 ∨ (kat kd q).big ≠ 0) := by
    intro m
    induction m with
    | zero => exact ⟨0, by omega, fun t a b => by omega, .inl rfl⟩
    | succ m ih =>
      by_cases e : (kat kd (m + 1)).big = 0
      · obtain ⟨q, h1, h2, h3⟩ := ih
        refine ⟨q, by omega, fun t a b => ?_, h3⟩
        by_cases e' : t = m + 1
        · subst e'; exact e
        · exact h2 t a (by omega)
      · exact ⟨m + 1, by omega, fun t a b => by omega, .inr e⟩
  have bb : ∀ q, 0 ≤ (kat kd q).big ∧ (kat kd q).big ≤ 300 := by
    intro q
    cases e : kat kd q with
    | part j k =>
      have := h.part q j k e
      cases j <;> simp [PK.big]; omega
    | _ => simp [PK.big]
  obtain ⟨q, h1, h2, h3⟩ := ex p
  refine ⟨q, h1, h2, h3, (bb q).1, (bb q).2, ?_⟩
  have nb : ∀ t, (kat kd t).big ≠ 0 → ∃ k : Nat, kat kd t = .part 0 k ∧ (kat kd t).big = k ∧ 1 ≤ k := by
    intro t e
    cases e2 : kat kd t with
    | part j k =>
      rw [e2] at e
      cases j with
      | zero => exact ⟨k, rfl, rfl, by have := (h.part t 0 k e2).1; omega⟩
      | succ j => exact absurd rfl e
    | _ => rw [e2] at e; exact absurd rfl e
  cases hk : kat kd p with
  | small c xs => exact absurd hk (hs c xs)
  | part j k =>
    obtain ⟨g1, g2, g3, g4⟩ := h.part p j k hk
    obtain ⟨m1, m2, m3⟩ := h.part0 hk
    have hq : q = p - j := by
      rcases Nat.lt_trichotomy q (p - j) with e | e | e
      · have := h2 (p - j) e (by omega)
        have g := g4 0 (by omega)
        rw [Nat.add_zero] at g
        rw [g] at this
        simp [PK.big] at this; omega
      · exact e
      · have g := g4 (q - (p - j)) (by omega)
        rw [show p - j + (q - (p - j)) = q by omega] at g
        rcases h3 with e0 | e0
        · omega
        · rw [g] at e0
          obtain ⟨m, hm⟩ : ∃ m, q - (p - j) = m + 1 := ⟨q - (p - j) - 1, by omega⟩
          rw [hm] at e0; exact absurd rfl e0
    have g := g4 0 (by omega)
    rw [Nat.add_zero, ← hq] at g
    rw [find_part kd a j k (by rw [ha]; exact hk), g, ha, ← hq]
    have : (PK.part 0 k).big = k := rfl
    rw [this, if_pos (by omega)]
    show _ = Value.tuple #[.int .i64 ((64 * q : Nat) : Int), .int .i64 ((64 * k : Nat) : Int), .bool true]
    rw [show ((64 * q : Nat) : Int) = (q : Int) * 64 by omega, show ((64 * k : Nat) : Int) = (k : Int) * 64 by omega]
  | zero =>
    obtain rfl := h.only p hk
    obtain rfl : q = 0 := by omega
    rw [find_zero kd a (by rw [ha]; exact hk), hk, if_neg (by simp [PK.big])]
    rfl
  | free =>
    rw [find_free kd a (by rw [ha]; exact hk), if_neg ?_]
    · rfl
    · intro hlt
      rcases Int.lt_or_le 0 (kat kd q).big with hb | hb
      · obtain ⟨k, e1, e2, e3⟩ := nb q (by omega)
        rw [e2] at hlt
        have := (h.part q 0 k e1).2.2.2 (p - q) (by omega)
        rw [show q - 0 + (p - q) = p by omega, hk] at this
        cases this
      · omega

set_option maxHeartbeats 1000000 in
theorem sfind_out (sb n : Nat) (x : Option Addr) (a : Int) (w : World) (hc0 : w.cell? ⟨sb, 0, none⟩ = some (.pointer x)) (hlen : ∀ w', w = w' → Calls Tryz.prog 64 #[.pointer x] w' fun e w'' => e = .returned (.int .i64 n) ∧ w' = w'') (h : ¬ (0 ≤ a ∧ a < n)) :
    Calls Tryz.prog 101 #[.pointer (some ⟨sb, 0, none⟩), .int .i64 a] w fun e w' => e = .returned (.tuple #[.int .i64 0, .int .i64 0, .bool false]) ∧ Keep [] w w' := by
  rcases (show a < 0 ∨ 0 ≤ a ∧ (n : Int) ≤ a by omega) with h1 | ⟨h0, h1⟩
  all_goals
    go_enter Tryz.func101, Tryz.ntmps101
    go_wp2_with (go_at_call 64; refine (hlen _ rfl).mono ?_; rintro e w' ⟨rfl, rfl⟩)
    go_ret3
    exact ⟨rfl, Keep.refl _ _⟩
set_option maxHeartbeats 1000000 in
theorem sfind_small (sb a p n m gs q1 : Nat) (x : Option Addr) (v : Value) (w : World) (hc0 : w.cell? ⟨sb, 0, none⟩ = some (.pointer x)) (hlen : ∀ w', w = w' → Calls Tryz.prog 64 #[.pointer x] w' fun e w'' => e = .returned (.int .i64 n) ∧ w' = w'')
    (hc2 : w.cell? ⟨sb, 2, none⟩ = some (.slice (some ⟨gs, 0, none⟩) m m)) (hcs : w.cell? ⟨gs, p, none⟩ = some (.pointer (some ⟨q1, 0, none⟩))) (hp : p < m) (h1 : (a : Int) / 64 = p) (h2 : (a : Int).tdiv 64 = p) (han : a < n) (hn : n ≤ 20000)
    (h0 : Int) (h00 : Int) (hB : Bool) (hv : v = .tuple #[.int .i64 h0, .int .i64 h00, .bool hB])
    (hf : Calls Tryz.prog 110 #[.pointer (some ⟨sb, 0, none⟩), .int .i64 a] w fun e w' => e = .returned v ∧ Keep [] w w') :
    Calls Tryz.prog 101 #[.pointer (some ⟨sb, 0, none⟩), .int .i64 a] w fun e w' => e = .returned v ∧ Keep [] w w' := by
  subst hv
  have HF := (show Hid (Calls Tryz.prog 110 #[.pointer (some ⟨sb, 0, none⟩), .int .i64 a] w fun e w' => e = .returned (.tuple #[.int .i64 h0, .int .i64 h00, .bool hB]) ∧ Keep [] w w') from hf)
  clear hf
  go_enter Tryz.func101, Tryz.ntmps101
  go_wp2_with (first | (go_at_call 64; refine (hlen _ rfl).mono ?_; rintro e w' ⟨rfl, rfl⟩) | (go_at_call 110; refine HF.out.mono ?_; rintro e w1 ⟨rfl, hK1⟩))
  go_ret3
  exact ⟨rfl, hK1⟩
set_option maxHeartbeats 1000000 in
theorem sfind_large (sb a p n m gs : Nat) (x : Option Addr) (v : Value) (w : World) (hc0 : w.cell? ⟨sb, 0, none⟩ = some (.pointer x)) (hlen : ∀ w', w = w' → Calls Tryz.prog 64 #[.pointer x] w' fun e w'' => e = .returned (.int .i64 n) ∧ w' = w'')
    (hc2 : w.cell? ⟨sb, 2, none⟩ = some (.slice (some ⟨gs, 0, none⟩) m m)) (hcs : w.cell? ⟨gs, p, none⟩ = some (.pointer none)) (hp : p < m) (h1 : (a : Int) / 64 = p) (h2 : (a : Int).tdiv 64 = p) (han : a < n) (hn : n ≤ 20000)
    (h0 : Int) (h00 : Int) (hB : Bool) (hv : v = .tuple #[.int .i64 h0, .int .i64 h00, .bool hB])
    (hf : Calls Tryz.prog 111 #[.pointer (some ⟨sb, 0, none⟩), .int .i64 a] w fun e w' => e = .returned v ∧ Keep [] w w') :
    Calls Tryz.prog 101 #[.pointer (some ⟨sb, 0, none⟩), .int .i64 a] w fun e w' => e = .returned v ∧ Keep [] w w' := by
  subst hv
  have HF := (show Hid (Calls Tryz.prog 111 #[.pointer (some ⟨sb, 0, none⟩), .int .i64 a] w fun e w' => e = .returned (.tuple #[.int .i64 h0, .int .i64 h00, .bool hB]) ∧ Keep [] w w') from hf)
  clear hf
  go_enter Tryz.func101, Tryz.ntmps101
  go_wp2_with (first | (go_at_call 64; refine (hlen _ rfl).mono ?_; rintro e w' ⟨rfl, rfl⟩) | (go_at_call 111; refine HF.out.mono ?_; rintro e w1 ⟨rfl, hK1⟩))
  go_ret3
  exact ⟨rfl, hK1⟩
set_option maxHeartbeats 1000000 in
theorem sfind_nil (a : Int) (w : World) :
    Calls Tryz.prog 101 #[.pointer none, .int .i64 a] w fun e w' => e = .returned (.tuple #[.int .i64 0, .int .i64 0, .bool false]) ∧ w = w' := by
  go_enter Tryz.func101, Tryz.ntmps101
  go_wp2
  go_ret3
  exact ⟨rfl, rfl⟩

theorem foundV_is (o : Option (Nat × Nat)) : ∃ (x y : Int) (b : Bool), foundV o = .tuple #[.int .i64 x, .int .i64 y, .bool b] := by
  cases o with
  | none => exact ⟨0, 0, false, rfl⟩
  | some o => obtain ⟨s, n⟩ := o; exact ⟨s, n, true, rfl⟩

/-- Find, of any space, at any integer. -/
theorem sfind_any (sb : Nat) (F : List Nat) (a : Int) (ws : List Int) (kd : List PK) (w : World) (h : IsSpace w sb F ws kd) (hw : WF kd) :
    Calls Tryz.prog 101 #[.pointer (some ⟨sb, 0, none⟩), .int .i64 a] w fun e w' => e = .returned (foundV (findI kd a)) ∧ Keep [] w w' := by
  obtain ⟨L, h⟩ := h
  have hl := h.len
  have hn2 := hw.len2
  have hlen : ∀ w', w = w' → Calls Tryz.prog 64 #[.pointer (some ⟨L.ab, 0, none⟩)] w' fun e w'' => e = .returned (.int .i64 ws.length) ∧ w' = w'' := by
    rintro _ rfl; exact len_any _ _ _ _ h.arena
  by_cases ha : 0 ≤ a ∧ a < ws.length
  · obtain ⟨k, rfl⟩ := Int.eq_ofNat_of_zero_le ha.1
    have e0 : findI kd (k : Int) = findN kd k := by unfold findI; rw [if_neg (by omega), Int.toNat_natCast]
    rw [e0]
    obtain ⟨p, hp⟩ : ∃ p, k / 64 = p := ⟨_, rfl⟩
    have hpl : p < kd.length := by omega
    have h1 : (k : Int) / 64 = p := by omega
    have h2 : (k : Int).tdiv 64 = p := by rw [Int.tdiv_eq_ediv_of_nonneg (by omega)]; exact h1
    have hcs := h.cs hpl
    obtain ⟨x, y, b, hv⟩ := foundV_is (findN kd k)
    by_cases hsm : ∃ c xs, kat kd p = .small c xs
    · obtain ⟨c, xs, hk⟩ := hsm
      rw [hk] at hcs
      refine sfind_small sb k p ws.length kd.length L.gs (L.P p).1 _ _ w h.c0 hlen h.c2 hcs hpl h1 h2 (by omega) (by omega) x y b hv ?_
      obtain ⟨hc, hxl, _⟩ := hw.small p c xs hk
      obtain ⟨z1, z2, z3, z4, z5, z6, z7⟩ := sz_facts c hc
      obtain ⟨y1, y2, y3, y4⟩ := sz_word c k hc
      have hP := h.page p c xs hk
      rw [z1] at hP
      obtain ⟨r, hr⟩ : ∃ r, k % 64 = r := ⟨_, rfl⟩
      obtain ⟨i, hi⟩ : ∃ i, r / sz c = i := ⟨_, rfl⟩
      obtain ⟨m, hm⟩ : ∃ m, k % sz c = m := ⟨_, rfl⟩
      have hs0 : ((sz c : Nat) : Int) ≠ 0 := by omega
      rw [hr, hi] at y2
      rw [hm] at y3 y4
      have q1 : (k : Int) % 64 = r := by omega
      have q2 : (k : Int).tmod 64 = r := by rw [Int.tmod_eq_emod_of_nonneg (by omega)]; exact q1
      have q3 : (r : Int) / (sz c : Nat) = i := by rw [← hi]; rfl
      have q4 : (r : Int).tdiv (sz c : Nat) = i := by rw [Int.tdiv_eq_ediv_of_nonneg (by omega)]; exact q3
      have q5 : (k : Int) % (sz c : Nat) = m := by rw [← hm]; rfl
      have q6 : (k : Int).tmod (sz c : Nat) = m := by rw [Int.tmod_eq_emod_of_nonneg (by omega)]; exact q5
      have hhas : hasR xs i = xs[i]?.getD false := has_nat xs i (by rw [hxl]; exact y2)
      rw [find_small kd k c xs (by rw [hp]; exact hk), hr, hi, hm]
      cases hx : xs[i]?.getD false
      · rw [hx] at hhas
        exact sfs_no sb k p kd.length L.gs _ _ _ (sz c) i r xs w h.c2 hcs hP hpl h1 h2 q1 q2 q3 q4 hs0 hhas (by omega)
      · rw [hx] at hhas
        have := sfs_yes sb k p kd.length L.gs _ _ _ (sz c) i r m xs w h.c2 hcs hP hpl h1 h2 q1 q2 q3 q4 q5 q6 hs0 hhas (by omega)
        rw [if_pos rfl]
        rw [show ((k : Int) - m) = ((k - m : Nat) : Int) by omega] at this
        exact this
    · have hs : ∀ c xs, kat kd p ≠ .small c xs := fun c xs e => hsm ⟨c, xs, e⟩
      have hpt : (kat kd p).ptr (L.P p).1 = .pointer none := by
        cases e : kat kd p with
        | small c xs => exact absurd e (hs c xs)
        | _ => rfl
      rw [hpt] at hcs
      refine sfind_large sb k p ws.length kd.length L.gs _ _ w h.c0 hlen h.c2 hcs hpl h1 h2 (by omega) (by omega) x y b hv ?_
      obtain ⟨q, g1, g2, g3, g4, g5, g6⟩ := big_facts hw p hpl hs k hp
      rw [← g6]
      exact sfl_core sb k p kd.length L.gl (fun t => (kat kd t).big) q w h.c3 (fun t ht => h.cl ht) hpl hp g1 g2 g3 (by omega) ⟨g4, g5⟩
  · have e0 : findI kd a = none := by
      unfold findI
      split
      · rfl
      · exact find_out kd _ (by omega)
    rw [e0]
    exact sfind_out sb ws.length _ a w h.c0 hlen (by omega)

end Go.Proofs.YtgpidokklhjfdaaGreat

/-
  A slice that the call itself made by append, read as a slice of integers; frames over what append leaves.
-/
namespace Go.Proofs.YtgpidokklhjfdaaGreat
open Go.RowKit

theorem Keep.grown {w1 w w' : World} {row : Option Nat} (h : Keep [] w1 w) (hg : w.grownBy w' row) (hrow : ∀ k, row = some k → w1.heap.size ≤ k) : Keep [] w1 w' :=
  ⟨hg.os.trans h.os, hg.tape.trans h.tape, hg.output.trans h.output, Nat.le_trans h.size hg.size, fun k hk hS =>
    (hg.block k (Nat.lt_of_lt_of_le hk h.size) (fun e => by have := hrow k e.symm; omega)).trans (h.block k hk hS)⟩
theorem own_block {w : World} {base : Nat} {e : TypeId} {size : Nat} {v : Value} {n : Nat} {xs : List Value} (h : w.ownsRow base e size v n xs) : ∀ k, v.ownBlock = some k → base ≤ k := by
  intro k hk
  rcases h.2 with ⟨rfl, _⟩ | ⟨g, cap, cur, rfl, hb, _⟩
  · cases hk
  · cases hk; exact hb
/-- What it is good for: nil, or the head of a row of its own. -/
theorem own_ints {w : World} {base : Nat} {e : TypeId} {v : Value} {n : Nat} {L : List Int} (h : w.ownsRow base e 1 v n (ints L)) (hl : ∀ i : Nat, -9223372036854775808 ≤ L[i]?.getD 0 ∧ L[i]?.getD 0 ≤ 9223372036854775807) :
    (v = .slice none 0 0 ∧ L = [] ∧ n = 0) ∨ ∃ g cap, v = .slice (some ⟨g, 0, none⟩) L.length cap ∧ n = L.length ∧ base ≤ g ∧ g < w.heap.size ∧ IntsAt w (some ⟨g, 0, none⟩) L := by
  have hn : n = L.length := by have := h.1; rw [ints_length, Nat.mul_one] at this; exact this.symm
  subst hn
  rcases h.2 with ⟨rfl, h0⟩ | ⟨g, cap, cur, rfl, hb, hg, hc1, _, hsz, hcur⟩
  · exact .inl ⟨rfl, List.length_eq_zero_iff.1 h0, h0⟩
  · refine .inr ⟨g, cap, rfl, rfl, hb, lt_of_block hg, fun _ => ⟨g, 0, rfl, lt_of_block hg, fun i hi => ?_⟩, fun i => (hl i).1, fun i => (hl i).2⟩
    rw [Nat.mul_one] at hcur
    have h1 : cur.toList[i]? = some (.int .i64 (L[i]?.getD 0)) := by
      have h2 := ints_get L i hi
      rw [← hcur, List.getElem?_take, if_pos hi] at h2
      exact h2
    rw [Nat.zero_add]
    have h3 : cur[i]? = some (.int .i64 (L[i]?.getD 0)) := by simpa using h1
    simp [World.cell?, hg, h3]
theorem own_snoc {w : World} {base : Nat} {e : TypeId} {v : Value} {n : Nat} {L : List Int} {x : Int} (h : w.ownsRow base e 1 v n (ints (L ++ [x]))) (hl : ∀ i : Nat, -9223372036854775808 ≤ (L ++ [x])[i]?.getD 0 ∧ (L ++ [x])[i]?.getD 0 ≤ 9223372036854775807) :
    ∃ g cap, v = .slice (some ⟨g, 0, none⟩) (L.length + 1) cap ∧ base ≤ g ∧ g < w.heap.size ∧ IntsAt w (some ⟨g, 0, none⟩) (L ++ [x]) := by
  rcases own_ints h hl with ⟨_, h1, _⟩ | ⟨g, cap, h1, _, h2, h3, h4⟩
  · simp at h1
  · exact ⟨g, cap, by rw [h1]; simp, h2, h3, h4⟩
theorem IntsAt.nil (w : World) (ao : Option Addr) : IntsAt w ao [] := ⟨fun h => by simp at h, fun i => by simp, fun i => by simp⟩
theorem ints_app (L M : List Int) : ints L ++ ints M = ints (L ++ M) := by simp [ints]
theorem ints_one (L : List Int) (u : Value) (h : u ∈ ints L) : u.oneCell' = true := by
  simp only [ints, List.mem_map] at h
  obtain ⟨x, _, rfl⟩ := h
  rfl
theorem one_cell (w : World) (t : TypeId) (x : Int) : ∀ j u, (ints [x])[j]? = some u → (w.alloc (.cells #[.int .i64 x] t)).cell? ((⟨w.heap.size, 0, none⟩ : Addr).add j) = some u := by
  intro j u h
  rcases j with _ | j
  · have hu : u = .int .i64 x := by simpa [ints] using h.symm
    subst hu
    simp [Addr.add]
  · simp [ints] at h
theorem grown_refl (w : World) (row : Option Nat) : w.grownBy w row := ⟨rfl, rfl, rfl, Nat.le_refl _, fun _ _ _ => rfl⟩
/-- The builtin append of integers onto a row of one's own, whatever is appended: nil, empty, or not. -/
theorem append_ints {P : Program} {w : World} {ops : Array Oper} {rest : List Oper} {o : Oper} {a : Act} {Q : Exit → Act → World → Prop} (hgd : o.guard = none) (s x : Operand) (t : TypeId)
    (ho : o.op = .call { callee := .builtin .append, args := #[s, x], argTypes := #[t, t] })
    (base : Nat) (e : TypeId) (i : TypeInfo) (ht : P.underlying t = some (.slice e)) (hi : P.info? e = some i ∧ i.zero = some (.int .i64 0) ∧ i.size = 1 ∧ i.bytes = 8)
    (v : Value) (n : Nat) (L M : List Int) (hs : a.eval s = v) (hown : w.ownsRow base e 1 v n (ints L)) (xa : Option Addr) (m c : Nat) (hm : M.length = m)
    (hx : a.eval x = .slice xa m c) (hM : IntsAt w xa M) (hc : xa = none → c = 0) (hl : n + m ≤ 1000000) (hbase : base ≤ w.heap.size)
    (h : ∀ v' w', w'.ownsRow base e 1 v' (n + m) (ints (L ++ M)) → w.grownBy w' v.ownBlock → wpList P ops Q rest (a.put o.dst v') w') : wpList P ops Q (o :: rest) a w := by
  obtain ⟨h1, h2, h3, h4⟩ := hi
  cases xa with
  | none =>
    have h0 : M = [] := by
      rcases Nat.eq_zero_or_pos M.length with h0 | h0
      · exact List.length_eq_zero_iff.1 h0
      · obtain ⟨_, _, e, _⟩ := hM.cells h0; cases e
    subst h0
    subst hm
    obtain rfl := hc rfl
    refine wpList_append_own_none hgd s x t ho base e i 1 ht h1 v n _ hs hown hx (h v w ?_ (grown_refl _ _))
    simpa using hown
  | some ad =>
    refine wpList_append_own _ hgd s x t ho base e i (.int .i64 0) 1 8 ht h1 h2 h3 h4 rfl (by decide) v n _ hs hown ad m c (ints M) hx (by rw [ints_length]; omega) ?_ (ints_one _) (by unfold maxLen; omega) (by omega) hbase ?_
    · intro j u hu
      have hj : j < M.length := by
        rcases Nat.lt_or_ge j M.length with hj | hj
        · exact hj
        · rw [List.getElem?_eq_none (by rw [ints_length]; exact hj)] at hu; cases hu
      obtain ⟨b, off, e1, _, hcell⟩ := hM.cells (by omega)
      cases e1
      rw [ints_get M j hj] at hu
      rw [Go.WideShapes.add_plain, hcell j hj]; exact hu
    · intro v' w' hown' hg _
      rw [ints_app] at hown'
      exact h v' w' hown' hg
theorem app_bd {L : List Int} {x : Int} (hb : ∀ i : Nat, -9223372036854775808 ≤ L[i]?.getD 0 ∧ L[i]?.getD 0 ≤ 9223372036854775807) (h1 : -9223372036854775808 ≤ x) (h2 : x ≤ 9223372036854775807) :
    ∀ i : Nat, -9223372036854775808 ≤ (L ++ [x])[i]?.getD 0 ∧ (L ++ [x])[i]?.getD 0 ≤ 9223372036854775807 := by
  intro i
  rcases Nat.lt_trichotomy i L.length with h | h | h
  · rw [List.getElem?_append_left h]; exact hb i
  · subst h; simp; omega
  · rw [List.getElem?_eq_none (by simp; omega)]; simp
theorem app_unfit {n : Nat} (L : List Int) (x : Int) (h : ¬ (0 ≤ x ∧ x < (n : Int))) : fitsB n (L ++ [x]) = false :=
  fitsB_false n _ L.length (by simp) (by simpa using h)
/-- A list that is empty, and is no nil. -/
theorem own_empty (w : World) (e : TypeId) : (w.alloc (.cells #[] e)).ownsRow w.heap.size e 1 (.slice (some ⟨w.heap.size, 0, none⟩) 0 0) 0 (ints []) :=
  ⟨rfl, .inr ⟨w.heap.size, 0, #[], rfl, Nat.le_refl _, heap_alloc_new w _, Nat.le_refl _, Nat.zero_le _, rfl, rfl⟩⟩
theorem own_base {w : World} {base base' : Nat} {e : TypeId} {size : Nat} {v : Value} {n : Nat} {xs : List Value} (h : w.ownsRow base e size v n xs) (hb : base' ≤ base) : w.ownsRow base' e size v n xs := by
  refine ⟨h.1, ?_⟩
  rcases h.2 with h | ⟨g, cap, cur, h1, h2, h3⟩
  · exact .inl h
  · exact .inr ⟨g, cap, cur, h1, by omega, h3⟩

end Go.Proofs.YtgpidokklhjfdaaGreat

/-
  A list of integers of one kind, opened once for all: what each element holds.
-/
namespace Go.Proofs.YtgpidokklhjfdaaGreat
open Go.ChangeShapes Go.WideShapes Go.ChangeAt Go.RowKit

/-- A slice of n integers of kind k, L, in old memory. -/
structure ListAt (w : World) (ao : Option Addr) (k : IntKind) (n : Nat) (L : List Int) : Prop where
  len : L.length = n
  cells : 0 < n → ∃ b off, ao = some ⟨b, off, none⟩ ∧ b < w.heap.size ∧ ∀ i, i < n → w.cell? ⟨b, off + i, none⟩ = some (.int k (L[i]?.getD 0))
  wf : ∀ i, i < n → (Lit.int k (L[i]?.getD 0)).wf = true
theorem ListAt.keep {S : List Nat} {w w' : World} {ao : Option Addr} {k : IntKind} {n : Nat} {L : List Int} (h : ListAt w ao k n L) (hK : Keep S w w') (ho : ∀ b, b ∈ S → w.heap.size ≤ b) : ListAt w' ao k n L := by
  refine ⟨h.len, fun h0 => ?_, h.wf⟩
  obtain ⟨b, off, rfl, hb, hc⟩ := h.cells h0
  exact ⟨b, off, rfl, Nat.lt_of_lt_of_le hb hK.size, fun i hi => (hK.cell hb (fun e => by have := ho b e; omega) _).trans (hc i hi)⟩
theorem ListAt.ints {w : World} {ao : Option Addr} {n : Nat} {L : List Int} (h : ListAt w ao .i64 n L) : IntsAt w ao L := by
  refine ⟨fun h0 => ?_, fun i => ?_, fun i => ?_⟩
  · rw [h.len] at h0 ⊢; exact h.cells h0
  · by_cases hi : i < n
    · have := bounds_i64 (h.wf i hi); omega
    · rw [List.getElem?_eq_none (by rw [h.len]; omega)]; simp
  · by_cases hi : i < n
    · have := bounds_i64 (h.wf i hi); omega
    · rw [List.getElem?_eq_none (by rw [h.len]; omega)]; simp

/-- One integer, told by a list that is new. -/
theorem IntsAt.single (w : World) (t : TypeId) (x : Int) (h1 : -9223372036854775808 ≤ x) (h2 : x ≤ 9223372036854775807) : IntsAt (w.alloc (.cells #[.int .i64 x] t)) (some ⟨w.heap.size, 0, none⟩) [x] := by
  refine ⟨fun _ => ⟨w.heap.size, 0, rfl, by simp, fun i hi => ?_⟩, fun i => ?_, fun i => ?_⟩
  · obtain rfl : i = 0 := by simpa using hi
    exact cell_of_one (heap_alloc_new w _)
  · rcases i with _ | i <;> simp; omega
  · rcases i with _ | i <;> simp; omega

theorem lt_of_cell2 {w : World} {b o : Nat} {v : Value} (h : w.cell? ⟨b, o, none⟩ = some v) : b < w.heap.size := by
  rcases Nat.lt_or_ge b w.heap.size with h' | h'
  · exact h'
  · simp [World.cell?, Array.getElem?_eq_none h'] at h

section
variable {H : Type} {enc : TypeId × Value → H} {P : Program} {w : World} {base : Nat} {spare : Nat → Bool} {held : Bool}

theorem open_list {t e : TypeId} {k : IntKind} {fuel len cap : Nat} {ao : Option Addr} {x : DataW H × List MemPlace} (ht : P.underlying t = some (.slice e)) (he : P.underlying e = some (.int k))
    (ce : P.cellsOf e = 1) (h : DataW.trod enc P w base spare held fuel t [.slice ao len cap] = some x) :
    len ≤ 9223372036854775807 ∧ ∃ L, ListAt w ao k len L := by
  rcases Go.Deep.open_slice1 ht ce h with ⟨h0, _⟩ | ⟨a, len', cap', m, n, V, D, Pl, hcs, hb, hl, hm, hmm, _, hx⟩
  · simp at h0
    obtain ⟨rfl, rfl, rfl⟩ := h0
    exact ⟨by omega, [], rfl, fun h => by omega, fun i h => by omega⟩
  · simp at hcs
    obtain ⟨rfl, rfl, rfl⟩ := hcs
    unfold maxLen at hm
    refine ⟨by omega, ?_⟩
    have hlm : len ≤ m := by rw [hmm]; split <;> omega
    have each : ∀ i, i < len → ∃ z : Int, w.cell? (a.add i) = some (.int k z) ∧ (Lit.int k z).wf = true := by
      intro i hi
      obtain ⟨h1, h2⟩ := hx i (by omega)
      obtain ⟨z, hz, _, hw⟩ := DataW.trod_int he h2
      have hz' : V i = .int k z := by simpa using hz
      exact ⟨z, by rw [h1, hz'], hw⟩
    obtain ⟨L, hL, hc⟩ : ∃ L : List Int, L.length = len ∧ ∀ i, i < len → w.cell? (a.add i) = some (.int k (L[i]?.getD 0)) ∧ (Lit.int k (L[i]?.getD 0)).wf = true := by
      refine ⟨(List.range len).map (fun i => intOf ((w.cell? (a.add i)).getD undef)), by simp, fun i hi => ?_⟩
      obtain ⟨z, hz, hw⟩ := each i hi
      have : ((List.range len).map (fun i => intOf ((w.cell? (a.add i)).getD undef)))[i]?.getD 0 = z := by simp [hi, hz, intOf]
      rw [this]; exact ⟨hz, hw⟩
    refine ⟨L, hL, fun h0 => ?_, fun i hi => (hc i hi).2⟩
    obtain ⟨b, off, spot⟩ := a
    have h1 := (hc 0 (by omega)).1
    have hspot : spot = none := by simpa [Addr.add] using World.cell?_spot h1
    subst hspot
    refine ⟨b, off, rfl, ?_, fun i hi => ?_⟩
    · rw [Go.WideShapes.add_plain] at h1; exact lt_of_cell2 h1
    · have := (hc i (by omega)).1
      rwa [Go.WideShapes.add_plain] at this
end

end Go.Proofs.YtgpidokklhjfdaaGreat

/-
  Each and Used of package space.
-/
namespace Go.Proofs.YtgpidokklhjfdaaGreat
open Go.RowKit

/-- Where the blocks of a page of class c begin that are taken, of its first j. -/
def startsTo (p c : Nat) (xs : List Bool) (j : Nat) : List Int := ((List.range j).filter (fun i => xs[i]?.getD false)).map (fun i => ((64 * p + i * sz c : Nat) : Int))
theorem startsTo_zero (p c : Nat) (xs : List Bool) : startsTo p c xs 0 = [] := rfl
theorem startsTo_yes (p c : Nat) (xs : List Bool) (j : Nat) (h : xs[j]?.getD false = true) : startsTo p c xs (j + 1) = startsTo p c xs j ++ [((64 * p + j * sz c : Nat) : Int)] := by
  unfold startsTo; rw [List.range_succ, List.filter_append, List.map_append]; simp [h]
theorem startsTo_no (p c : Nat) (xs : List Bool) (j : Nat) (h : xs[j]?.getD false = false) : startsTo p c xs (j + 1) = startsTo p c xs j := by
  unfold startsTo; rw [List.range_succ, List.filter_append, List.map_append]; simp [h]
theorem startsTo_skip (p c : Nat) (xs : List Bool) (i d : Nat) (h : ∀ t, i ≤ t → t < i + d → xs[t]?.getD false = false) : startsTo p c xs (i + d) = startsTo p c xs i := by
  induction d with
  | zero => rfl
  | succ d ih => rw [← Nat.add_assoc, startsTo_no _ _ _ _ (h (i + d) (by omega) (by omega)), ih (fun t a b => h t a (by omega))]
theorem startsTo_len (p c : Nat) (xs : List Bool) (j : Nat) : (startsTo p c xs j).length ≤ j := by
  unfold startsTo; rw [List.length_map]; exact Nat.le_trans (List.length_filter_le _ _) (by simp)
theorem getD_bd {L : List Int} (h : ∀ x ∈ L, -9223372036854775808 ≤ x ∧ x ≤ 9223372036854775807) : ∀ i : Nat, -9223372036854775808 ≤ L[i]?.getD 0 ∧ L[i]?.getD 0 ≤ 9223372036854775807 := by
  intro i
  by_cases hi : i < L.length
  · have := h (L[i]) (List.getElem_mem ..)
    simpa [hi] using this
  · rw [List.getElem?_eq_none (by omega)]; simp
theorem startsTo_mem (p c : Nat) (xs : List Bool) (j : Nat) (x : Int) (h : x ∈ startsTo p c xs j) : ∃ i, i < j ∧ xs[i]?.getD false = true ∧ x = ((64 * p + i * sz c : Nat) : Int) := by
  unfold startsTo at h
  obtain ⟨i, hi, rfl⟩ := List.mem_map.1 h
  obtain ⟨h1, h2⟩ := List.mem_filter.1 hi
  exact ⟨i, List.mem_range.1 h1, h2, rfl⟩
/-- Where the blocks of a page begin. -/
def startsK (p : Nat) : PK → List Int
  | .small c xs => startsTo p c xs xs.length
  | .part 0 _ => [((64 * p : Nat) : Int)]
  | _ => []
def eachTo (kd : List PK) (m : Nat) : List Int := (List.range m).flatMap (fun p => startsK p (kat kd p))
/-- Where all blocks begin. -/
def eachK (kd : List PK) : List Int := eachTo kd kd.length
theorem eachTo_succ (kd : List PK) (m : Nat) : eachTo kd (m + 1) = eachTo kd m ++ startsK m (kat kd m) := by
  unfold eachTo; rw [List.range_succ, List.flatMap_append]; simp
theorem eachTo_mem (kd : List PK) (m : Nat) (x : Int) (h : x ∈ eachTo kd m) : ∃ p, p < m ∧ x ∈ startsK p (kat kd p) := by
  unfold eachTo at h
  obtain ⟨p, h1, h2⟩ := List.mem_flatMap.1 h
  exact ⟨p, List.mem_range.1 h1, h2⟩
theorem WF.starts_len {kd : List PK} (h : WF kd) (p : Nat) : (startsK p (kat kd p)).length ≤ 32 := by
  cases e : kat kd p with
  | small c xs =>
    obtain ⟨hc, hl, _⟩ := h.small p c xs e
    have := startsTo_len p c xs xs.length
    have := (sz_facts c hc).2.2.2.2.2.1
    show (startsTo p c xs xs.length).length ≤ 32
    omega
  | part j k => cases j <;> simp [startsK]
  | _ => simp [startsK]
theorem WF.each_len {kd : List PK} (h : WF kd) (m : Nat) : (eachTo kd m).length ≤ 32 * m := by
  induction m with
  | zero => simp [eachTo]
  | succ m ih => rw [eachTo_succ, List.length_append]; have := h.starts_len m; omega
/-- A block that begins is found where it begins. -/
theorem WF.starts_in {kd : List PK} (h : WF kd) (p : Nat) (x : Int) (hx : x ∈ startsK p (kat kd p)) : ∃ a n : Nat, x = a ∧ a / 64 = p ∧ a ≤ 16384 ∧ findN kd a = some (a, n) ∧
    (∀ c xs, kat kd p = .small c xs → n = sz c) ∧ (∀ k, kat kd p = .part 0 k → n = 64 * k) := by
  have h2 := h.len2
  cases e : kat kd p with
  | small c xs =>
    have hp := kat_lt kd p (by rw [e]; simp)
    obtain ⟨hc, hl, _⟩ := h.small p c xs e
    rw [e] at hx
    obtain ⟨i, hi, hv, rfl⟩ := startsTo_mem p c xs _ x hx
    have e1 : (64 * p + i * sz c) / 64 = p ∧ (64 * p + i * sz c) % 64 / sz c = i ∧ (64 * p + i * sz c) % sz c = 0 ∧ i * sz c < 64 := by
      rw [hl] at hi
      rcases sz_cases c hc with ⟨e, f⟩ | ⟨e, f⟩ | ⟨e, f⟩ | ⟨e, f⟩ | ⟨e, f⟩ <;> rw [e] <;> rw [f] at hi <;> omega
    obtain ⟨e1, e2, e3, e4⟩ := e1
    refine ⟨_, sz c, rfl, e1, by omega, ?_, fun d ys e' => by cases e'; rfl, fun k e' => by cases e'⟩
    rw [find_small kd _ c xs (by rw [e1]; exact e), e2, if_pos hv, e3]; rfl
  | part j k =>
    have hp := kat_lt kd p (by rw [e]; simp)
    rw [e] at hx
    cases j with
    | zero =>
      have : x = ((64 * p : Nat) : Int) := by simpa [startsK] using hx
      subst this
      have e1 : 64 * p / 64 = p := by omega
      refine ⟨64 * p, 64 * k, rfl, e1, by omega, ?_, ?_, ?_⟩
      · rw [find_part kd _ 0 k (by rw [e1]; exact e), e1]; rfl
      · intro d ys e'; cases e'
      · intro k' e'; cases e'; rfl
    | succ j => cases hx
  | zero => rw [e] at hx; cases hx
  | free => rw [e] at hx; cases hx
theorem WF.each_in {kd : List PK} (h : WF kd) (m : Nat) (x : Int) (hx : x ∈ eachTo kd m) : ∃ a n : Nat, x = a ∧ a / 64 < m ∧ a ≤ 16384 ∧ findN kd a = some (a, n) := by
  obtain ⟨p, hp, hm⟩ := eachTo_mem kd m x hx
  obtain ⟨a, n, h1, h2, h3, h4, _⟩ := h.starts_in p x hm
  exact ⟨a, n, h1, by omega, h3, h4⟩
theorem WF.starts_bd {kd : List PK} (h : WF kd) (p : Nat) : ∀ i : Nat, -9223372036854775808 ≤ (startsK p (kat kd p))[i]?.getD 0 ∧ (startsK p (kat kd p))[i]?.getD 0 ≤ 9223372036854775807 :=
  getD_bd (fun x hx => by obtain ⟨a, n, rfl, _, h3, _⟩ := h.starts_in p x hx; omega)
theorem WF.each_bd {kd : List PK} (h : WF kd) (m : Nat) : ∀ i : Nat, -9223372036854775808 ≤ (eachTo kd m)[i]?.getD 0 ∧ (eachTo kd m)[i]?.getD 0 ≤ 9223372036854775807 :=
  getD_bd (fun x hx => by obtain ⟨a, n, rfl, _, h3, _⟩ := h.each_in m x hx; omega)

theorem owned_form {w : World} {base : Nat} {e : TypeId} {v : Value} {n : Nat} {L : List Int} (hown : w.ownsRow base e 1 v n (ints L)) (hbd : ∀ i : Nat, -9223372036854775808 ≤ L[i]?.getD 0 ∧ L[i]?.getD 0 ≤ 9223372036854775807) :
    ∃ la lc, v = .slice la L.length lc ∧ n = L.length ∧ IntsAt w la L ∧ (∀ a, la = some a → base ≤ a.block) ∧ (la = none → lc = 0) := by
  rcases own_ints hown hbd with ⟨rfl, rfl, rfl⟩ | ⟨gl, cap, rfl, h, hgl, _, hIL⟩
  · exact ⟨none, 0, rfl, rfl, IntsAt.nil _ _, fun a h => (by cases h), fun _ => rfl⟩
  · exact ⟨some ⟨gl, 0, none⟩, cap, rfl, h, hIL, fun a h => (by cases h; exact hgl), fun h => (by cases h)⟩

theorem own_keep6 {w w' : World} {base : Nat} {e : TypeId} {size : Nat} {v : Value} {n : Nat} {xs : List Value} (h : w.ownsRow base e size v n xs) (k : Keep [] w w') : w'.ownsRow base e size v n xs := by
  refine ⟨h.1, ?_⟩
  rcases h.2 with h | ⟨g, cap, cur, h1, h2, h3, h4⟩
  · exact .inl h
  · exact .inr ⟨g, cap, cur, h1, h2, k.blk h3 (by simp), h4⟩
def mz (n : Nat) (x : Int) : Nat := if x < 0 then 0 else 1 + n - x.toNat
/-- A slice of integers that a call hands back: what it holds, in memory that is new. -/
def GivesInts (w w' : World) (v : Value) (L : List Int) : Prop := ∃ la lc, v = .slice la L.length lc ∧ IntsAt w' la L ∧ (la = none → lc = 0) ∧ ∀ a, la = some a → w.heap.size ≤ a.block

set_option maxHeartbeats 2000000 in
theorem starts_small (sb p n gs gl q1 b g c : Nat) (xs : List Bool) (w : World) (hc2 : w.cell? ⟨sb, 2, none⟩ = some (.slice (some ⟨gs, 0, none⟩) n n)) (hc3 : w.cell? ⟨sb, 3, none⟩ = some (.slice (some ⟨gl, 0, none⟩) n n))
    (hcs : w.cell? ⟨gs, p, none⟩ = some (.pointer (some ⟨q1, 0, none⟩))) (hcl : w.cell? ⟨gl, p, none⟩ = some (.int .i64 0)) (hP : IsPage w q1 b g (sz c : Nat) xs) (hp : p < n) (hn : n ≤ 256) (hz : sz c ≤ 32) (hx : xs.length ≤ 32) :
    Calls Tryz.prog 73 #[.pointer (some ⟨sb, 0, none⟩), .int .i64 p] w fun e w' => ∃ v, e = .returned v ∧ GivesInts w w' v (startsTo p c xs xs.length) ∧ Keep [] w w' := by
  obtain ⟨i0, hi, hz0, hz1, hz2⟩ := info_parts Tryz.infoInt
  have hI : Hid (Tryz.prog.info? 3 = some i0 ∧ i0.zero = some (.int .i64 0) ∧ i0.size = 1 ∧ i0.bytes = 8) := ⟨hi, hz0, hz1, hz2⟩
  clear hi hz0 hz1 hz2
  obtain ⟨s, hs⟩ : ∃ s, sz c = s := ⟨_, rfl⟩
  have HS := (show Hid (sz c = s) from hs)
  rw [hs] at hP hz
  have hP0 : ∀ k, IsPage (w.drewN k) q1 b g s xs := fun k => hP.keep (Keep.drewN [] w k) (by simp) (by simp) (by simp)
  clear hs
  go_enter Tryz.func73, Tryz.ntmps73
  go_wp2
  go_quiet (fail)
  have hPq := hP0 nq
  have hKq := Keep.drewN [] w nq
  have hc3q : (w.drewN nq).cell? ⟨sb, 3, none⟩ = some (.slice (some ⟨gl, 0, none⟩) n n) := hc3
  have hclq : (w.drewN nq).cell? ⟨gl, p, none⟩ = some (.int .i64 0) := hcl
  clear hP hP0 hc2 hc3 hcs hcl
  generalize w.drewN nq = w1 at *
  have hcp := hPq.cell
  have hsz1 := hKq.size
  go_wp2_with (first | (go_at_call 38; refine (bnext_any _ _ 0 _ _ _ hPq.bits (by omega)).mono ?_; rintro e w' ⟨rfl, rfl⟩))
  clear hc3q hclq hcp
  go_loopw [7, 8] (fun v i wr => ∃ (k m : Nat) (vv : Value), vv = v ∧ k ≤ xs.length ∧ i = .int .i64 (nextR xs k true) ∧ m = (startsTo p c xs k).length ∧ Hid (wr.ownsRow w1.heap.size 3 1 v m (ints (startsTo p c xs k))) ∧ Keep [] w1 wr) (fun _ i _ => mz xs.length (intOf i))
  case atStart => exact ⟨0, 0, _, rfl, by omega, rfl, rfl, World.ownsRow_nil _ _ _ _, Keep.refl _ _⟩
  case round =>
    obtain ⟨k, m, v, hvv, hk, hi, hm, HO, hK⟩ := hrel
    obtain ⟨w2, rfl⟩ : ∃ w2, w2 = wr := ⟨_, rfl⟩
    subst hvv
    have hP2 := hPq.keep hK (by simp) (by simp) (by simp)
    have hcp := hP2.cell
    have hml := startsTo_len p c xs k
    rcases nextR_spec xs true _ k rfl with ⟨h1, h2⟩ | ⟨j, h1, hkj, hjl, hjv, h2⟩
    · rw [h1] at hi
      subst hi
      have HE := (show Hid (startsTo p c xs xs.length = startsTo p c xs k) from by
        show _ = _
        have := startsTo_skip p c xs k (xs.length - k) (fun t a b => by simpa using h2 t a (by omega))
        rw [show k + (xs.length - k) = xs.length by omega] at this
        exact this)
      clear h1 h2
      have hbd : ∀ i : Nat, -9223372036854775808 ≤ (startsTo p c xs k)[i]?.getD 0 ∧ (startsTo p c xs k)[i]?.getD 0 ≤ 9223372036854775807 := getD_bd (fun x hx => by
        obtain ⟨i, hi, _, rfl⟩ := startsTo_mem p c xs k x hx
        rw [HS.out]
        have : i * s ≤ 32 * 32 := Nat.mul_le_mul (by omega) hz
        omega)
      obtain ⟨la, lc, rfl, hLA, hIA, hoffA, hlc⟩ := owned_form HO.out hbd
      have HG := (show Hid (GivesInts w w2 (.slice la (startsTo p c xs k).length lc) (startsTo p c xs k)) from ⟨la, lc, rfl, hIA, hlc, fun a e => by have := hoffA a e; omega⟩)
      have hKe := hKq.trans hK
      clear HO hbd hLA hIA hoffA hlc hK hKq
      go_wp2_with fail
      go_ret
      refine ⟨_, rfl, ?_, hKe⟩
      rw [HE.out]; exact HG.out
    · rw [h1] at hi
      subst hi
      have HE := (show Hid (startsTo p c xs (j + 1) = startsTo p c xs k ++ [((64 * p + j * s : Nat) : Int)]) from by
        show _ = _
        have := startsTo_skip p c xs k (j - k) (fun t a b => by simpa using h2 t a (by omega))
        rw [show k + (j - k) = j by omega] at this
        rw [startsTo_yes p c xs j hjv, this, HS.out])
      clear h1 h2 hjv
      obtain ⟨js, hjs⟩ : ∃ js : Nat, j * s = js := ⟨_, rfl⟩
      have hjs2 : js ≤ 32 * 32 := by rw [← hjs]; exact Nat.mul_le_mul (by omega) hz
      have hjs3 : (j : Int) * (s : Int) = js := by rw [← hjs]; exact (Int.natCast_mul j s).symm
      have hj0 : decide ((0 : Int) ≤ (j : Int)) = true := by rw [decide_eq_true_iff]; omega
      have hsum : (p : Int) * 64 + js = ((64 * p + js : Nat) : Int) := by omega
      rw [hjs] at HE
      obtain ⟨y, hy⟩ : ∃ y, 64 * p + js = y := ⟨_, rfl⟩
      rw [hy] at HE hsum
      have hyb : y ≤ 20000 := by omega
      have hw1 : IntKind.i64.wrap ((j : Int) * s) = js := by rw [hjs3]; exact IntWalk.i64_in _ (by omega)
      go_wp2_with (first | (go_at_call 100; refine (kwords_any q1 b g _ _ _ hP2).mono ?_; rintro e w' ⟨rfl, rfl⟩) | (at_builtin; refine append_ints rfl (.tmp 44) (.tmp 51) 25 rfl w1.heap.size 3 i0 Tryz.underlying25 hI.out _ m (startsTo p c xs k) [(y : Int)] rfl (HO.out.alloc _) (some ⟨w2.heap.size, 0, none⟩) 1 1 rfl rfl (IntsAt.single w2 3 y (by omega) (by omega)) (fun e => by cases e) (by omega) (by have := hK.size; simp; omega) ?_; intro v' w5 hown5 hgrow; have hK5 : Keep [] w1 w5 := (hK.trans (Keep.alloc [] _ _)).grown hgrow (own_block HO.out); have hP5 := hPq.keep hK5 (by simp) (by simp) (by simp); have hcp5 := hP5.cell) | (go_at_call 38; refine (bnext_any _ _ ((j : Int) + 1) _ _ _ hP5.bits (by omega)).mono ?_; rintro e w' ⟨rfl, rfl⟩))
      have HO5 := (show Hid (w5.ownsRow w1.heap.size 3 1 v' (startsTo p c xs (j + 1)).length (ints (startsTo p c xs (j + 1)))) from by
        show World.ownsRow _ _ _ _ _ _ _
        have : (startsTo p c xs (j + 1)).length = m + 1 := by rw [HE.out, List.length_append, ← hm]; rfl
        rw [this, HE.out]; exact hown5)
      clear hown5 hgrow HO
      go_roundw
      case rel => exact ⟨j + 1, _, _, rfl, by omega, rfl, rfl, HO5, hK5⟩
      case measure =>
        show mz xs.length (nextR xs (j + 1) true) < mz xs.length (j : Int)
        rcases nextR_spec xs true _ (j + 1) rfl with ⟨e1, _⟩ | ⟨l, e1, e2, e3, _⟩
        · rw [e1]; unfold mz; rw [if_pos (by omega), if_neg (by omega)]; omega
        · rw [e1]; unfold mz; rw [if_neg (by omega), if_neg (by omega)]; omega

set_option maxHeartbeats 1000000 in
theorem starts_big (sb p n gs gl k : Nat) (w : World) (hc2 : w.cell? ⟨sb, 2, none⟩ = some (.slice (some ⟨gs, 0, none⟩) n n)) (hc3 : w.cell? ⟨sb, 3, none⟩ = some (.slice (some ⟨gl, 0, none⟩) n n))
    (hcs : w.cell? ⟨gs, p, none⟩ = some (.pointer none)) (hcl : w.cell? ⟨gl, p, none⟩ = some (.int .i64 k)) (hp : p < n) (hn : n ≤ 256) (hk : 1 ≤ k) :
    Calls Tryz.prog 73 #[.pointer (some ⟨sb, 0, none⟩), .int .i64 p] w fun e w' => ∃ v, e = .returned v ∧ GivesInts w w' v [((64 * p : Nat) : Int)] ∧ Keep [] w w' := by
  have hk0 : decide ((0 : Int) < (k : Int)) = true := by rw [decide_eq_true_iff]; omega
  have hy : (p : Int) * 64 = ((64 * p : Nat) : Int) := by omega
  obtain ⟨y, hy2⟩ : ∃ y, 64 * p = y := ⟨_, rfl⟩
  rw [hy2] at hy ⊢
  have hyb : y ≤ 20000 := by omega
  clear hy2
  go_enter Tryz.func73, Tryz.ntmps73
  go_wp2
  go_quiet (fail)
  have hKq := Keep.drewN [] w nq
  have hc3q : (w.drewN nq).cell? ⟨sb, 3, none⟩ = some (.slice (some ⟨gl, 0, none⟩) n n) := hc3
  have hclq : (w.drewN nq).cell? ⟨gl, p, none⟩ = some (.int .i64 k) := hcl
  clear hc2 hc3 hcs hcl
  generalize w.drewN nq = w1 at *
  have hsz := hKq.size
  have HI := (show Hid (IntsAt (w1.alloc (.cells #[.int .i64 (y : Int)] 3)) (some ⟨w1.heap.size, 0, none⟩) [(y : Int)]) from IntsAt.single w1 3 y (by omega) (by omega))
  have HK := (show Hid (Keep [] w (w1.alloc (.cells #[.int .i64 (y : Int)] 3))) from hKq.trans (Keep.alloc [] _ _))
  go_wp2_with fail
  go_ret
  refine ⟨_, rfl, ⟨_, _, rfl, HI.out, ?_, ?_⟩, HK.out⟩
  · intro e; cases e
  · intro a e; cases e; exact hsz
set_option maxHeartbeats 1000000 in
theorem starts_none (sb p n gs gl : Nat) (w : World) (hc2 : w.cell? ⟨sb, 2, none⟩ = some (.slice (some ⟨gs, 0, none⟩) n n)) (hc3 : w.cell? ⟨sb, 3, none⟩ = some (.slice (some ⟨gl, 0, none⟩) n n))
    (hcs : w.cell? ⟨gs, p, none⟩ = some (.pointer none)) (hcl : w.cell? ⟨gl, p, none⟩ = some (.int .i64 0)) (hp : p < n) (hn : n ≤ 256) :
    Calls Tryz.prog 73 #[.pointer (some ⟨sb, 0, none⟩), .int .i64 p] w fun e w' => ∃ v, e = .returned v ∧ GivesInts w w' v [] ∧ Keep [] w w' := by
  go_enter Tryz.func73, Tryz.ntmps73
  go_wp2
  go_quiet (fail)
  have hKq := Keep.drewN [] w nq
  have hc3q : (w.drewN nq).cell? ⟨sb, 3, none⟩ = some (.slice (some ⟨gl, 0, none⟩) n n) := hc3
  have hclq : (w.drewN nq).cell? ⟨gl, p, none⟩ = some (.int .i64 0) := hcl
  clear hc2 hc3 hcs hcl
  generalize w.drewN nq = w1 at *
  go_wp2_with fail
  go_ret
  exact ⟨_, rfl, ⟨none, 0, rfl, IntsAt.nil _ _, fun _ => rfl, fun a e => by cases e⟩, hKq⟩
theorem starts_any (sb p : Nat) (L : Lay) (F : List Nat) (ws : List Int) (ts : List Bool) (kd : List PK) (w : World) (h : SpAt w sb L F ws ts kd) (hw : WF kd) (hp : p < kd.length) :
    Calls Tryz.prog 73 #[.pointer (some ⟨sb, 0, none⟩), .int .i64 p] w fun e w' => ∃ v, e = .returned v ∧ GivesInts w w' v (startsK p (kat kd p)) ∧ Keep [] w w' := by
  have hcs := h.cs hp
  have hcl := h.cl hp
  have h2 := hw.len2
  cases e : kat kd p with
  | small c xs =>
    obtain ⟨hc, hl, _⟩ := hw.small p c xs e
    obtain ⟨z1, z2, z3, z4, z5, z6, z7⟩ := sz_facts c hc
    have hP := h.page p c xs e
    rw [z1] at hP
    rw [e] at hcs hcl
    exact starts_small sb p kd.length L.gs L.gl _ _ _ c xs w h.c2 h.c3 hcs hcl hP hp h2 z4 (by omega)
  | part j k =>
    rw [e] at hcs hcl
    cases j with
    | zero => exact starts_big sb p kd.length L.gs L.gl k w h.c2 h.c3 hcs hcl hp h2 (by have := (hw.part p 0 k e).1; omega)
    | succ j => exact starts_none sb p kd.length L.gs L.gl w h.c2 h.c3 hcs hcl hp h2
  | zero => rw [e] at hcs hcl; exact starts_none sb p kd.length L.gs L.gl w h.c2 h.c3 hcs hcl hp h2
  | free => rw [e] at hcs hcl; exact starts_none sb p kd.length L.gs L.gl w h.c2 h.c3 hcs hcl hp h2

set_option maxHeartbeats 2000000 in
theorem each_at (sb : Nat) (L : Lay) (F : List Nat) (ws : List Int) (ts : List Bool) (kd : List PK) (w : World) (h : SpAt w sb L F ws ts kd) (hw : WF kd) :
    Calls Tryz.prog 45 #[.pointer (some ⟨sb, 0, none⟩)] w fun e w' => ∃ v, e = .returned v ∧ GivesInts w w' v (eachK kd) ∧ Keep [] w w' := by
  obtain ⟨i0, hi, hz0, hz1, hz2⟩ := info_parts Tryz.infoInt
  have hI : Hid (Tryz.prog.info? 3 = some i0 ∧ i0.zero = some (.int .i64 0) ∧ i0.size = 1 ∧ i0.bytes = 8) := ⟨hi, hz0, hz1, hz2⟩
  clear hi hz0 hz1 hz2
  have hc3 := h.c3
  obtain ⟨n, hn⟩ : ∃ n, kd.length = n := ⟨_, rfl⟩
  have HN := (show Hid (kd.length = n) from hn)
  have hn2 : n ≤ 256 := by rw [← hn]; exact hw.len2
  rw [hn] at hc3
  have HW := (show Hid (WF kd) from hw)
  have HS := (show Hid (SpAt w sb L F ws ts kd) from h)
  clear hn hw h
  go_enter Tryz.func45, Tryz.ntmps45
  go_wp2_with fail
  go_loopw [3, 12] (fun v i wr => ∃ (j m : Nat) (vv : Value), vv = v ∧ j ≤ n ∧ i = .int .i64 j ∧ m = (eachTo kd j).length ∧ Hid (wr.ownsRow w.heap.size 3 1 v m (ints (eachTo kd j))) ∧ Keep [] w wr) (fun _ i _ => n - (intOf i).toNat)
  case atStart => exact ⟨0, 0, _, rfl, by omega, rfl, rfl, World.ownsRow_nil _ _ _ _, Keep.refl _ _⟩
  case round =>
    obtain ⟨j, m, v, hvv, hj, rfl, hm, HO, hK⟩ := hrel
    obtain ⟨w2, rfl⟩ : ∃ w2, w2 = wr := ⟨_, rfl⟩
    subst hvv
    by_cases hlt : j < n
    · have hS2 := HS.out.keep0 hK
      have hm2 : m ≤ 32 * 256 := by have := HW.out.each_len j; omega
      have HB := (show Hid (∀ i : Nat, -9223372036854775808 ≤ (startsK j (kat kd j))[i]?.getD 0 ∧ (startsK j (kat kd j))[i]?.getD 0 ≤ 9223372036854775807) from HW.out.starts_bd j)
      have HL := (show Hid ((startsK j (kat kd j)).length ≤ 32) from HW.out.starts_len j)
      have HE := (show Hid (eachTo kd (j + 1) = eachTo kd j ++ startsK j (kat kd j)) from eachTo_succ kd j)
      go_wp2_with fail
      refine (starts_any sb j L F ws ts kd w2 hS2 HW.out (by rw [HN.out]; exact hlt)).mono ?_
      clear hS2
      generalize startsK j (kat kd j) = M at *
      rintro e w3 ⟨v3, rfl, ⟨la, lc, rfl, hI3, hlc, hoff⟩, hK3⟩
      have HI3 := (show Hid (IntsAt w3 la M) from hI3)
      have HLC := (show Hid (la = none → lc = 0) from hlc)
      have HO3 := (show Hid (w3.ownsRow w.heap.size 3 1 v m (ints (eachTo kd j))) from own_keep6 HO.out hK3)
      have hK4 := hK.trans hK3
      have hsz := hK4.size
      obtain ⟨ml, hml⟩ : ∃ ml, M.length = ml := ⟨_, rfl⟩
      have HML := (show Hid (M.length = ml) from hml)
      have hml2 : ml ≤ 32 := by rw [← hml]; exact HL.out
      rw [hml]
      clear hI3 hlc hoff hK hK3 HO hml
      go_wp2_with (at_builtin; refine append_ints rfl (.tmp 15) (.tmp 18) 25 rfl w.heap.size 3 i0 Tryz.underlying25 hI.out _ m (eachTo kd j) M rfl HO3.out la ml lc HML.out rfl HI3.out HLC.out (by omega) (by omega) ?_; intro v' w5 hown5 hgrow)
      have HO5 := (show Hid (w5.ownsRow w.heap.size 3 1 v' (eachTo kd (j + 1)).length (ints (eachTo kd (j + 1)))) from by
        show World.ownsRow _ _ _ _ _ _ _
        have : (eachTo kd (j + 1)).length = m + ml := by rw [HE.out, List.length_append, ← hm, HML.out]
        rw [this, HE.out]; exact hown5)
      have hK5 : Keep [] w w5 := hK4.grown hgrow (own_block HO3.out)
      clear hown5 hgrow HO3 hK4 HE
      go_wp2_with fail
      go_roundw
      case rel => exact ⟨j + 1, _, _, rfl, by omega, by go_num, rfl, HO5, hK5⟩
      case measure => simp [intOf]; omega
    · obtain rfl : j = n := by omega
      have hE : eachTo kd j = eachK kd := by unfold eachK; rw [HN.out]
      have hO := HO.out
      rw [hE] at hO
      obtain ⟨la, lc, rfl, hLA, hIA, hoffA, hlc⟩ := owned_form hO (by unfold eachK; exact HW.out.each_bd _)
      have HG := (show Hid (GivesInts w w2 (.slice la (eachK kd).length lc) (eachK kd)) from ⟨la, lc, rfl, hIA, hlc, hoffA⟩)
      clear hO HO hLA hIA hoffA hlc hE
      go_wp2_with fail
      go_ret
      exact ⟨_, rfl, HG.out, hK⟩
/-- Each, of any space. -/
theorem seach_any (sb : Nat) (F : List Nat) (ws : List Int) (kd : List PK) (w : World) (h : IsSpace w sb F ws kd) (hw : WF kd) :
    Calls Tryz.prog 45 #[.pointer (some ⟨sb, 0, none⟩)] w fun e w' => ∃ v, e = .returned v ∧ GivesInts w w' v (eachK kd) ∧ Keep [] w w' := by
  obtain ⟨L, h⟩ := h; exact each_at sb L F ws _ kd w h hw
set_option maxHeartbeats 400000 in
theorem seach_nil (w : World) :
    Calls Tryz.prog 45 #[.pointer none] w fun e w' => e = .returned (.slice none 0 0) ∧ w = w' := by
  go_enter Tryz.func45, Tryz.ntmps45
  go_wp2
  go_ret
  exact ⟨rfl, rfl⟩

/-- How many words the block at a has. -/
def wordsAt (kd : List PK) (a : Int) : Int := ((findI kd a).map (fun o => (o.2 : Int))).getD 0
def usedTo (kd : List PK) (j : Nat) : Int := (((eachK kd).take j).map (wordsAt kd)).sum
/-- The words of all blocks. -/
def usedK (kd : List PK) : Int := ((eachK kd).map (wordsAt kd)).sum
theorem usedTo_succ (kd : List PK) (j : Nat) (h : j < (eachK kd).length) : usedTo kd (j + 1) = usedTo kd j + wordsAt kd ((eachK kd)[j]?.getD 0) := by
  unfold usedTo; rw [take_snoc _ _ h, List.map_append, List.sum_append]; simp
theorem wordsAt_bd {kd : List PK} (h : WF kd) (a : Int) : 0 ≤ wordsAt kd a ∧ wordsAt kd a ≤ 1024 := by
  unfold wordsAt findI
  split
  · simp
  · cases e : findN kd a.toNat with
    | none => simp
    | some o =>
      obtain ⟨s, n⟩ := o
      have := (h.found e).2.2.2.2.1
      simp; omega
theorem usedTo_bd {kd : List PK} (h : WF kd) (j : Nat) (hj : j ≤ (eachK kd).length) : 0 ≤ usedTo kd j ∧ usedTo kd j ≤ 1024 * j := by
  induction j with
  | zero => simp [usedTo]
  | succ j ih =>
    rw [usedTo_succ kd j hj]
    have := ih (by omega)
    have := wordsAt_bd h ((eachK kd)[j]?.getD 0)
    omega

end Go.Proofs.YtgpidokklhjfdaaGreat

/-
  Package head, and the document's own words on heads: what their calls answer.
-/
namespace Go.Proofs.YtgpidokklhjfdaaGreat
open Go.RowKit

/-- A head that may be. -/
def mayH (k c l : Int) (f : Bool) : Bool :=
  decide (0 ≤ l ∧ l ≤ 1023) && ((decide (k = 1) && decide (1 ≤ c ∧ c ≤ 256)) || (decide (k = 2 ∨ k = 3) && decide (c = 0)) || (decide (k = 4) && decide (1 ≤ c ∧ c ≤ 3) && decide (l = 5) && !f))
/-- Its word. -/
def putH (k c l : Int) (f : Bool) : Int := k + 16 * c + 65536 * l + (if f then 8 else 0)

def inB (x lo hi : Int) : Bool := decide (lo ≤ x ∧ x ≤ hi)
theorem inB_yes {x lo hi : Int} (h1 : lo ≤ x) (h2 : x ≤ hi) : inB x lo hi = true := decide_eq_true ⟨h1, h2⟩
theorem inB_no {x lo hi : Int} (h : ¬ (lo ≤ x ∧ x ≤ hi)) : inB x lo hi = false := decide_eq_false h

set_option maxRecDepth 100000 in
set_option maxHeartbeats 800000 in
theorem within2 (g : Nat) (x1 l1 h1 x2 l2 h2 : Int) (w : World) (hg : w.heap[g]? = some (.cells #[.int .i64 x1, .int .i64 l1, .int .i64 h1, .int .i64 x2, .int .i64 l2, .int .i64 h2] 147 (0, 0))) :
    Calls Tryz.prog 82 #[.slice (some ⟨g, 0, none⟩) 2 2] w fun e w' => e = .returned (.bool (inB x1 l1 h1 && inB x2 l2 h2)) ∧ Keep [] w w' := by
  go_enter Tryz.func82, Tryz.ntmps82
  go_wp2
  go_loopw [7] (fun i wr => ∃ j : Nat, i = .int .i64 j ∧ j ≤ 2 ∧ (0 < j → inB x1 l1 h1 = true) ∧ (1 < j → inB x2 l2 h2 = true) ∧ Keep [] w wr) (fun i _ => 2 - (intOf i).toNat)
  case atStart => exact ⟨0, rfl, by omega, fun h => by omega, fun h => by omega, Keep.refl _ _⟩
  case round =>
    obtain ⟨j, rfl, hj, hi1, hi2, hK⟩ := hrel
    have hx := hK.blk hg (by simp)
    rcases (show j = 0 ∨ j = 1 ∨ j = 2 from by omega) with rfl | rfl | rfl
    · have c0 : wr.cell? ⟨g, 0, none⟩ = some (.int .i64 x1) := by simp [World.cell?, hx]
      have c1 : wr.cell? ⟨g, 1, none⟩ = some (.int .i64 l1) := by simp [World.cell?, hx]
      have c2 : wr.cell? ⟨g, 2, none⟩ = some (.int .i64 h1) := by simp [World.cell?, hx]
      clear hi1 hi2 hx hg
      by_cases q1 : x1 < l1
      · have HM := (show Hid (inB x1 l1 h1 = false) from inB_no (by omega))
        go_wp2_with fail
        go_ret
        rw [HM.out]; exact ⟨by simp, hK.trans (Keep.alloc _ _ _)⟩
      · have q1d : decide (x1 < l1) = false := decide_eq_false q1
        by_cases q2 : h1 < x1
        · have HM := (show Hid (inB x1 l1 h1 = false) from inB_no (by omega))
          go_wp2_with fail
          go_ret
          rw [HM.out]; exact ⟨by simp, hK.trans (Keep.alloc _ _ _)⟩
        · have HM := (show Hid (inB x1 l1 h1 = true) from inB_yes (by omega) (by omega))
          have q2d : decide (h1 < x1) = false := decide_eq_false q2
          go_wp2_with fail
          go_roundw
          case rel => exact ⟨1, by go_num, by omega, fun _ => HM.out, fun h => by omega, hK.trans (Keep.alloc _ _ _)⟩
          case measure => simp [intOf]
    · have HI := (show Hid (inB x1 l1 h1 = true) from hi1 (by omega))
      have c0 : wr.cell? ⟨g, 3, none⟩ = some (.int .i64 x2) := by simp [World.cell?, hx]
      have c1 : wr.cell? ⟨g, 4, none⟩ = some (.int .i64 l2) := by simp [World.cell?, hx]
      have c2 : wr.cell? ⟨g, 5, none⟩ = some (.int .i64 h2) := by simp [World.cell?, hx]
      clear hi1 hi2 hx hg
      by_cases q1 : x2 < l2
      · have HM := (show Hid (inB x2 l2 h2 = false) from inB_no (by omega))
        go_wp2_with fail
        go_ret
        rw [HM.out]; exact ⟨by simp, hK.trans (Keep.alloc _ _ _)⟩
      · have q1d : decide (x2 < l2) = false := decide_eq_false q1
        by_cases q2 : h2 < x2
        · have HM := (show Hid (inB x2 l2 h2 = false) from inB_no (by omega))
          go_wp2_with fail
          go_ret
          rw [HM.out]; exact ⟨by simp, hK.trans (Keep.alloc _ _ _)⟩
        · have HM := (show Hid (inB x2 l2 h2 = true) from inB_yes (by omega) (by omega))
          have q2d : decide (h2 < x2) = false := decide_eq_false q2
          go_wp2_with fail
          go_roundw
          case rel => exact ⟨2, by go_num, by omega, fun _ => HI.out, fun _ => HM.out, hK.trans (Keep.alloc _ _ _)⟩
          case measure => simp [intOf]
    · have HI := (show Hid (inB x1 l1 h1 = true) from hi1 (by omega))
      have HJ := (show Hid (inB x2 l2 h2 = true) from hi2 (by omega))
      clear hi1 hi2 hx hg
      go_wp2
      go_ret
      rw [HI.out, HJ.out]; exact ⟨rfl, hK⟩

theorem mayH_1 (c l : Int) (f : Bool) : mayH 1 c l f = (inB c 1 256 && inB l 0 1023) := by
  unfold mayH inB; simp; rw [Bool.and_comm]
theorem mayH_23 {k : Int} (c l : Int) (f : Bool) (hk : k = 2 ∨ k = 3) : mayH k c l f = (inB c 0 0 && inB l 0 1023) := by
  unfold mayH inB
  rcases hk with rfl | rfl <;> (rw [Bool.eq_iff_iff]; simp; omega)
theorem mayH_4 (c l : Int) (f : Bool) : mayH 4 c l f = (!f && (inB c 1 3 && inB l 5 5)) := by
  unfold mayH inB
  cases f <;> simp
  rw [Bool.eq_iff_iff]; simp; omega
theorem mayH_no {k : Int} (c l : Int) (f : Bool) (hk : k < 1 ∨ 4 < k) : mayH k c l f = false := by
  unfold mayH
  rw [Bool.eq_false_iff]; simp; omega

/-- Two bounds, laid. -/
theorem second_block (w : World) (o : Obj) (v : Array Value) (t : TypeId) : ((w.alloc o).alloc (.cells v t)).heap[w.heap.size + 1]? = some (.cells v t (0, 0)) := by
  have := heap_alloc_new (w.alloc o) (.cells v t)
  have e : (w.alloc o).heap.size = w.heap.size + 1 := by simp
  rwa [e] at this

set_option maxRecDepth 100000 in
set_option maxHeartbeats 800000 in
theorem hmay_any (k c l : Int) (f : Bool) (w : World) : Calls Tryz.prog 52 #[.agg #[.int .i64 k, .int .i64 c, .int .i64 l, .bool f]] w fun e w' => e = .returned (.bool (mayH k c l f)) ∧ Keep [] w w' := by
  have hK1 := Keep.alloc [] w (.cells #[.int .i64 k, .int .i64 c, .int .i64 l, .bool f] 68)
  by_cases h1 : k = 1
  · subst h1
    rw [mayH_1]
    go_enter Tryz.func52, Tryz.ntmps52
    go_wp2_with (first | (go_at_call 82; refine (within2 (w.heap.size + 1) c 1 256 l 0 1023 _ (second_block _ _ _ _)).mono ?_; rintro e w1 ⟨rfl, hK2⟩))
    go_ret
    exact ⟨rfl, (hK1.trans (Keep.alloc _ _ _)).trans hK2⟩
  · by_cases h23 : k = 2 ∨ k = 3
    · rw [mayH_23 c l f h23]
      rcases h23 with rfl | rfl
      all_goals
        go_enter Tryz.func52, Tryz.ntmps52
        go_wp2_with (first | (go_at_call 82; refine (within2 (w.heap.size + 1) c 0 0 l 0 1023 _ (second_block _ _ _ _)).mono ?_; rintro e w1 ⟨rfl, hK2⟩))
        go_ret
        exact ⟨rfl, (hK1.trans (Keep.alloc _ _ _)).trans hK2⟩
    · by_cases h4 : k = 4
      · subst h4
        rw [mayH_4]
        cases f
        · go_enter Tryz.func52, Tryz.ntmps52
          go_wp2_with (first | (go_at_call 82; refine (within2 (w.heap.size + 1) c 1 3 l 5 5 _ (second_block _ _ _ _)).mono ?_; rintro e w1 ⟨rfl, hK2⟩))
          go_ret
          exact ⟨by simp, (hK1.trans (Keep.alloc _ _ _)).trans hK2⟩
        · go_enter Tryz.func52, Tryz.ntmps52
          go_wp2_with fail
          go_ret
          exact ⟨by simp, hK1⟩
      · rw [mayH_no c l f (by omega)]
        have e1 : (k == 1) = false := by simp [h1]
        have e2 : (k == 2) = false := by simp; omega
        have e3 : (k == 3) = false := by simp; omega
        have e4 : (k == 4) = false := by simp [h4]
        clear h1 h23 h4
        go_enter Tryz.func52, Tryz.ntmps52
        go_wp2_with fail
        go_ret
        exact ⟨rfl, hK1⟩

theorem mayH_bd {k c l : Int} {f : Bool} (h : mayH k c l f = true) : 1 ≤ k ∧ k ≤ 4 ∧ 0 ≤ c ∧ c ≤ 256 ∧ 0 ≤ l ∧ l ≤ 1023 := by
  unfold mayH at h; simp at h; omega
/-- What Put answers. -/
def putN (k c l : Int) (f : Bool) : Int := if mayH k c l f then putH k c l f else 0

set_option maxRecDepth 100000 in
set_option maxHeartbeats 800000 in
theorem hput_any (k c l : Int) (f : Bool) (w : World) : Calls Tryz.prog 87 #[.agg #[.int .i64 k, .int .i64 c, .int .i64 l, .bool f]] w fun e w' => e = .returned (.tuple #[.int .i64 (putN k c l f), .bool (mayH k c l f)]) ∧ Keep [] w w' := by
  have hK1 := Keep.alloc [] w (.cells #[.int .i64 k, .int .i64 c, .int .i64 l, .bool f] 68)
  have hx := heap_alloc_new w (.cells #[.int .i64 k, .int .i64 c, .int .i64 l, .bool f] 68)
  unfold putN
  cases hm : mayH k c l f with
  | false =>
    have HM := (show Hid (mayH k c l f = false) from hm)
    clear hm
    go_enter Tryz.func87, Tryz.ntmps87
    go_wp2_with (first | (go_at_call 52; refine (hmay_any k c l f _).mono ?_; rw [HM.out]; rintro e w1 ⟨rfl, hK2⟩))
    go_ret2
    exact ⟨rfl, hK1.trans hK2⟩
  | true =>
    have HM := (show Hid (mayH k c l f = true) from hm)
    obtain ⟨b1, b2, b3, b4, b5, b6⟩ := mayH_bd hm
    clear hm
    cases f
    · go_enter Tryz.func87, Tryz.ntmps87
      go_wp2_with (first | (go_at_call 52; refine (hmay_any k c l _ _).mono ?_; rw [HM.out]; rintro e w1 ⟨rfl, hK2⟩; have hx1 := hK2.blk hx (by simp); have c0 : w1.cell? ⟨w.heap.size, 0, none⟩ = some (.int .i64 k) := (by simp [World.cell?, hx1]); have c1 : w1.cell? ⟨w.heap.size, 1, none⟩ = some (.int .i64 c) := (by simp [World.cell?, hx1]); have c2 : w1.cell? ⟨w.heap.size, 2, none⟩ = some (.int .i64 l) := (by simp [World.cell?, hx1]); have c3 : w1.cell? ⟨w.heap.size, 3, none⟩ = some (.bool false) := (by simp [World.cell?, hx1])))
      go_ret2
      exact ⟨by simp [putH], hK1.trans hK2⟩
    · go_enter Tryz.func87, Tryz.ntmps87
      go_wp2_with (first | (go_at_call 52; refine (hmay_any k c l _ _).mono ?_; rw [HM.out]; rintro e w1 ⟨rfl, hK2⟩; have hx1 := hK2.blk hx (by simp); have c0 : w1.cell? ⟨w.heap.size, 0, none⟩ = some (.int .i64 k) := (by simp [World.cell?, hx1]); have c1 : w1.cell? ⟨w.heap.size, 1, none⟩ = some (.int .i64 c) := (by simp [World.cell?, hx1]); have c2 : w1.cell? ⟨w.heap.size, 2, none⟩ = some (.int .i64 l) := (by simp [World.cell?, hx1]); have c3 : w1.cell? ⟨w.heap.size, 3, none⟩ = some (.bool true) := (by simp [World.cell?, hx1])))
      go_ret2
      exact ⟨by simp [putH], hK1.trans hK2⟩

end Go.Proofs.YtgpidokklhjfdaaGreat

/-
  A struct and one value more, handed back: it speaks of no program.
-/
namespace Go.Proofs.YtgpidokklhjfdaaGreat
open Go.RowKit

theorem results_cell_tmp_row {P : Program} {fn : Func} {p u : Tmp} {ty : TypeId} (h : fn.results = #[.cell p ty, .tmp u]) (tmps : Array Value) (w : World) (g : Nat) (t : TypeId) (cs : Array Value) (fr : Nat × Nat) (d : TypeDesc)
    (hp : tmps.getD p undef = .pointer (some ⟨g, 0, none⟩)) (hg : w.heap[g]? = some (.cells cs t fr))
    (hu : P.underlying ty = some d) (hd : (match d with | .struct _ | .array _ _ => true | _ => false) = true) (hi : (P.info? ty).map (·.size) = some cs.size) :
    (results fn tmps).run P w = .ok (.tuple #[.agg cs, tmps.getD u undef]) w := by
  have hp' : tmps[p]?.getD undef = .pointer (some ⟨g, 0, none⟩) := by simpa using hp
  simp [results, h, hp', asAddr, run_loadVar_row w g t ty cs fr d hg hu hd hi]

end Go.Proofs.YtgpidokklhjfdaaGreat

/-
  Get of package head, and the document's own words on heads.
-/
namespace Go.Proofs.YtgpidokklhjfdaaGreat
open Go.RowKit

/-- x is the word of this head. -/
def Word (x k c l : Int) (f : Bool) : Prop := mayH k c l f = true ∧ putH k c l f = x

/-- What a word says, part by part. -/
def wk (x : Int) : Int := x.tmod 8
def wc (x : Int) : Int := (x.tmod 65536).tdiv 16
def wl (x : Int) : Int := x.tdiv 65536
def wf (x : Int) : Bool := decide (8 ≤ x.tmod 16)

theorem Word.parts {x k c l : Int} {f : Bool} (h : Word x k c l f) : 0 < x ∧ x < 67108864 ∧ wk x = k ∧ wc x = c ∧ wl x = l ∧ wf x = f := by
  obtain ⟨h1, h2⟩ := h
  have hb := mayH_bd h1
  unfold putH at h2
  have hx : 0 < x ∧ x < 67108864 := by cases f <;> simp at h2 <;> omega
  unfold wk wc wl wf
  rw [Int.tmod_eq_emod_of_nonneg (by omega), Int.tmod_eq_emod_of_nonneg (by omega), Int.tdiv_eq_ediv_of_nonneg (by omega), Int.tmod_eq_emod_of_nonneg (by omega), Int.tdiv_eq_ediv_of_nonneg (by omega)]
  cases f <;> simp at h2
  · refine ⟨hx.1, hx.2, by omega, by omega, by omega, ?_⟩
    rw [decide_eq_false_iff_not]; omega
  · refine ⟨hx.1, hx.2, by omega, by omega, by omega, ?_⟩
    rw [decide_eq_true_iff]; omega
theorem word_of {x : Int} (h : mayH (wk x) (wc x) (wl x) (wf x) = true) : Word x (wk x) (wc x) (wl x) (wf x) := by
  refine ⟨h, ?_⟩
  have hb := mayH_bd h
  have h0 : 0 < x := by
    have := hb.1
    unfold wk at this
    rcases (show 0 < x ∨ x ≤ 0 by omega) with h | h
    · exact h
    · exfalso
      have : x.tmod 8 ≤ 0 := by
        have e : x = -(-x) := by omega
        rw [e, Int.neg_tmod]
        have := Int.tmod_nonneg 8 (show (0 : Int) ≤ -x by omega)
        omega
      omega
  clear h
  unfold putH wk wc wl wf at *
  rw [Int.tmod_eq_emod_of_nonneg (by omega), Int.tmod_eq_emod_of_nonneg (by omega), Int.tdiv_eq_ediv_of_nonneg (by omega), Int.tdiv_eq_ediv_of_nonneg (by omega), Int.tmod_eq_emod_of_nonneg (by omega)] at *
  by_cases h8 : 8 ≤ x % 16
  · simp [h8]; omega
  · simp [h8]; omega
theorem word_or (x : Int) : (∃ k c l f, Word x k c l f) ∨ (∀ k c l f, ¬ Word x k c l f) := by
  by_cases h : mayH (wk x) (wc x) (wl x) (wf x) = true
  · exact .inl ⟨_, _, _, _, word_of h⟩
  · refine .inr (fun k c l f hw => h ?_)
    obtain ⟨_, _, e1, e2, e3, e4⟩ := hw.parts
    rw [e1, e2, e3, e4]; exact hw.1

theorem tdiv16 (p : Int) (h : -65536 < p ∧ p < 65536) : -4096 < p.tdiv 16 ∧ p.tdiv 16 < 4096 := by
  rcases (show 0 ≤ p ∨ p ≤ 0 by omega) with h0 | h0
  · rw [Int.tdiv_eq_ediv_of_nonneg h0]; omega
  · have e : p = -(-p) := by omega
    rw [e, Int.neg_tdiv, Int.tdiv_eq_ediv_of_nonneg (by omega)]; omega
theorem tmod_bd (x : Int) : -65536 < x.tmod 65536 ∧ x.tmod 65536 < 65536 := by
  rcases (show 0 ≤ x ∨ x ≤ 0 by omega) with h0 | h0
  · rw [Int.tmod_eq_emod_of_nonneg h0]; omega
  · have e : x = -(-x) := by omega
    rw [e, Int.neg_tmod, Int.tmod_eq_emod_of_nonneg (by omega)]; omega
theorem tdiv_bd (x : Int) (h : -9223372036854775808 ≤ x ∧ x ≤ 9223372036854775807) : -140737488355329 < x.tdiv 65536 ∧ x.tdiv 65536 < 140737488355329 := by
  rcases (show 0 ≤ x ∨ x ≤ 0 by omega) with h0 | h0
  · rw [Int.tdiv_eq_ediv_of_nonneg h0]; omega
  · have e : x = -(-x) := by omega
    rw [e, Int.neg_tdiv, Int.tdiv_eq_ediv_of_nonneg (by omega)]; omega

/-- Four cells of a block. -/
theorem four_cells {w : World} {b : Nat} {t : TypeId} {a0 a1 a2 a3 : Value} (h : w.heap[b]? = some (.cells #[a0, a1, a2, a3] t (0, 0))) :
    w.cell? ⟨b, 0, none⟩ = some a0 ∧ w.cell? ⟨b, 1, none⟩ = some a1 ∧ w.cell? ⟨b, 2, none⟩ = some a2 ∧ w.cell? ⟨b, 3, none⟩ = some a3 := by
  refine ⟨?_, ?_, ?_, ?_⟩ <;> simp [World.cell?, h]
theorem four_free {w : World} {b : Nat} {t : TypeId} {a0 a1 a2 a3 : Value} (h : w.heap[b]? = some (.cells #[a0, a1, a2, a3] t (0, 0))) :
    w.frozen? ⟨b, 0, none⟩ = false ∧ w.frozen? ⟨b, 1, none⟩ = false ∧ w.frozen? ⟨b, 2, none⟩ = false ∧ w.frozen? ⟨b, 3, none⟩ = false := by
  refine ⟨?_, ?_, ?_, ?_⟩ <;> simp [World.frozen?, h]
theorem four_put {w : World} {b : Nat} {t : TypeId} {a0 a1 a2 a3 : Value} (h : w.heap[b]? = some (.cells #[a0, a1, a2, a3] t (0, 0))) (b0 b1 b2 b3 : Value) :
    ((((w.setCell ⟨b, 0, none⟩ b0).setCell ⟨b, 1, none⟩ b1).setCell ⟨b, 2, none⟩ b2).setCell ⟨b, 3, none⟩ b3).heap[b]? = some (.cells #[b0, b1, b2, b3] t (0, 0)) ∧
      Keep [b] w ((((w.setCell ⟨b, 0, none⟩ b0).setCell ⟨b, 1, none⟩ b1).setCell ⟨b, 2, none⟩ b2).setCell ⟨b, 3, none⟩ b3) := by
  have z1 := heap_setCell_same w b 0 _ _ b0 h
  have z2 := heap_setCell_same _ b 1 _ _ b1 z1
  have z3 := heap_setCell_same _ b 2 _ _ b2 z2
  have z4 := heap_setCell_same _ b 3 _ _ b3 z3
  exact ⟨by simpa using z4, (((Keep.setCell _ _ (by simp)).trans (Keep.setCell _ _ (by simp))).trans (Keep.setCell _ _ (by simp))).trans (Keep.setCell _ _ (by simp))⟩

set_option maxRecDepth 100000 in
set_option maxHeartbeats 800000 in
theorem hget_raw_no (x k c l : Int) (f : Bool) (w : World) (hx : -9223372036854775808 ≤ x ∧ x ≤ 9223372036854775807) (ek : wk x = k) (ec : wc x = c) (el : wl x = l) (ef : wf x = f) (hm : mayH k c l f = false) :
    Calls Tryz.prog 76 #[.int .i64 x] w fun e w' => e = .returned (.tuple #[.agg #[.int .i64 0, .int .i64 0, .int .i64 0, .bool false], .bool false]) ∧ Keep [] w w' := by
  unfold wk at ek
  unfold wc at ec
  unfold wl at el
  unfold wf at ef
  have HM := (show Hid (mayH k c l f = false) from hm)
  obtain ⟨p, hp⟩ : ∃ p, x.tmod 65536 = p := ⟨_, rfl⟩
  have hpb := tmod_bd x
  rw [hp] at ec hpb
  have hcb := tdiv16 p hpb
  rw [ec] at hcb
  have hcw : wrap64 c = c := IntWalk.wrap64_in _ (by omega)
  have hlb := tdiv_bd x hx
  rw [el] at hlb
  have hlw : wrap64 l = l := IntWalk.wrap64_in _ (by omega)
  have hK1 := (Keep.alloc [] w (.cells #[.int .i64 0, .int .i64 0, .int .i64 0, .bool false] 68)).trans (Keep.alloc [] (w.alloc (.cells #[.int .i64 0, .int .i64 0, .int .i64 0, .bool false] 68)) (.cells #[.int .i64 k, .int .i64 c, .int .i64 l, .bool f] 68))
  have hx1 := (Keep.alloc [] (w.alloc (.cells #[.int .i64 0, .int .i64 0, .int .i64 0, .bool false] 68)) (.cells #[.int .i64 k, .int .i64 c, .int .i64 l, .bool f] 68)).blk (heap_alloc_new w (.cells #[.int .i64 0, .int .i64 0, .int .i64 0, .bool false] 68)) (by simp)
  have hx2 := second_block w (.cells #[.int .i64 0, .int .i64 0, .int .i64 0, .bool false] 68) #[.int .i64 k, .int .i64 c, .int .i64 l, .bool f] 68
  clear hpb hm
  go_enter Tryz.func76, Tryz.ntmps76
  go_upto_region 2 with fail
  generalize (w.alloc (.cells #[.int .i64 0, .int .i64 0, .int .i64 0, .bool false] 68)).alloc (.cells #[.int .i64 k, .int .i64 c, .int .i64 l, .bool f] 68) = w2 at *
  clear ek ec el ef hp hcw hlw
  obtain ⟨bx, hbx⟩ : ∃ bx, w.heap.size = bx := ⟨_, rfl⟩
  rw [hbx] at hx1 hx2 ⊢
  obtain ⟨bz, hbz⟩ : ∃ b, bx + 1 = b := ⟨_, rfl⟩
  rw [hbz] at hx2 ⊢
  have HBX := (show Hid (w.heap.size = bx) from hbx)
  have hne : bx ≠ bz := by omega
  clear hbx hbz
  obtain ⟨c0, c1, c2, c3⟩ := four_cells hx2
  go_upto_region 3 with (first | (go_at_call 52; refine (hmay_any k c l f _).mono ?_; rw [HM.out]; rintro e w3 ⟨rfl, hK2⟩; have hx3 := hK2.blk hx1 (by simp); obtain ⟨d0, d1, d2, d3⟩ := four_cells hx3; obtain ⟨f0, f1, f2, f3⟩ := four_free hx3; have hx4 := hK2.blk hx2 (by simp); obtain ⟨g0, g1, g2, g3⟩ := four_cells hx4))
  go_wp2_with fail
  obtain ⟨z, hk4⟩ := four_put hx3 (.int .i64 0) (.int .i64 0) (.int .i64 0) (.bool false)
  refine bodyPost_ret (results_cell_tmp_row rfl _ _ bx 68 #[.int .i64 0, .int .i64 0, .int .i64 0, .bool false] (0, 0) _ rfl z Tryz.underlying68 rfl (by kernel_rfl)) rfl ?_
  refine ⟨rfl, (((hK1.trans hK2).mono (T := [bx]) (by simp)).trans hk4).drop ?_⟩
  have := HBX.out
  simp; omega

set_option maxRecDepth 100000 in
set_option maxHeartbeats 800000 in
theorem hget_raw_yes (x k c l : Int) (f : Bool) (w : World) (hx : -9223372036854775808 ≤ x ∧ x ≤ 9223372036854775807) (ek : wk x = k) (ec : wc x = c) (el : wl x = l) (ef : wf x = f) (hm : mayH k c l f = true) :
    Calls Tryz.prog 76 #[.int .i64 x] w fun e w' => e = .returned (.tuple #[.agg #[.int .i64 k, .int .i64 c, .int .i64 l, .bool f], .bool true]) ∧ Keep [] w w' := by
  unfold wk at ek
  unfold wc at ec
  unfold wl at el
  unfold wf at ef
  have HM := (show Hid (mayH k c l f = true) from hm)
  obtain ⟨p, hp⟩ : ∃ p, x.tmod 65536 = p := ⟨_, rfl⟩
  have hpb := tmod_bd x
  rw [hp] at ec hpb
  have hcb := tdiv16 p hpb
  rw [ec] at hcb
  have hcw : wrap64 c = c := IntWalk.wrap64_in _ (by omega)
  have hlb := tdiv_bd x hx
  rw [el] at hlb
  have hlw : wrap64 l = l := IntWalk.wrap64_in _ (by omega)
  have hK1 := (Keep.alloc [] w (.cells #[.int .i64 0, .int .i64 0, .int .i64 0, .bool false] 68)).trans (Keep.alloc [] (w.alloc (.cells #[.int .i64 0, .int .i64 0, .int .i64 0, .bool false] 68)) (.cells #[.int .i64 k, .int .i64 c, .int .i64 l, .bool f] 68))
  have hx1 := (Keep.alloc [] (w.alloc (.cells #[.int .i64 0, .int .i64 0, .int .i64 0, .bool false] 68)) (.cells #[.int .i64 k, .int .i64 c, .int .i64 l, .bool f] 68)).blk (heap_alloc_new w (.cells #[.int .i64 0, .int .i64 0, .int .i64 0, .bool false] 68)) (by simp)
  have hx2 := second_block w (.cells #[.int .i64 0, .int .i64 0, .int .i64 0, .bool false] 68) #[.int .i64 k, .int .i64 c, .int .i64 l, .bool f] 68
  clear hpb hm
  go_enter Tryz.func76, Tryz.ntmps76
  go_upto_region 2 with fail
  generalize (w.alloc (.cells #[.int .i64 0, .int .i64 0, .int .i64 0, .bool false] 68)).alloc (.cells #[.int .i64 k, .int .i64 c, .int .i64 l, .bool f] 68) = w2 at *
  clear ek ec el ef hp hcw hlw
  obtain ⟨bx, hbx⟩ : ∃ bx, w.heap.size = bx := ⟨_, rfl⟩
  rw [hbx] at hx1 hx2 ⊢
  obtain ⟨bz, hbz⟩ : ∃ b, bx + 1 = b := ⟨_, rfl⟩
  rw [hbz] at hx2 ⊢
  have HBX := (show Hid (w.heap.size = bx) from hbx)
  have hne : bx ≠ bz := by omega
  clear hbx hbz
  obtain ⟨c0, c1, c2, c3⟩ := four_cells hx2
  go_upto_region 4 with (first | (go_at_call 52; refine (hmay_any k c l f _).mono ?_; rw [HM.out]; rintro e w3 ⟨rfl, hK2⟩; have hx3 := hK2.blk hx1 (by simp); obtain ⟨d0, d1, d2, d3⟩ := four_cells hx3; obtain ⟨f0, f1, f2, f3⟩ := four_free hx3; have hx4 := hK2.blk hx2 (by simp); obtain ⟨g0, g1, g2, g3⟩ := four_cells hx4))
  go_wp2_with fail
  obtain ⟨z, hk4⟩ := four_put hx3 (.int .i64 k) (.int .i64 c) (.int .i64 l) (.bool f)
  refine bodyPost_ret (results_cell_tmp_row rfl _ _ bx 68 #[.int .i64 k, .int .i64 c, .int .i64 l, .bool f] (0, 0) _ rfl z Tryz.underlying68 rfl (by kernel_rfl)) rfl ?_
  refine ⟨rfl, (((hK1.trans hK2).mono (T := [bx]) (by simp)).trans hk4).drop ?_⟩
  have := HBX.out
  simp; omega


end Go.Proofs.YtgpidokklhjfdaaGreat
