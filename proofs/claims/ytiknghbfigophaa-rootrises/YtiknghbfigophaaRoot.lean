/-
  Package root: what Place, Root and Roots answer and leave, over roots in memory: one block of 16 numbers.
-/
import Derived.Test.YtiknghbfigophaaSorts
namespace Go.Proofs.Ytiknghbfigophaa
open Go.RowKit

/-- Block b is roots: place i is xs i. -/
structure IsRoot (w : World) (b : Nat) (xs : List Int) : Prop where
  row : Row w 42 b xs
  len : xs.length = 16
  bd : ∀ i : Nat, 0 ≤ xs[i]?.getD 0 ∧ xs[i]?.getD 0 ≤ 9223372036854775807
theorem IsRoot.lt {w : World} {b : Nat} {xs : List Int} (h : IsRoot w b xs) : b < w.heap.size := h.row.lt
theorem IsRoot.keep {S : List Nat} {w w' : World} {b : Nat} {xs : List Int} (h : IsRoot w b xs) (k : Keep S w w') (hS : b ∉ S) : IsRoot w' b xs := ⟨h.row.keep k hS, h.len, h.bd⟩
theorem IsRoot.put {w : World} {b : Nat} {xs : List Int} (h : IsRoot w b xs) (i : Nat) (hi : i < 16) (x : Int) (h0 : 0 ≤ x) (h1 : x ≤ 9223372036854775807) : IsRoot (w.setCell ⟨b, i, none⟩ (.int .i64 x)) b (xs.set i x) := by
  refine ⟨h.row.put i x, by rw [List.length_set]; exact h.len, fun j => ?_⟩
  by_cases e : i = j
  · subst e; rw [set_get_same _ _ _ (by rw [h.len]; exact hi)]; exact ⟨h0, h1⟩
  · rw [set_get_other _ _ _ _ e]; exact h.bd j

theorem info_roots : (Try.prog.info? 42).map (fun i => (i.zero, i.size, i.bytes)) = some (some (.agg (ints (zeros 16)).toArray), 16, 128) := by kernel_rfl
theorem zero_roots : (∀ w, (zeroValue 42).run Try.prog w = .ok (.agg (ints (zeros 16)).toArray) w) ∧ (Try.prog.info? 42).map (·.size) = some 16 := by
  obtain ⟨i, hi, hz, hs, hb⟩ := info_parts info_roots
  exact ⟨fun w => by simp [zeroValue, typeInfo, hi, hz], by simp [hi, hs]⟩

set_option maxHeartbeats 1600000 in
theorem onew_any (w : World) :
    Calls Try.prog 7 #[] w fun e w' => ∃ b, e = .returned (.pointer (some ⟨b, 0, none⟩)) ∧ IsRoot w' b (zeros 16) ∧ Keep [] w w' ∧ w.heap.size ≤ b := by
  obtain ⟨hz, hs⟩ := zero_roots
  obtain ⟨zs, hzs⟩ : ∃ zs, (ints (zeros 16)).toArray = zs := ⟨_, rfl⟩
  have hn : ¬ zs = #[] := by rw [← hzs]; intro e; have := congrArg Array.size e; simp [ints_length, zeros_length] at this
  have hzn : zs.size = 16 := by rw [← hzs]; simp [ints_length, zeros_length]
  rw [hzs] at hz
  have HZ := (show Hid (zs = (ints (zeros 16)).toArray) from hzs.symm)
  clear hzs
  go_enter Try.func7, Try.ntmps7
  go_wp2
  go_ret
  have hk := heap_alloc_new w (.cells zs 42)
  rw [HZ.out] at hk
  refine ⟨_, rfl, ⟨?_, zeros_length _, fun i => by rw [zeros_get]; omega⟩, Keep.alloc _ _ _, Nat.le_refl _⟩
  rw [HZ.out]; exact hk

set_option maxHeartbeats 1600000 in
theorem ohas_nil (i : Int) (w : World) :
    Calls Try.prog 16 #[.pointer none, .int .i64 i] w fun e w' => e = .returned (.bool false) ∧ w = w' := by
  go_enter Try.func16, Try.ntmps16
  go_wp2
  go_ret
  exact ⟨rfl, rfl⟩
set_option maxHeartbeats 1600000 in
theorem ohas_any (b : Nat) (i : Int) (w : World) :
    Calls Try.prog 16 #[.pointer (some ⟨b, 0, none⟩), .int .i64 i] w fun e w' => e = .returned (.bool (decide (0 ≤ i ∧ i < 16))) ∧ w = w' := by
  by_cases h0 : 0 ≤ i
  · have hd0 : decide (0 ≤ i) = true := by rw [decide_eq_true_iff]; exact h0
    have e : decide (0 ≤ i ∧ i < 16) = decide (i < 16) := by simp [h0]
    rw [e]
    clear e
    go_enter Try.func16, Try.ntmps16
    go_wp2
    all_goals go_ret
    all_goals exact ⟨rfl, rfl⟩
  · have hd0 : decide (0 ≤ i) = false := by rw [decide_eq_false_iff_not]; exact h0
    have e : decide (0 ≤ i ∧ i < 16) = false := by simp [h0]
    rw [e]
    clear e
    go_enter Try.func16, Try.ntmps16
    go_wp2
    go_ret
    exact ⟨rfl, rfl⟩

set_option maxHeartbeats 1600000 in
theorem oplace_nil (i x : Int) (w : World) :
    Calls Try.prog 9 #[.pointer none, .int .i64 i, .int .i64 x] w fun e w' => e = .returned (.int .i64 1) ∧ w = w' := by
  go_enter Try.func9, Try.ntmps9
  go_wp2_with (first | (go_at_call 16; refine (ohas_nil i _).mono ?_; rintro e w' ⟨rfl, rfl⟩))
  go_ret
  exact ⟨rfl, rfl⟩
set_option maxHeartbeats 1600000 in
theorem oroot_nil (i : Int) (w : World) :
    Calls Try.prog 10 #[.pointer none, .int .i64 i] w fun e w' => e = .returned (.tuple #[.int .i64 0, .int .i64 1]) ∧ w = w' := by
  go_enter Try.func10, Try.ntmps10
  go_wp2_with (first | (go_at_call 16; refine (ohas_nil i _).mono ?_; rintro e w' ⟨rfl, rfl⟩))
  go_ret2
  exact ⟨rfl, rfl⟩
set_option maxHeartbeats 1600000 in
theorem oroots_nil (w : World) :
    Calls Try.prog 11 #[.pointer none] w fun e w' => e = .returned (.slice none 0 0) ∧ w = w' := by
  go_enter Try.func11, Try.ntmps11
  go_wp2
  go_ret
  exact ⟨rfl, rfl⟩

/-- What Place answers and leaves. -/
def PlaceT (xs : List Int) (i x : Int) (r : Int) (ys : List Int) : Prop :=
  ¬ (0 ≤ i ∧ i < 16 ∧ 0 ≤ x) ∧ r = 1 ∧ ys = xs ∨ ∃ k : Nat, k < 16 ∧ i = k ∧ 0 ≤ x ∧ r = 0 ∧ ys = xs.set k x

set_option maxHeartbeats 1600000 in
theorem oplace (b : Nat) (i x r : Int) (xs ys : List Int) (w : World) (h : IsRoot w b xs) (hx : x ≤ 9223372036854775807) (hp : PlaceT xs i x r ys) :
    Calls Try.prog 9 #[.pointer (some ⟨b, 0, none⟩), .int .i64 i, .int .i64 x] w fun e w' => e = .returned (.int .i64 r) ∧ IsRoot w' b ys ∧ Keep [b] w w' := by
  rcases hp with ⟨hno, rfl, rfl⟩ | ⟨k, hk, rfl, h0, rfl, rfl⟩
  · have HH := (show Hid (IsRoot w b ys) from h)
    by_cases hi : 0 ≤ i ∧ i < 16
    · have hd : decide (0 ≤ i ∧ i < 16) = true := by rw [decide_eq_true_iff]; exact hi
      have hd2 : decide (x < 0) = true := by rw [decide_eq_true_iff]; omega
      clear h
      go_enter Try.func9, Try.ntmps9
      go_wp2_with (first | (go_at_call 16; refine (ohas_any b i _).mono ?_; rw [hd]; rintro e w' ⟨rfl, rfl⟩))
      go_ret
      exact ⟨rfl, HH.out, Keep.refl _ _⟩
    · have hd : decide (0 ≤ i ∧ i < 16) = false := by rw [decide_eq_false_iff_not]; exact hi
      clear h
      go_enter Try.func9, Try.ntmps9
      go_wp2_with (first | (go_at_call 16; refine (ohas_any b i _).mono ?_; rw [hd]; rintro e w' ⟨rfl, rfl⟩))
      go_ret
      exact ⟨rfl, HH.out, Keep.refl _ _⟩
  · have hd : decide ((0 : Int) ≤ k ∧ (k : Int) < 16) = true := by rw [decide_eq_true_iff]; omega
    have hd2 : decide (x < 0) = false := by rw [decide_eq_false_iff_not]; omega
    have hc := h.row.cell (i := k) (by rw [h.len]; exact hk)
    have hf := h.row.free k
    have HH := (show Hid (IsRoot w b xs) from h)
    have hb0 : (0 : Int) ≤ k := by omega
    have hb1 : (k : Int) < 16 := by omega
    clear h
    go_enter Try.func9, Try.ntmps9
    go_wp2_with (first | (go_at_call 16; refine (ohas_any b k _).mono ?_; rw [hd]; rintro e w' ⟨rfl, rfl⟩))
    go_ret
    exact ⟨rfl, HH.out.put k hk x h0 hx, Keep.setCell _ _ (by simp)⟩

/-- What Root answers. -/
def RootT (xs : List Int) (i : Int) (r e : Int) : Prop :=
  ¬ (0 ≤ i ∧ i < 16) ∧ r = 0 ∧ e = 1 ∨ ∃ k : Nat, k < 16 ∧ i = k ∧ r = xs[k]?.getD 0 ∧ e = 0
set_option maxHeartbeats 1600000 in
theorem oroot (b : Nat) (i r er : Int) (xs : List Int) (w : World) (h : IsRoot w b xs) (hp : RootT xs i r er) :
    Calls Try.prog 10 #[.pointer (some ⟨b, 0, none⟩), .int .i64 i] w fun e w' => e = .returned (.tuple #[.int .i64 r, .int .i64 er]) ∧ w = w' := by
  rcases hp with ⟨hno, rfl, rfl⟩ | ⟨k, hk, rfl, rfl, rfl⟩
  · have hd : decide (0 ≤ i ∧ i < 16) = false := by rw [decide_eq_false_iff_not]; exact hno
    clear h
    go_enter Try.func10, Try.ntmps10
    go_wp2_with (first | (go_at_call 16; refine (ohas_any b i _).mono ?_; rw [hd]; rintro e w' ⟨rfl, rfl⟩))
    go_ret2
    exact ⟨rfl, rfl⟩
  · have hd : decide ((0 : Int) ≤ k ∧ (k : Int) < 16) = true := by rw [decide_eq_true_iff]; omega
    have hc := h.row.cell (i := k) (by rw [h.len]; exact hk)
    have hb0 : (0 : Int) ≤ k := by omega
    have hb1 : (k : Int) < 16 := by omega
    clear h
    generalize xs[k]?.getD 0 = x at *
    go_enter Try.func10, Try.ntmps10
    go_wp2_with (first | (go_at_call 16; refine (ohas_any b k _).mono ?_; rw [hd]; rintro e w' ⟨rfl, rfl⟩))
    go_ret2
    exact ⟨rfl, rfl⟩

set_option maxHeartbeats 1600000 in
theorem oroots (b : Nat) (xs : List Int) (w : World) (h : IsRoot w b xs) :
    Calls Try.prog 11 #[.pointer (some ⟨b, 0, none⟩)] w fun e w' => ∃ v, e = .returned v ∧ w'.ownsRow w.heap.size 3 1 v 16 (ints xs) ∧ Keep [] w w' := by
  have HH := (show Hid (IsRoot w b xs) from h)
  clear h
  go_enter Try.func11, Try.ntmps11
  go_wp2_with (first | (go_at_call 17; refine (sclone (n := 16) b 16 _ (fun j hj => HH.out.row.cell (by rw [HH.out.len]; exact hj)) HH.out.len (by omega)).mono ?_; rintro e w1 ⟨v, rfl, hO, hK⟩))
  go_ret
  exact ⟨v, rfl, hO, hK⟩

end Go.Proofs.Ytiknghbfigophaa
