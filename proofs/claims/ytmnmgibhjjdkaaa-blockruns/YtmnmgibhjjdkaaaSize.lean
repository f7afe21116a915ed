/-
  What each call of package size does, and of the document's own.
-/
import Derived.Test.YtmnmgibhjjdkaaaRows
import Derived.Test.YtmnmgibhjjdkaaaBools
namespace Go.Proofs.Ytmnmgibhjjdkaaa
open Go.RowKit

def sizesL : List Int := [2, 4, 8, 16, 32]
def classI (n : Int) : Int := if n < 1 then -1 else if n ≤ 2 then 0 else if n ≤ 4 then 1 else if n ≤ 8 then 2 else if n ≤ 16 then 3 else if n ≤ 32 then 4 else -1
def pagesI (n : Int) : Int := if n < 33 then 0 else if n ≤ 1024 then (n + 63) / 64 else 0
def blockI (n : Int) : Int := if 0 ≤ classI n then sizesL[(classI n).toNat]?.getD 0 else pagesI n * 64

theorem sizesL_length : sizesL.length = 5 := rfl
theorem class_at (n : Int) (j : Nat) (hj : j < 5) (hn : 1 ≤ n) (h : ∀ t, t < j → sizesL[t]?.getD 0 < n) (hx : n ≤ sizesL[j]?.getD 0) : classI n = j := by
  unfold classI
  rcases (show j = 0 ∨ j = 1 ∨ j = 2 ∨ j = 3 ∨ j = 4 by omega) with rfl | rfl | rfl | rfl | rfl
  · simp [sizesL] at hx; split <;> omega
  · have := h 0 (by omega); simp [sizesL] at hx this; repeat' split
    all_goals omega
  · have := h 1 (by omega); simp [sizesL] at hx this; repeat' split
    all_goals omega
  · have := h 2 (by omega); simp [sizesL] at hx this; repeat' split
    all_goals omega
  · have := h 3 (by omega); simp [sizesL] at hx this; repeat' split
    all_goals omega
theorem class_none (n : Int) (h : ∀ t, t < 5 → sizesL[t]?.getD 0 < n) : classI n = -1 := by
  have := h 4 (by omega); simp [sizesL] at this
  unfold classI; repeat' split
  all_goals omega
theorem class_low (n : Int) (h : n < 1) : classI n = -1 := by unfold classI; rw [if_pos h]
theorem class_lt (n : Int) : classI n = -1 ∨ ∃ j : Nat, classI n = j ∧ j < 5 := by
  unfold classI; repeat' split
  all_goals first | exact .inl rfl | (right; first | exact ⟨0, rfl, by omega⟩ | exact ⟨1, rfl, by omega⟩ | exact ⟨2, rfl, by omega⟩ | exact ⟨3, rfl, by omega⟩ | exact ⟨4, rfl, by omega⟩)
theorem class_iff (n : Int) : 0 ≤ classI n ↔ 1 ≤ n ∧ n ≤ 32 := by
  unfold classI; repeat' split
  all_goals omega

set_option maxHeartbeats 400000 in
theorem sizes_any (w : World) :
    Calls Try.prog 22 #[] w fun e w' => ∃ g, e = .returned (.slice (some ⟨g, 0, none⟩) 5 5) ∧ Row w' 3 g sizesL ∧ Keep [] w w' ∧ w.heap.size ≤ g := by
  go_enter Try.func22, Try.ntmps22
  go_wp2
  go_ret
  exact ⟨_, rfl, heap_alloc_new _ _, Keep.alloc _ _ _, Nat.le_refl _⟩

theorem pages_low (n : Int) (h : n < 1) : pagesI n = 0 := by unfold pagesI; rw [if_pos (by omega)]
theorem pages_high (n : Int) (h : 1024 < n) : pagesI n = 0 := by unfold pagesI; rw [if_neg (by omega), if_neg (by omega)]
theorem pages_class (n : Int) (h : n ≤ 32) : pagesI n = 0 := by unfold pagesI; rw [if_pos (by omega)]
theorem pages_mid (n : Int) (h : 33 ≤ n) (h2 : n ≤ 1024) : pagesI n = (n + 63) / 64 := by unfold pagesI; rw [if_neg (by omega), if_pos h2]
theorem pages_le (n : Int) : 0 ≤ pagesI n ∧ pagesI n ≤ 16 := by
  unfold pagesI; repeat' split
  all_goals omega
theorem block_class (n : Int) (j : Nat) (h : classI n = j) : blockI n = sizesL[j]?.getD 0 := by unfold blockI; rw [h, if_pos (by omega)]; rfl
theorem block_none (n : Int) (h : classI n = -1) : blockI n = pagesI n * 64 := by unfold blockI; rw [h, if_neg (by omega)]
theorem sizes_le (j : Nat) : 0 ≤ sizesL[j]?.getD 0 ∧ sizesL[j]?.getD 0 ≤ 32 := by
  rcases (show j = 0 ∨ j = 1 ∨ j = 2 ∨ j = 3 ∨ j = 4 ∨ 5 ≤ j by omega) with rfl | rfl | rfl | rfl | rfl | h
  all_goals first | (simp [sizesL]; done) | (rw [List.getElem?_eq_none (by rw [sizesL_length]; exact h)]; simp)
theorem block_le (n : Int) : 0 ≤ blockI n ∧ blockI n ≤ 1024 := by
  rcases class_lt n with h | ⟨j, h, _⟩
  · rw [block_none n h]; have := pages_le n; omega
  · rw [block_class n j h]; have := sizes_le j; omega

/-- The blocks of a list, together. -/
def sumB (L : List Int) : Int := (L.map blockI).sum
theorem sumB_nil : sumB [] = 0 := rfl
theorem sumB_app (L M : List Int) : sumB (L ++ M) = sumB L + sumB M := by simp [sumB]
theorem sumB_snoc (L : List Int) (x : Int) : sumB (L ++ [x]) = sumB L + blockI x := by simp [sumB]
theorem take_snoc (L : List Int) (j : Nat) (h : j < L.length) : L.take (j + 1) = L.take j ++ [L[j]?.getD 0] := by
  rw [List.take_add_one]; simp [h]
theorem sumB_le (L : List Int) : 0 ≤ sumB L ∧ sumB L ≤ 1024 * L.length := by
  induction L with
  | nil => simp [sumB]
  | cons x L ih => have := block_le x; simp [sumB] at *; omega

set_option maxHeartbeats 400000 in
theorem rsizes_any (w : World) :
    Calls Try.prog 10 #[] w fun e w' => ∃ g, e = .returned (.slice (some ⟨g, 0, none⟩) 5 5) ∧ Row w' 3 g sizesL ∧ Keep [] w w' ∧ w.heap.size ≤ g := by
  go_enter Try.func10, Try.ntmps10
  go_wp2
  go_ret
  exact ⟨_, rfl, heap_alloc_new _ _, Keep.alloc _ _ _, Nat.le_refl _⟩

theorem pages_block (n : Int) : blockI n / 64 = pagesI n := by
  rcases class_lt n with hc | ⟨j, hc, hj⟩
  · rw [block_none n hc]; omega
  · have h := (class_iff n).1 (by rw [hc]; omega)
    rw [block_class n j hc, pages_class n h.2]
    have := sizes_le j; omega

end Go.Proofs.Ytmnmgibhjjdkaaa
