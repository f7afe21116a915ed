/-
  What each call of package size does, and of the document's own.
-/
import Derived.Test.YtdpaffnpedcmpabRows
import Derived.Test.YtdpaffnpedcmpabBools
namespace Go.Proofs.Ytdpaffnpedcmpab
open Go.RowKit

def sizesL : List Int := [2, 4, 8, 16, 32]
def classI (n : Int) : Int := if n < 1 then -1 else if n ≤ 2 then 0 else if n ≤ 4 then 1 else if n ≤ 8 then 2 else if n ≤ 16 then 3 else if n ≤ 32 then 4 else -1
def pagesI (n : Int) : Int := if n < 33 then 0 else if n ≤ 1024 then (n + 63) / 64 else 0
def blockI (n : Int) : Int := if 0 ≤ classI n then sizesL[(classI n).toNat]?.getD 0 else pagesI n * 64

theorem sizesL_length : sizesL.length = 5 := rfl
theorem class_at (n : Int) (j : Nat) (hj : j < 5) (hn : 1 ≤ n) (h : ∀ t, t < j → sizesL[t]?.getD 0 < n) (hx : n ≤ sizesL[j]?.getD 0) : classI n = j := by
  unfold classI
  rcases (show j = 0 ∨ j = 1 ∨ j = 2 ∨ j = 3 ∨ j = 4 by omega) with rfl | rfl | rfl | rfl | rfl
  · simp [sizesL] at hx; split <;> omega
  · have := h 0 (by omega); simp [sizesL] at hx this; repeat' split
    all_goals omega
  · have := h 1 (by omega); simp [sizesL] at hx this; repeat' split
    all_goals omega
  · have := h 2 (by omega); simp [sizesL] at hx this; repeat' split
    all_goals omega
  · have := h 3 (by omega); simp [sizesL] at hx this; repeat' split
    all_goals omega
theorem class_none (n : Int) (h : ∀ t, t < 5 → sizesL[t]?.getD 0 < n) : classI n = -1 := by
  have := h 4 (by omega); simp [sizesL] at this
  unfold classI; repeat' split
  all_goals omega
theorem class_low (n : Int) (h : n < 1) : classI n = -1 := by unfold classI; rw [if_pos h]
theorem class_lt (n : Int) : classI n = -1 ∨ ∃ j : Nat, classI n = j ∧ j < 5 := by
  unfold classI; repeat' split
  all_goals first | exact .inl rfl | (right; first | exact ⟨0, rfl, by omega⟩ | exact ⟨1, rfl, by omega⟩ | exact ⟨2, rfl, by omega⟩ | exact ⟨3, rfl, by omega⟩ | exact ⟨4, rfl, by omega⟩)
theorem class_iff (n : Int) : 0 ≤ classI n ↔ 1 ≤ n ∧ n ≤ 32 := by
  unfold classI; repeat' split
  all_goals omega

set_option maxHeartbeats 400000 in
theorem sizes_any (w : World) :
    Calls Try.prog 58 #[] w fun e w' => ∃ g, e = .returned (.slice (some ⟨g, 0, none⟩) 5 5) ∧ Row w' 3 g sizesL ∧ Keep [] w w' ∧ w.heap.size ≤ g := by
  go_enter Try.func58, Try.ntmps58
  go_wp2
  go_ret
  exact ⟨_, rfl, heap_alloc_new _ _, Keep.alloc _ _ _, Nat.le_refl _⟩

set_option maxHeartbeats 400000 in
theorem class_any (n : Int) (w : World) :
    Calls Try.prog 57 #[.int .i64 n] w fun e w' => e = .returned (.int .i64 (classI n)) ∧ Keep [] w w' := by
  by_cases hn : n < 1
  · rw [class_low n hn]
    go_enter Try.func57, Try.ntmps57
    go_wp2
    go_ret
    exact ⟨rfl, Keep.refl _ _⟩
  · go_enter Try.func57, Try.ntmps57
    go_wp2_with (go_at_call 58; refine (sizes_any _).mono ?_; rintro e w1 ⟨g, rfl, hr, hK, hg⟩)
    have HR := (show Hid (∀ i : Nat, i < 5 → w1.cell? ⟨g, i, none⟩ = some (.int .i64 (sizesL[i]?.getD 0))) from fun i hi => hr.cell hi)
    go_loop [9] (fun i => ∃ j : Nat, i = .int .i64 j ∧ j ≤ 5 ∧ Hid (∀ t, t < j → sizesL[t]?.getD 0 < n)) (fun i => 5 - (intOf i).toNat)
    case atStart => exact ⟨0, rfl, by omega, show (∀ t, t < 0 → _) from fun t h => by omega⟩
    case round =>
      obtain ⟨j, rfl, hj, HJ⟩ := hrel
      by_cases hlt : j < 5
      · have hc := HR.out j hlt
        obtain ⟨x, hx⟩ : ∃ x, sizesL[j]?.getD 0 = x := ⟨_, rfl⟩
        rw [hx] at hc
        by_cases hv : n ≤ x
        · have HF := (show Hid (classI n = j) from class_at n j hlt (by omega) HJ.out (by omega))
          clear hx
          go_wp2
          go_ret
          exact ⟨by rw [HF.out]; rfl, hK⟩
        · have HF := (show Hid (∀ t, t < j + 1 → sizesL[t]?.getD 0 < n) from fun t ht => by
            by_cases e : t = j
            · subst e; omega
            · exact HJ.out t (by omega))
          clear hx
          go_wp2
          go_round
          case rel => exact ⟨j + 1, by go_num, by omega, HF⟩
          case measure => simp [intOf]; omega
      · obtain rfl : j = 5 := by omega
        have HF := (show Hid (classI n = -1) from class_none n HJ.out)
        go_wp2
        go_ret
        exact ⟨by rw [HF.out]; rfl, hK⟩

theorem pages_low (n : Int) (h : n < 1) : pagesI n = 0 := by unfold pagesI; rw [if_pos (by omega)]
theorem pages_high (n : Int) (h : 1024 < n) : pagesI n = 0 := by unfold pagesI; rw [if_neg (by omega), if_neg (by omega)]
theorem pages_class (n : Int) (h : n ≤ 32) : pagesI n = 0 := by unfold pagesI; rw [if_pos (by omega)]
theorem pages_mid (n : Int) (h : 33 ≤ n) (h2 : n ≤ 1024) : pagesI n = (n + 63) / 64 := by unfold pagesI; rw [if_neg (by omega), if_pos h2]
theorem pages_le (n : Int) : 0 ≤ pagesI n ∧ pagesI n ≤ 16 := by
  unfold pagesI; repeat' split
  all_goals omega
theorem block_class (n : Int) (j : Nat) (h : classI n = j) : blockI n = sizesL[j]?.getD 0 := by unfold blockI; rw [h, if_pos (by omega)]; rfl
theorem block_none (n : Int) (h : classI n = -1) : blockI n = pagesI n * 64 := by unfold blockI; rw [h, if_neg (by omega)]
theorem sizes_le (j : Nat) : 0 ≤ sizesL[j]?.getD 0 ∧ sizesL[j]?.getD 0 ≤ 32 := by
  rcases (show j = 0 ∨ j = 1 ∨ j = 2 ∨ j = 3 ∨ j = 4 ∨ 5 ≤ j by omega) with rfl | rfl | rfl | rfl | rfl | h
  all_goals first | (simp [sizesL]; done) | (rw [List.getElem?_eq_none (by rw [sizesL_length]; exact h)]; simp)
theorem block_le (n : Int) : 0 ≤ blockI n ∧ blockI n ≤ 1024 := by
  rcases class_lt n with h | ⟨j, h, _⟩
  · rw [block_none n h]; have := pages_le n; omega
  · rw [block_class n j h]; have := sizes_le j; omega

set_option maxHeartbeats 400000 in
theorem pages_any (n : Int) (w : World) :
    Calls Try.prog 59 #[.int .i64 n] w fun e w' => e = .returned (.int .i64 (pagesI n)) ∧ Keep [] w w' := by
  by_cases h1 : n < 1
  · rw [pages_low n h1]
    go_enter Try.func59, Try.ntmps59
    go_wp2
    go_ret
    exact ⟨rfl, Keep.refl _ _⟩
  · by_cases h2 : 1024 < n
    · rw [pages_high n h2]
      go_enter Try.func59, Try.ntmps59
      go_wp2
      go_ret
      exact ⟨rfl, Keep.refl _ _⟩
    · by_cases h3 : n ≤ 32
      · have hc := (class_iff n).2 ⟨by omega, h3⟩
        rw [pages_class n h3]
        go_enter Try.func59, Try.ntmps59
        go_wp2_with (go_at_call 57; refine (class_any _ _).mono ?_; rintro e w1 ⟨rfl, hK⟩)
        go_ret
        exact ⟨rfl, hK⟩
      · have hc := class_none n (fun t _ => by have := sizes_le t; omega)
        rw [pages_mid n (by omega) (by omega)]
        go_enter Try.func59, Try.ntmps59
        go_wp2_with (go_at_call 57; refine (class_any _ _).mono ?_; rw [hc]; rintro e w1 ⟨rfl, hK⟩)
        go_ret
        refine ⟨?_, hK⟩
        go_num

set_option maxHeartbeats 400000 in
theorem block_any (n : Int) (w : World) :
    Calls Try.prog 42 #[.int .i64 n] w fun e w' => e = .returned (.int .i64 (blockI n)) ∧ Keep [] w w' := by
  rcases class_lt n with hc | ⟨j, hc, hj⟩
  · rw [block_none n hc]
    have hp := pages_le n
    go_enter Try.func42, Try.ntmps42
    go_wp2_with (first | (go_at_call 57; refine (class_any _ _).mono ?_; rw [hc]; rintro e w1 ⟨rfl, hK⟩) | (go_at_call 59; refine (pages_any _ _).mono ?_; rintro e w2 ⟨rfl, hK2⟩))
    go_ret
    exact ⟨by go_num, hK.trans hK2⟩
  · rw [block_class n j hc]
    go_enter Try.func42, Try.ntmps42
    go_wp2_with (first | (go_at_call 57; refine (class_any _ _).mono ?_; rw [hc]; rintro e w1 ⟨rfl, hK⟩) | (go_at_call 58; refine (sizes_any _).mono ?_; rintro e w2 ⟨g, rfl, hr, hK2, hg⟩; have hx := hr.cell (i := j) hj))
    go_ret
    exact ⟨rfl, hK.trans hK2⟩

/-- The blocks of a list, together. -/
def sumB (L : List Int) : Int := (L.map blockI).sum
theorem sumB_nil : sumB [] = 0 := rfl
theorem sumB_app (L M : List Int) : sumB (L ++ M) = sumB L + sumB M := by simp [sumB]
theorem sumB_snoc (L : List Int) (x : Int) : sumB (L ++ [x]) = sumB L + blockI x := by simp [sumB]
theorem take_snoc (L : List Int) (j : Nat) (h : j < L.length) : L.take (j + 1) = L.take j ++ [L[j]?.getD 0] := by
  rw [List.take_add_one]; simp [h]
theorem sumB_le (L : List Int) : 0 ≤ sumB L ∧ sumB L ≤ 1024 * L.length := by
  induction L with
  | nil => simp [sumB]
  | cons x L ih => have := block_le x; simp [sumB] at *; omega

end Go.Proofs.Ytdpaffnpedcmpab
