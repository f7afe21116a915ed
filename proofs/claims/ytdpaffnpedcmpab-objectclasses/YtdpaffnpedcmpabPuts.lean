/-
  Plain facts on places side by side: the list of their numbers, what is left once they are set, whether all are so. They speak of no program.
-/
import Derived.Test.YtdpaffnpedcmpabBools
namespace Go.Proofs.Ytdpaffnpedcmpab
open Go.RowKit

/-- The numbers of k places from a on. -/
def rowL (a k : Nat) : List Int := (List.range k).map (fun i => ((a + i : Nat) : Int))
theorem rowL_length (a k : Nat) : (rowL a k).length = k := by simp [rowL]
theorem rowL_get (a k i : Nat) (h : i < k) : (rowL a k)[i]?.getD 0 = ((a + i : Nat) : Int) := by simp [rowL, h]
theorem rowL_mem (a k t : Nat) : (t : Int) ∈ rowL a k ↔ a ≤ t ∧ t < a + k := by
  unfold rowL
  rw [List.mem_map]
  constructor
  · rintro ⟨i, hi, e⟩
    have := List.mem_range.1 hi
    omega
  · intro h
    exact ⟨t - a, List.mem_range.2 (by omega), by omega⟩
theorem rowL_fits (a k n : Nat) (h : a + k ≤ n) : ∀ i ∈ rowL a k, 0 ≤ i ∧ i < (n : Int) := by
  intro i hi
  unfold rowL at hi
  obtain ⟨j, hj, rfl⟩ := List.mem_map.1 hi
  have := List.mem_range.1 hj
  omega
theorem rowL_fitsB (a k n : Nat) (h : a + k ≤ n) : fitsB n (rowL a k) = true := (fitsB_iff n _).2 (rowL_fits a k n h)

/-- k places from a on are set to v. -/
def putR (xs : List Bool) (a k : Nat) (v : Bool) : List Bool := setAll xs v (rowL a k)
theorem putR_length (xs : List Bool) (a k : Nat) (v : Bool) : (putR xs a k v).length = xs.length := setAll_length _ _ _
theorem putR_get (xs : List Bool) (a k : Nat) (v : Bool) (h : a + k ≤ xs.length) (t : Nat) :
    (putR xs a k v)[t]?.getD false = if a ≤ t ∧ t < a + k then v else xs[t]?.getD false := by
  unfold putR
  rw [setAll_get _ _ _ (rowL_fits a k _ h)]
  by_cases hm : a ≤ t ∧ t < a + k
  · rw [if_pos hm, if_pos ((rowL_mem a k t).2 hm)]
  · rw [if_neg hm, if_neg (fun e => hm ((rowL_mem a k t).1 e))]
theorem putR_in (xs : List Bool) (a k : Nat) (v : Bool) (h : a + k ≤ xs.length) (t : Nat) (h1 : a ≤ t) (h2 : t < a + k) : (putR xs a k v)[t]?.getD false = v := by
  rw [putR_get xs a k v h, if_pos ⟨h1, h2⟩]
theorem putR_out (xs : List Bool) (a k : Nat) (v : Bool) (h : a + k ≤ xs.length) (t : Nat) (h1 : t < a ∨ a + k ≤ t) : (putR xs a k v)[t]?.getD false = xs[t]?.getD false := by
  rw [putR_get xs a k v h, if_neg (by omega)]
theorem putR_zero (xs : List Bool) (a : Nat) (v : Bool) : putR xs a 0 v = xs := rfl
theorem rowL_succ (a k : Nat) : rowL a (k + 1) = rowL a k ++ [((a + k : Nat) : Int)] := by
  unfold rowL; rw [List.range_succ, List.map_append]; rfl
theorem putR_succ (xs : List Bool) (a k : Nat) (v : Bool) : putR xs a (k + 1) v = (putR xs a k v).set (a + k) v := by
  unfold putR setAll
  rw [rowL_succ, List.foldl_append]
  simp only [List.foldl_cons, List.foldl_nil, Int.toNat_natCast]
theorem putR_one (xs : List Bool) (a : Nat) (v : Bool) : putR xs a 1 v = xs.set a v := by
  rw [putR_succ, putR_zero]; rfl

/-- k places from a on are there, and all of them are so. -/
def Full (xs : List Bool) (a k : Nat) : Prop := ∀ t, a ≤ t → t < a + k → t < xs.length ∧ xs[t]?.getD false = true
def fullB (xs : List Bool) (a k : Nat) : Bool := decide (a + k ≤ xs.length) && ((xs.drop a).take k).all (fun x => x)
theorem fullB_iff (xs : List Bool) (a k : Nat) (hk : 1 ≤ k) : fullB xs a k = true ↔ Full xs a k := by
  unfold fullB Full
  simp only [Bool.and_eq_true, decide_eq_true_eq, List.all_eq_true]
  constructor
  · rintro ⟨h1, h2⟩ t p q
    have hm : xs[t]?.getD false ∈ (xs.drop a).take k := by
      apply List.mem_iff_getElem?.2
      refine ⟨t - a, ?_⟩
      rw [List.getElem?_take, if_pos (by omega), List.getElem?_drop, show a + (t - a) = t by omega]
      simp [show t < xs.length by omega]
    exact ⟨by omega, h2 _ hm⟩
  · intro h2
    have hl : a + k ≤ xs.length := by have := (h2 (a + k - 1) (by omega) (by omega)).1; omega
    refine ⟨hl, fun x hx => ?_⟩
    obtain ⟨j, hj⟩ := List.mem_iff_getElem?.1 hx
    rw [List.getElem?_take] at hj
    split at hj
    · rw [List.getElem?_drop] at hj
      have := (h2 (a + j) (by omega) (by omega)).2
      rw [hj] at this; simpa using this
    · cases hj
theorem fullB_len (xs : List Bool) (a k : Nat) (h : fullB xs a k = true) : a + k ≤ xs.length := by
  unfold fullB at h; rw [Bool.and_eq_true, decide_eq_true_eq] at h; exact h.1
theorem fullB_no (xs : List Bool) (a k t : Nat) (h1 : a ≤ t) (h2 : t < a + k) (h : xs.length ≤ t ∨ xs[t]?.getD false = false) : fullB xs a k = false := by
  cases hf : fullB xs a k
  · rfl
  · have := (fullB_iff xs a k (by omega)).1 hf t h1 h2
    rcases h with h | h
    · omega
    · rw [h] at this; cases this.2

/-- What Take and Give leave, and what they answer, whatever they are given. -/
def takeP (xs : List Bool) (k : Int) : Int := if k < 1 then -1 else runR xs 0 k.toNat
def takeN (xs : List Bool) (k : Int) : Int := if takeP xs k < 0 then 0 else takeP xs k
def takeE (xs : List Bool) (k : Int) : Int := if k < 1 then 1 else if takeP xs k < 0 then 3 else 0
def takeR (xs : List Bool) (k : Int) : List Bool := if takeP xs k < 0 then xs else putR xs (takeP xs k).toNat k.toNat true
def giveE (xs : List Bool) (a k : Int) : Int := if k < 1 ∨ a < 1 then 1 else if fullB xs a.toNat k.toNat = true then 0 else 2
def giveR (xs : List Bool) (a k : Int) : List Bool := if k < 1 ∨ a < 1 then xs else if fullB xs a.toNat k.toNat = true then putR xs a.toNat k.toNat false else xs
theorem takeR_length (xs : List Bool) (k : Int) : (takeR xs k).length = xs.length := by
  unfold takeR; split
  · rfl
  · exact putR_length _ _ _ _
theorem giveR_length (xs : List Bool) (a k : Int) : (giveR xs a k).length = xs.length := by
  unfold giveR; split
  · rfl
  · split
    · exact putR_length _ _ _ _
    · rfl
theorem take_low (xs : List Bool) (k : Int) (h : k < 1) : takeN xs k = 0 ∧ takeE xs k = 1 ∧ takeR xs k = xs := by
  have e : takeP xs k = -1 := by unfold takeP; rw [if_pos h]
  refine ⟨?_, ?_, ?_⟩
  · unfold takeN; rw [e]; rfl
  · unfold takeE; rw [if_pos h]
  · unfold takeR; rw [e]; rfl
theorem take_no (xs : List Bool) (k : Nat) (hk : 1 ≤ k) (h : runR xs 0 k = -1) : takeN xs k = 0 ∧ takeE xs k = 3 ∧ takeR xs k = xs := by
  have e : takeP xs k = -1 := by unfold takeP; rw [if_neg (by omega), Int.toNat_natCast]; exact h
  refine ⟨?_, ?_, ?_⟩
  · unfold takeN; rw [e]; rfl
  · unfold takeE; rw [e, if_neg (by omega)]; rfl
  · unfold takeR; rw [e]; rfl
theorem take_yes (xs : List Bool) (k p : Nat) (hk : 1 ≤ k) (h : runR xs 0 k = p) : takeN xs k = p ∧ takeE xs k = 0 ∧ takeR xs k = putR xs p k true := by
  have e : takeP xs k = p := by unfold takeP; rw [if_neg (by omega), Int.toNat_natCast]; exact h
  refine ⟨?_, ?_, ?_⟩
  · unfold takeN; rw [e, if_neg (by omega)]
  · unfold takeE; rw [e, if_neg (by omega), if_neg (by omega)]
  · unfold takeR; rw [e, if_neg (by omega), Int.toNat_natCast, Int.toNat_natCast]
theorem give_arg (xs : List Bool) (a k : Int) (h : k < 1 ∨ a < 1) : giveE xs a k = 1 ∧ giveR xs a k = xs := by
  unfold giveE giveR; rw [if_pos h, if_pos h]; exact ⟨rfl, rfl⟩
theorem give_no (xs : List Bool) (a k : Nat) (h1 : 1 ≤ a) (h2 : 1 ≤ k) (h : fullB xs a k = false) : giveE xs a k = 2 ∧ giveR xs a k = xs := by
  unfold giveE giveR; simp only [Int.toNat_natCast]; simp only [if_neg (show ¬ ((k : Int) < 1 ∨ (a : Int) < 1) by omega), h]; exact ⟨rfl, rfl⟩
theorem give_yes (xs : List Bool) (a k : Nat) (h1 : 1 ≤ a) (h2 : 1 ≤ k) (h : fullB xs a k = true) : giveE xs a k = 0 ∧ giveR xs a k = putR xs a k false := by
  unfold giveE giveR; simp only [Int.toNat_natCast]; simp only [if_neg (show ¬ ((k : Int) < 1 ∨ (a : Int) < 1) by omega), h]; exact ⟨rfl, rfl⟩

/-- How many are so, once places that were not are, or that were are not. -/
theorem cntA_off (xs : List Bool) (k : Nat) (h : k < xs.length) : cntA (xs.set k false) = cntA xs - if xs[k]?.getD false = true then 1 else 0 := by
  unfold cntA cnt
  rw [List.length_set, List.take_of_length_le (by simp), List.take_of_length_le (Nat.le_refl _), List.countP_set h]
  by_cases e : xs[k] = true
  · simp [h, e]
  · simp [h, e]
theorem cntA_pos (xs : List Bool) (k : Nat) (h : k < xs.length) (hk : xs[k]?.getD false = true) : 1 ≤ cntA xs := by
  unfold cntA cnt
  rw [List.take_of_length_le (Nat.le_refl _)]
  have e : xs[k] = true := by simpa [h] using hk
  exact List.countP_pos_iff.2 ⟨xs[k], List.getElem_mem .., e⟩
theorem cntA_le (xs : List Bool) : cntA xs ≤ xs.length := cnt_le _ _
theorem cntA_put (xs : List Bool) (a k : Nat) (h : Clear xs a k) : cntA (putR xs a k true) = cntA xs + k := by
  induction k with
  | zero => rfl
  | succ k ih =>
    have h1 := h.1
    have e1 := ih ⟨by omega, fun t p q => h.2 t p (by omega)⟩
    have e2 := putR_out xs a k true (by omega) (a + k) (by omega)
    rw [h.2 (a + k) (by omega) (by omega)] at e2
    rw [putR_succ, cntA_set _ _ (by rw [putR_length]; omega), e1, e2, if_neg (by simp)]
    omega
theorem cntA_take (xs : List Bool) (a k : Nat) (hk : 1 ≤ k) (h : fullB xs a k = true) : cntA (putR xs a k false) + k = cntA xs := by
  have hf := (fullB_iff xs a k hk).1 h
  clear h
  induction k with
  | zero => omega
  | succ k ih =>
    have e0 := hf (a + k) (by omega) (by omega)
    rcases Nat.eq_zero_or_pos k with rfl | hk0
    · have e4 : a < xs.length ∧ xs[a]?.getD false = true := e0
      have := cntA_pos xs a e4.1 e4.2
      rw [putR_one, cntA_off _ _ e4.1, if_pos e4.2]; omega
    · have e1 := ih hk0 (fun t p q => hf t p (by omega))
      have e2 := putR_out xs a k false (by omega) (a + k) (by omega)
      have e3 := cntA_pos (putR xs a k false) (a + k) (by rw [putR_length]; exact e0.1) (by rw [e2]; exact e0.2)
      rw [putR_succ, cntA_off _ _ (by rw [putR_length]; exact e0.1), e2, if_pos e0.2]
      omega

end Go.Proofs.Ytdpaffnpedcmpab
