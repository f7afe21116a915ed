/-
  The plain mathematics of HandleOrder: of the first k slots some are dropped, then held again in order. It speaks of no program.
-/
import Derived.Test.YtenggkgmbmboeaaHandP
import Derived.Test.YtenggkgmbmboeaaBools
namespace Go.Proofs.Ytenggkgmbmboeaa.handleOrder
open Go.RowKit

def tab (n : Nat) (f : Nat → Int) : List Int := (List.range n).map f
theorem tab_length (n : Nat) (f : Nat → Int) : (tab n f).length = n := by simp [tab]
theorem tab_get (n : Nat) (f : Nat → Int) (i : Nat) (h : i < n) : (tab n f)[i]?.getD 0 = f i := by simp [tab, h]
theorem tab_out (n : Nat) (f : Nat → Int) (i : Nat) (h : n ≤ i) : (tab n f)[i]?.getD 0 = 0 := by rw [List.getElem?_eq_none (by rw [tab_length]; exact h)]; rfl
theorem eq_tab {xs : List Int} {n : Nat} {f : Nat → Int} (hl : xs.length = n) (h : ∀ t : Nat, t < n → xs[t]?.getD 0 = f t) : xs = tab n f :=
  eq_of_getD (by rw [hl, tab_length]) (fun t => by
    by_cases ht : t < n
    · rw [h t ht, tab_get n f t ht]
    · rw [tab_out n f t (by omega), List.getElem?_eq_none (by omega)]; rfl)
theorem tab_set {n : Nat} {f g : Nat → Int} {i : Nat} {v : Int} (_hi : i < n) (h1 : g i = v) (h2 : ∀ t, t < n → t ≠ i → g t = f t) : tab n g = (tab n f).set i v := by
  refine (eq_tab (by rw [List.length_set, tab_length]) (fun t ht => ?_)).symm
  by_cases e : i = t
  · subst e; rw [set_get_same _ _ _ (by rw [tab_length]; exact ht), h1]
  · rw [set_get_other _ _ _ _ e, tab_get n f t ht, h2 t ht (fun e' => e e'.symm)]

/-- Slot t, m of the slots that were dropped being held again. -/
def xF (k m : Nat) (fr : List Bool) (t : Nat) : Int := if t < k then (if fr[t]?.getD false = true then (if t < m then 700 + (t : Int) else 0) else (t : Int) + 1) else 0
def tF (fr : List Bool) (t : Nat) : Int := if fr[t]?.getD false = true then 2 else 1
def lF (m : Nat) (fr : List Bool) (t : Nat) : Int := if fr[t]?.getD false = true ∧ t < m then 1024 + (t : Int) else 512 + (t : Int)
def xsF (k m : Nat) (fr : List Bool) : List Int := tab 512 (xF k m fr)
def tsF (fr : List Bool) : List Int := tab 512 (tF fr)
def LF (k m : Nat) (fr : List Bool) : List Int := tab k (lF m fr)

theorem okF (k m : Nat) (fr : List Bool) (_hk : k ≤ 60) : HOK 1 (xsF k m fr) (tsF fr) := by
  refine ⟨tab_length _ _, tab_length _ _, fun i => ?_, fun i hi => ?_⟩
  · by_cases h : i < 512
    · unfold xsF; rw [tab_get _ _ _ h]; unfold xF
      split
      · split
        · split <;> omega
        · omega
      · omega
    · unfold xsF; rw [tab_out _ _ _ (by omega)]; omega
  · unfold tsF; rw [tab_get _ _ _ hi]; unfold tF; split <;> omega
theorem LF_zero (k : Nat) (fr : List Bool) : LF k 0 fr = upH k := by
  refine (eq_tab (upH_length k) (fun t ht => ?_)).symm
  rw [upH_get k t ht]; unfold lF; rw [if_neg (by omega)]
theorem start {k : Nat} {xs : List Int} (h1 : HOK 0 xs onesL) (h2 : Pref xs k) (h3 : ∀ t : Nat, t < k → xs[t]?.getD 0 = (t : Int) + 1) : xs = xsF k 0 (offs k) ∧ onesL = tsF (offs k) := by
  refine ⟨eq_tab h1.lx (fun t ht => ?_), eq_tab h1.lt (fun t ht => ?_)⟩
  · unfold xF
    rw [offs_get]
    split
    · rename_i h; rw [h3 t h]; simp
    · rename_i h; rw [h2.no t (by omega)]
  · rw [onesL_get t ht]; unfold tF; rw [offs_get]; simp
theorem drop_yes {k j : Nat} {fr : List Bool} (hk : k ≤ 60) (hl : fr.length = k) (hj : j < k) (hf : fr[j]?.getD false = false) : DropT (xsF k 0 fr) (tsF fr) (512 + (j : Int)) 0 (xsF k 0 (fr.set j true)) (tsF (fr.set j true)) := by
  have hx : (xsF k 0 fr)[j]?.getD 0 = (j : Int) + 1 := by unfold xsF; rw [tab_get _ _ _ (by omega)]; unfold xF; rw [if_pos hj, hf]; simp
  have ht : (tsF fr)[j]?.getD 0 = 1 := by unfold tsF; rw [tab_get _ _ _ (by omega)]; unfold tF; rw [hf]; simp
  refine .inr ⟨j, ⟨by omega, by omega, by omega⟩, rfl, ?_, ?_⟩
  · refine tab_set (by omega) ?_ (fun t ht hne => ?_)
    · unfold xF; rw [if_pos hj, bset_same _ _ _ (by omega), if_pos rfl, if_neg (by omega)]
    · unfold xF; rw [bset_other _ _ _ _ (fun e => hne e.symm)]
  · rw [ht]
    refine tab_set (by omega) ?_ (fun t ht hne => ?_)
    · unfold tF; rw [bset_same _ _ _ (by omega), if_pos rfl]; rfl
    · unfold tF; rw [bset_other _ _ _ _ (fun e => hne e.symm)]
theorem set_id {fr : List Bool} {j : Nat} (hj : j < fr.length) (hf : fr[j]?.getD false = true) : fr.set j true = fr := by
  refine beq_of_getD (by simp) (fun t => ?_)
  by_cases e : j = t
  · subst e; rw [bset_same _ _ _ hj, hf]
  · rw [bset_other _ _ _ _ e]
theorem drop_no {k j : Nat} {fr : List Bool} (hl : fr.length = k) (hk : k ≤ 60) (hj : j < k) (hf : fr[j]?.getD false = true) : DropT (xsF k 0 fr) (tsF fr) (512 + (j : Int)) 6 (xsF k 0 (fr.set j true)) (tsF (fr.set j true)) := by
  rw [set_id (by omega) hf]
  refine .inl ⟨?_, rfl, rfl, rfl⟩
  rintro i ⟨h1, h2, h3⟩
  have h4 := (okF k 0 fr hk).t i h1
  obtain rfl : i = j := by omega
  apply h2
  unfold xsF; rw [tab_get _ _ _ h1]; unfold xF; rw [if_pos hj, hf]; simp
theorem hold_yes {k j : Nat} {fr : List Bool} (hk : k ≤ 60) (hj : j < k) (hf : fr[j]?.getD false = true) : HoldT (xsF k j fr) (tsF fr) (700 + (j : Int)) (1024 + (j : Int)) 0 (xsF k (j + 1) fr) ∧ LF k (j + 1) fr = (LF k j fr).set j (1024 + (j : Int)) := by
  refine ⟨.inr (.inr ⟨by omega, j, ⟨by omega, ?_, fun t ht => ?_⟩, ?_, rfl, ?_⟩), ?_⟩
  · unfold xsF; rw [tab_get _ _ _ (by omega)]; unfold xF; rw [if_pos hj, if_pos hf, if_neg (by omega)]
  · unfold xsF; rw [tab_get _ _ _ (by omega)]; unfold xF; rw [if_pos (by omega)]
    split <;> omega
  · unfold tsF; rw [tab_get _ _ _ (by omega)]; unfold tF; rw [if_pos hf]; omega
  · refine tab_set (by omega) ?_ (fun t ht hne => ?_)
    · unfold xF; rw [if_pos hj, if_pos hf, if_pos (by omega)]
    · unfold xF
      by_cases e : t < j
      · rw [if_pos e, if_pos (show t < j + 1 by omega)]
      · rw [if_neg e, if_neg (show ¬ t < j + 1 by omega)]
  · refine tab_set hj ?_ (fun t ht hne => ?_)
    · unfold lF; rw [if_pos ⟨hf, by omega⟩]
    · unfold lF
      by_cases e : t < j
      · by_cases e2 : fr[t]?.getD false = true
        · rw [if_pos ⟨e2, by omega⟩, if_pos ⟨e2, e⟩]
        · rw [if_neg (fun h => e2 h.1), if_neg (fun h => e2 h.1)]
      · rw [if_neg (fun h => by omega), if_neg (fun h => by omega)]
theorem hold_no {k j : Nat} {fr : List Bool} (hf : fr[j]?.getD false = false) : xsF k (j + 1) fr = xsF k j fr ∧ LF k (j + 1) fr = LF k j fr := by
  refine ⟨eq_tab (tab_length _ _) (fun t ht => ?_), eq_tab (tab_length _ _) (fun t ht => ?_)⟩
  · unfold xsF
    rw [tab_get _ _ _ ht]
    unfold xF
    by_cases e : t = j
    · subst e; simp [hf]
    · by_cases e2 : t < j
      · simp [e2, show t < j + 1 by omega]
      · simp [e2, show ¬ t < j + 1 by omega]
  · unfold LF
    rw [tab_get _ _ _ ht]
    unfold lF
    by_cases e : t = j
    · subst e; simp [hf]
    · by_cases e2 : t < j
      · simp [e2, show t < j + 1 by omega]
      · simp [e2, show ¬ t < j + 1 by omega]
/-- In the end. -/
theorem prefF (k : Nat) (fr : List Bool) (hk : k ≤ 60) : Pref (xsF k k fr) k := by
  refine ⟨fun t ht => ?_, fun t ht => ?_⟩
  · unfold xsF; rw [tab_get _ _ _ (by omega)]; unfold xF; rw [if_pos ht]
    split <;> omega
  · by_cases h : t < 512
    · unfold xsF; rw [tab_get _ _ _ h]; unfold xF; rw [if_neg (by omega)]
    · unfold xsF; rw [tab_out _ _ _ (by omega)]
theorem allF (k : Nat) (fr : List Bool) (hk : k ≤ 60) (j : Nat) (hj : j < k) :
    (allH (xsF k k fr) (tsF fr))[j]? = some ((LF k k fr)[j]?.getD 0, if fr[j]?.getD false = true then 700 + (j : Int) else (j : Int) + 1) := by
  rw [(prefF k fr hk).get (by omega) _ j hj]
  have h1 : (LF k k fr)[j]?.getD 0 = (j : Int) + 512 * (tsF fr)[j]?.getD 0 := by
    unfold LF tsF
    rw [tab_get _ _ _ hj, tab_get _ _ _ (by omega)]
    unfold lF tF
    by_cases e : fr[j]?.getD false = true
    · rw [if_pos ⟨e, hj⟩, if_pos e]; omega
    · rw [if_neg (fun h => e h.1), if_neg e]; omega
  have h2 : (xsF k k fr)[j]?.getD 0 = if fr[j]?.getD false = true then 700 + (j : Int) else (j : Int) + 1 := by
    unfold xsF; rw [tab_get _ _ _ (by omega)]; unfold xF; rw [if_pos hj]
    by_cases e : fr[j]?.getD false = true
    · rw [if_pos e, if_pos e, if_pos hj]
    · rw [if_neg e, if_neg e]
  rw [h1, h2]

end Go.Proofs.Ytenggkgmbmboeaa.handleOrder
